/-
  Contracts of package wire's reader for lists (takeList, List): each answers as a function on lists of bytes says; but for the reader's own block nothing that was there before the call is changed.
-/
import Derived.Test.YtdfkcadnfoidaaaTextCalls
import Derived.Test.YtdfkcadnfoidaaaWList
namespace Go.Proofs.Ytdfkcadnfoidaaa
open Go.RowKit

theorem infoStr : (Try.prog.info? 9).map (fun i => (i.zero, i.size, i.bytes)) = some (some (.string ⟨#[]⟩), 1, 16) := by kernel_rfl

/-- strings as cells -/
def strCs (ss : List (List UInt8)) : List Value := ss.map fun s => .string (S s)
theorem strCs_snoc (ss : List (List UInt8)) (s : List UInt8) : strCs (ss ++ [s]) = strCs ss ++ [.string (S s)] := by simp [strCs]
theorem strCs_length (ss : List (List UInt8)) : (strCs ss).length = ss.length := by simp [strCs]

theorem ownsRow_but {w w' : World} {base b : Nat} {t : TypeId} {size : Nat} {v : Value} {n : Nat} {xs : List Value} (h : w.ownsRow base t size v n xs) (hb : But b w w') (hlt : b < base) : w'.ownsRow base t size v n xs := by
  obtain ⟨h1, h2⟩ := h
  refine ⟨h1, ?_⟩
  rcases h2 with h2 | ⟨g, cap, cur, hv, hg, hh, r⟩
  · exact .inl h2
  · have hgs : g < w.heap.size := by
      rcases Nat.lt_or_ge g w.heap.size with h | h
      · exact h
      · rw [Array.getElem?_eq_none h] at hh; cases hh
    exact .inr ⟨g, cap, cur, hv, hg, by rw [hb.block g hgs (by omega)]; exact hh, r⟩

theorem But.grown {b : Nat} {w0 w w' : World} {row : Option Nat} (h : But b w0 w) (hg : w.grownBy w' row) (hr : ∀ k, row = some k → w0.heap.size ≤ k) : But b w0 w' :=
  ⟨hg.os.trans h.os, hg.tape.trans h.tape, hg.output.trans h.output, Nat.le_trans h.size hg.size, fun k hk hb => (hg.block k (Nat.lt_of_lt_of_le hk h.size) (fun e => by have := hr k e.symm; omega)).trans (h.block k hk hb)⟩
theorem Rd.of_block {b e : Nat} {l : List UInt8} {w w' : World} (h : Rd w b l e) (hb : w'.heap[b]? = w.heap[b]?) (hs : w.heap.size ≤ w'.heap.size) : Rd w' b l e :=
  ⟨(World.cell?_of_block (w := w) (a := ⟨b, 0, none⟩) hb).trans h.rest, (World.cell?_of_block (w := w) (a := ⟨b, 1, none⟩) hb).trans h.err, (World.frozen?_of_block (w := w) (a := ⟨b, 0, none⟩) hb).trans h.fr, (World.frozen?_of_block (w := w) (a := ⟨b, 1, none⟩) hb).trans h.fe, Nat.lt_of_lt_of_le h.lt hs⟩

/-- TEXTS, n of them, behind those that are taken: the texts, what is left, why not -/
def texs (most : Int) : Nat → List (List UInt8) → List UInt8 → List (List UInt8) × List UInt8 × Nat
  | 0, acc, l => (acc, l, 0)
  | n + 1, acc, l => if (tex most l).2.2 ≠ 0 then ([], (tex most l).2.1, (tex most l).2.2) else texs most n (acc ++ [(tex most l).1]) (tex most l).2.1
/-- A LIST of at most 'many' texts of at most 'most' bytes -/
def lis (many most : Int) (l : List UInt8) : List (List UInt8) × List UInt8 × Nat :=
  if (cnt many l).2.2 ≠ 0 then ([], (cnt many l).2.1, (cnt many l).2.2) else texs most (cnt many l).1 [] (cnt many l).2.1

theorem numb_less : ∀ (l : List UInt8) (i acc : Nat), (numb i acc l).2.2 = 0 → (numb i acc l).2.1.length + 1 ≤ l.length
  | [], i, _ => by simp only [numb]; intro h; split at h <;> simp at h
  | c :: t, i, acc => by
    have ih := numb_less t (i + 1) (acc + c.toNat % 128 * 2 ^ (i * 7))
    rw [numb]
    split
    · simp
    · split
      · intro h; have := ih h; simp; omega
      · split <;> simp
theorem cnt_less {most : Int} {l : List UInt8} (h : (cnt most l).2.2 = 0) : (cnt most l).2.1.length + 1 ≤ l.length := by
  have := numb_less l 0 0
  unfold cnt at h ⊢
  split at h
  · rename_i h1; exact absurd h h1
  · split at h
    · simp at h
    · rename_i h1 h2
      rw [if_neg h1, if_neg h2]
      exact this (by simpa using h1)
theorem tex_less {most : Int} {l : List UInt8} (h : (tex most l).2.2 = 0) : (tex most l).2.1.length + 1 ≤ l.length := by
  unfold tex at h ⊢
  split at h
  · rename_i h1; exact absurd h h1
  · split at h
    · simp at h
    · rename_i h1 h2
      rw [if_neg h1, if_neg h2]
      have := cnt_less (most := most) (l := l) (by simpa using h1)
      simp; omega

set_option maxHeartbeats 4000000 in
set_option maxRecDepth 100000 in
theorem takeList_res {b e er : Nat} {many most : Int} {res : List (List UInt8)} {l rest : List UInt8} {w : World} (h : Rd w b l e) (hl : l.length ≤ 8796093022208) (hmany : many ≤ 9223372036854775807) (hm : most ≤ 9223372036854775807) (hres : Hid (lis many most l = (res, rest, er))) :
    Calls Try.prog 49 #[.pointer (some ⟨b, 0, none⟩), .int .i64 many, .int .i64 most] w fun r w' =>
      ∃ v', r = .returned (.tuple #[v', .int .i64 (er : Int)]) ∧ w'.ownsRow w.heap.size 9 1 v' res.length (strCs res) ∧ Rd w' b rest e ∧ But b w w' := by
  obtain ⟨i0, hi, hz0, hz1, hz2⟩ := info_parts infoStr
  obtain ⟨n, t, f, hn⟩ : ∃ n t f, cnt many l = (n, t, f) := ⟨_, _, _, rfl⟩
  have hc := hres.out
  simp only [lis, hn] at hc
  have htl := cnt_le many l
  rw [hn] at htl
  have HN : Hid (cnt many l = (n, t, f)) := hn
  have hblt := h.lt
  clear hres
  by_cases hf : f = 0
  · subst hf
    rw [if_neg (by simp)] at hc
    have hnn : n < 18446744073709551616 := by
      have h1 : (n : Int) ≤ many := by
        have h2 := hn
        unfold cnt at h2
        split at h2
        · simp only [Prod.mk.injEq] at h2; rename_i h3; exact absurd h2.2.2 h3
        · split at h2
          · simp at h2
          · simp only [Prod.mk.injEq] at h2; rw [← h2.1]; omega
      omega
    have HC : Hid (texs most n [] t = (res, rest, er)) := hc
    clear hc hn
    go_enter Try.func49, Try.ntmps49
    go_wp2_with (first | (go_at_call 52; refine (takeCount_res h hmany HN).mono ?_; rintro r w1 ⟨rfl, hr1, hb1⟩))
    go_loopw [10, 23] (fun vb vi wr => ∃ (k : Nat) (ss : List (List UInt8)) (l2 : List UInt8), k ≤ n ∧ vi = .int .u64 (k : Int) ∧ ss.length = k ∧ k + l2.length ≤ l.length ∧ Hid (texs most (n - k) ss l2 = (res, rest, er)) ∧ wr.ownsRow w.heap.size 9 1 vb ss.length (strCs ss) ∧ Rd wr b l2 e ∧ But b w wr)
      (fun _ vi _ => n - (intOf vi).toNat)
    case atStart => exact ⟨0, [], t, Nat.zero_le _, rfl, rfl, by omega, HC, World.ownsRow_nil _ _ _ _, hr1, hb1⟩
    case round =>
      obtain ⟨k, ss, l2, hk, rfl, hsl, hkl, HT, hown, hr, hbut⟩ := hrel
      clear HN HC hr1 hb1 h
      by_cases hkn : k < n
      · obtain ⟨s, t2, f2, htx⟩ : ∃ s t2 f2, tex most l2 = (s, t2, f2) := ⟨_, _, _, rfl⟩
        have HX : Hid (tex most l2 = (s, t2, f2)) := htx
        have hT := HT.out
        rw [show n - k = (n - (k + 1)) + 1 from by omega, texs, htx] at hT
        by_cases hf2 : f2 = 0
        · subst hf2
          rw [if_neg (by simp)] at hT
          have hle := tex_less (most := most) (l := l2) (by rw [htx])
          rw [htx] at hle
          have HT2 : Hid (texs most (n - (k + 1)) (ss ++ [s]) t2 = (res, rest, er)) := hT
          have hsz := hbut.size
          replace hle : t2.length + 1 ≤ l2.length := hle
          clear htx hT HT
          go_wp2_with fail
          refine (takeText_res hr (by omega) hm HX).mono ?_
          rintro r w2 ⟨rfl, hr2, hb2⟩
          have hown2 := ownsRow_but hown hb2 hblt
          have hbut2 := hbut.trans hb2
          have hsz2 := hbut2.size
          clear hown hr hb2 hbut HX
          go_wp2_with (at_builtin; refine wpList_append_own _ rfl _ _ 23 rfl w.heap.size 9 i0 (.string ⟨#[]⟩) 1 16 Try.underlying23 hi hz0 hz1 hz2 rfl (by decide) _ _ _ rfl (hown2.alloc _) ⟨w2.heap.size, 0, none⟩ 1 1 [Value.string (S s)] rfl rfl ?c1 ?c2 ?c3 ?c4 ?c5 ?_)
          case c1 =>
            intro j u hj
            match j, hj with
            | 0, hj => simp at hj; subst hj; simp [Addr.add]
          case c2 => intro u hu; simp at hu; subst hu; rfl
          case c3 => unfold maxLen; omega
          case c4 => omega
          case c5 => simp; omega
          intro v3 w3 hown3 hgrow _
          have hbut3 : But b w w3 := (hbut2.alloc _).grown hgrow (fun k hk => (hown2.lt k hk).1)
          have hr2a := hr2.alloc (.cells #[.string (S s)] 9)
          have hr3 : Rd w3 b t2 e := hr2a.of_block (hgrow.block b hr2a.lt (fun e2 => by have := (hown2.lt b e2.symm).1; omega)) hgrow.size
          have HS : Hid (strCs (ss ++ [s]) = strCs ss ++ [.string (S s)]) := strCs_snoc ss s
          clear hown2 hgrow hr2 hr2a hbut2
          go_wp2
          refine ⟨⟨k + 1, ss ++ [s], t2, by omega, by go_num, by simp [hsl], by omega, HT2, ?_, hr3, hbut3⟩, by simp [intOf]; omega⟩
          rw [HS.out, List.length_append, hsl]
          exact hown3
        · rw [if_pos hf2] at hT
          simp only [Prod.mk.injEq] at hT
          obtain ⟨rfl, rfl, rfl⟩ := hT
          have hbe : (((f2 : Nat) : Int) != 0) = true := by rw [bne_iff_ne]; omega
          clear hf2 HT htx hown
          go_wp2_with fail
          refine (takeText_res hr (by omega) hm HX).mono ?_
          rintro r w2 ⟨rfl, hr2, hb2⟩
          go_wp2
          go_ret2
          exact ⟨_, rfl, World.ownsRow_nil _ _ _ _, hr2, hbut.trans hb2⟩
      · have hkk : n - k = 0 := by omega
        have hT := HT.out
        rw [hkk, texs] at hT
        simp only [Prod.mk.injEq] at hT
        obtain ⟨rfl, rfl, rfl⟩ := hT
        clear HT hkk
        go_wp2
        go_ret2
        exact ⟨_, rfl, hown, hr, hbut⟩
  · rw [if_pos hf] at hc
    simp only [Prod.mk.injEq] at hc
    obtain ⟨rfl, rfl, rfl⟩ := hc
    have hbe : (((f : Nat) : Int) != 0) = true := by rw [bne_iff_ne]; omega
    clear hf hn
    go_enter Try.func49, Try.ntmps49
    go_wp2_with (first | (go_at_call 52; refine (takeCount_res h hmany HN).mono ?_; rintro r w1 ⟨rfl, hr1, hb1⟩))
    go_ret2
    exact ⟨_, rfl, World.ownsRow_nil _ _ _ _, hr1, hb1⟩

theorem Strs.of_own {w : World} {base : Nat} {v : Value} {ss : List (List UInt8)} (h : w.ownsRow base 9 1 v ss.length (strCs ss)) : Strs w v ss := by
  have hcs := fun g => h.cells (g := g)
  have hlt := h.lt
  rcases h.2 with ⟨rfl, h0⟩ | ⟨g, cap, cur, rfl, _⟩
  · have : ss = [] := List.length_eq_zero_iff.1 h0
    subst this
    exact ⟨none, 0, rfl, .inl rfl⟩
  · refine ⟨some ⟨g, 0, none⟩, cap, rfl, .inr ⟨g, 0, rfl, (hlt g rfl).2, fun j hj => ?_⟩⟩
    have := hcs g rfl j (.string (S (ss.getD j []))) (by simp [strCs, List.getD, hj])
    rw [Addr.add_lit] at this
    exact this

/-- three new blocks: what they hold -/
theorem three (w : World) (x y z : Value) (p q r : TypeId) :
    (((w.alloc (.cells #[x] p)).alloc (.cells #[y] q)).alloc (.cells #[z] r)).cell? ⟨w.heap.size, 0, none⟩ = some x ∧
    (((w.alloc (.cells #[x] p)).alloc (.cells #[y] q)).alloc (.cells #[z] r)).cell? ⟨w.heap.size + 1, 0, none⟩ = some y ∧
    (((w.alloc (.cells #[x] p)).alloc (.cells #[y] q)).alloc (.cells #[z] r)).cell? ⟨w.heap.size + 1 + 1, 0, none⟩ = some z := by
  refine ⟨?_, ?_, ?_⟩
  · rw [World.cell?_alloc_past _ _ _ (by simp; omega), World.cell?_alloc_past _ _ _ (by simp)]
    simp
  · rw [World.cell?_alloc_past _ _ _ (by simp), World.cell?_alloc_at _ _ _ _ (by simp)]
    rfl
  · rw [World.cell?_alloc_at _ _ _ _ (by simp)]
    rfl

set_option maxHeartbeats 400000 in
theorem Lst_nil (many most : Int) (w : World) : Calls Try.prog 28 #[.pointer none, .int .i64 many, .int .i64 most] w fun r w' => r = .returned (.slice none 0 0) ∧ Below w.heap.size w w' := by
  go_enter Try.func28, Try.ntmps28
  go_wp2_with (first | (go_at_call 31; refine (Err_nil _).mono ?_; rintro r w' ⟨rfl, rfl⟩) | go_in)
  go_ret
  exact ⟨rfl, (((Below.refl _ _).alloc (Nat.le_refl _) _).alloc (by simp) _).alloc (by simp; omega) _⟩

set_option maxHeartbeats 400000 in
theorem Lst_wrong {b e : Nat} {l : List UInt8} {w : World} (h : Rd w b l e) (he : e ≠ 0) (many most : Int) : Calls Try.prog 28 #[.pointer (some ⟨b, 0, none⟩), .int .i64 many, .int .i64 most] w fun r w' => r = .returned (.slice none 0 0) ∧ Rd w' b l e ∧ But b w w' := by
  have hb : (((e : Nat) : Int) != 0) = true := by rw [bne_iff_ne]; omega
  clear he
  go_enter Try.func28, Try.ntmps28
  go_wp2_with (first | (go_at_call 31; refine (Err_any (((h.alloc _).alloc _).alloc _)).mono ?_; rintro r w' ⟨rfl, rfl⟩) | go_in)
  go_ret
  exact ⟨rfl, ((h.alloc _).alloc _).alloc _, (((But.refl _ _).alloc _).alloc _).alloc _⟩

set_option maxHeartbeats 2000000 in
theorem Lst_ok {b : Nat} {many most : Int} {res : List (List UInt8)} {l rest : List UInt8} {w : World} (h : Rd w b l 0) (hl : l.length ≤ 8796093022208) (hmany : many ≤ 9223372036854775807) (hm : most ≤ 9223372036854775807) (hres : Hid (lis many most l = (res, rest, 0))) :
    Calls Try.prog 28 #[.pointer (some ⟨b, 0, none⟩), .int .i64 many, .int .i64 most] w fun r w' => ∃ v', r = .returned v' ∧ Strs w' v' res ∧ Rd w' b rest 0 ∧ But b w w' := by
  have h2 := (((h.alloc (.cells #[.pointer (some ⟨b, 0, none⟩)] 31)).alloc (.cells #[.int .i64 many] 3)).alloc (.cells #[.int .i64 most] 3))
  obtain ⟨k1, k2, k3⟩ := three w (.pointer (some ⟨b, 0, none⟩)) (.int .i64 many) (.int .i64 most) 31 3 3
  have h0 := h2.rest
  go_enter Try.func28, Try.ntmps28
  go_wp2_with (first
    | (go_at_call 31; refine (Err_any h2).mono ?_; rintro r w' ⟨rfl, rfl⟩)
    | (go_at_call 49; refine (takeList_res h2 hl hmany hm hres).mono ?_; rintro r w' ⟨v', rfl, hown, hr, hb⟩; have hst := Strs.of_own hown; clear hown)
    | go_in)
  go_ret
  exact ⟨_, rfl, hst, hr, ((((But.refl _ _).alloc _).alloc _).alloc _).trans hb⟩

set_option maxHeartbeats 2000000 in
theorem Lst_bad {b er : Nat} {many most : Int} {res : List (List UInt8)} {l rest : List UInt8} {w : World} (h : Rd w b l 0) (hl : l.length ≤ 8796093022208) (hmany : many ≤ 9223372036854775807) (hm : most ≤ 9223372036854775807) (hres : Hid (lis many most l = (res, rest, er))) (he : er ≠ 0) :
    Calls Try.prog 28 #[.pointer (some ⟨b, 0, none⟩), .int .i64 many, .int .i64 most] w fun r w' => r = .returned (.slice none 0 0) ∧ Rd w' b l er ∧ But b w w' := by
  have h2 := (((h.alloc (.cells #[.pointer (some ⟨b, 0, none⟩)] 31)).alloc (.cells #[.int .i64 many] 3)).alloc (.cells #[.int .i64 most] 3))
  obtain ⟨k1, k2, k3⟩ := three w (.pointer (some ⟨b, 0, none⟩)) (.int .i64 many) (.int .i64 most) 31 3 3
  have h0 := h2.rest
  have hbe : (((er : Nat) : Int) != 0) = true := by rw [bne_iff_ne]; omega
  clear he
  go_enter Try.func28, Try.ntmps28
  go_wp2_with (first
    | (go_at_call 31; refine (Err_any h2).mono ?_; rintro r w' ⟨rfl, rfl⟩)
    | (go_at_call 49; refine (takeList_res h2 hl hmany hm hres).mono ?_; rintro r w' ⟨v', rfl, hown, hr, hb⟩; clear hown; have fr := hr.fr; have fe := hr.fe; have c0 := hr.rest; have c1 := hr.err)
    | go_in)
  go_ret
  exact ⟨rfl, (hr.set0 l).set1 er, ((((((But.refl _ _).alloc _).alloc _).alloc _).trans hb).setCell _ _).setCell _ _⟩

end Go.Proofs.Ytdfkcadnfoidaaa

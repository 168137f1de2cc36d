/-
  The document's map of texts to ints: Less, find, Get.
-/
import Derived.Test.YtlhijbgdccejbaaROrd
namespace Go.Proofs.Ytlhijbgdccejbaa
open Go.RowKit Go.Shelf Go.Sort
open Go.Lib hiding intOf

/-- the document's map in block rb: keys and values -/
structure Rf (w : World) (rb base : Nat) (es : List Ent) (kv vv : Value) : Prop where
  hd : w.heap[rb]? = some (.cells #[kv, vv] 57 (0, 0))
  al : kv.ownBlock.isSome = vv.ownBlock.isSome
  kv : KV w base kv vv es

theorem Rf.cell0 {w : World} {rb base : Nat} {es : List Ent} {kv vv : Value} (h : Rf w rb base es kv vv) : w.cell? ⟨rb, 0, none⟩ = some kv := by simp [World.cell?, h.hd]

theorem Rf.cell1 {w : World} {rb base : Nat} {es : List Ent} {kv vv : Value} (h : Rf w rb base es kv vv) : w.cell? ⟨rb, 1, none⟩ = some vv := by simp [World.cell?, h.hd]

theorem Rf.fro {w : World} {rb base : Nat} {es : List Ent} {kv vv : Value} (h : Rf w rb base es kv vv) (j : Nat) : w.frozen? ⟨rb, j, none⟩ = false := by simp [World.frozen?, h.hd]

theorem Rf.lt {w : World} {rb base : Nat} {es : List Ent} {kv vv : Value} (h : Rf w rb base es kv vv) : rb < w.heap.size := (Array.getElem?_eq_some_iff.1 h.hd).1

/-- from place i on one text is less than another one -/
theorem less_from (a b : List UInt8) (i : Nat) (ha : i < a.length) (hb : i < b.length) (hp : a.take i = b.take i) : (a < b ↔ (a[i] < b[i] ∨ (a[i] = b[i] ∧ a.drop (i + 1) < b.drop (i + 1)))) := by
  have e1 : a = a.take i ++ (a[i] :: a.drop (i + 1)) := by rw [List.getElem_cons_drop]; exact (List.take_append_drop i a).symm
  have e2 : b = a.take i ++ (b[i] :: b.drop (i + 1)) := by rw [hp, List.getElem_cons_drop]; exact (List.take_append_drop i b).symm
  have key : ∀ (p x y : List UInt8), p ++ x < p ++ y ↔ x < y := by
    intro p x y
    induction p with
    | nil => rfl
    | cons c p ih => simp only [List.cons_append, List.cons_lt_cons_iff, ih]; simp
  have h1 : (a < b) ↔ (a.take i ++ (a[i] :: a.drop (i + 1)) < a.take i ++ (b[i] :: b.drop (i + 1))) := by rw [← e1, ← e2]
  rw [h1, key, List.cons_lt_cons_iff]

theorem get_list (a : ByteArray) (i : Nat) (h : i < a.size) : a.data.toList[i]'(by simpa using h) = a[i] := rfl

theorem below_drewN {B : Nat} {w wr : World} (h : Below B w wr) (n : Nat) : Below B w (wr.drewN n) := ⟨h.os, h.tape, h.output, h.size, h.block⟩

theorem less_done (a b : ByteArray) (i : Nat) (h1 : i ≤ a.size) (h2 : i ≤ b.size) (h3 : a.data.toList.take i = b.data.toList.take i) (he : i = a.size ∨ i = b.size) : lt a b = decide (a.size < b.size) := by
  have la : a.data.toList.length = a.size := by simp
  have lb : b.data.toList.length = b.size := by simp
  rw [Bool.eq_iff_iff, lt_iff, decide_eq_true_iff]
  by_cases ha : i = a.size
  · rw [List.take_of_length_le (by omega)] at h3
    rw [h3]
    by_cases hb : i = b.size
    · rw [List.take_of_length_le (by omega)]
      constructor
      · intro h; exact absurd h (List.lt_irrefl _)
      · intro h; omega
    · constructor
      · intro _; omega
      · intro _
        have hd : b.data.toList.drop i ≠ [] := by
          intro h
          have := congrArg List.length h
          rw [List.length_drop, lb] at this
          simp at this
          omega
        have : ∀ (p r : List UInt8), r ≠ [] → p < p ++ r := by
          intro p r hr
          induction p with
          | nil => cases r with
            | nil => exact absurd rfl hr
            | cons c r => simp
          | cons c p ih => rw [List.cons_append, List.cons_lt_cons_iff]; exact .inr ⟨rfl, ih⟩
        have h5 := this (b.data.toList.take i) _ hd
        rw [List.take_append_drop] at h5
        exact h5
  · have hb : i = b.size := he.resolve_left ha
    rw [List.take_of_length_le (l := b.data.toList) (by omega)] at h3
    constructor
    · intro h
      rw [← h3] at h
      exact absurd h (List.not_lt.2 (List.IsPrefix.le (List.take_prefix i _)))
    · intro h; omega

set_option maxHeartbeats 1000000 in
theorem Less_any (a b : ByteArray) (ha : a.size < 4611686018427387904) (_hb : b.size < 4611686018427387904) (w : World) : Calls Try.prog 18 #[.string a, .string b] w fun e w' => e = .returned (.bool (lt a b)) ∧ Below w.heap.size w w' := by
  go_enter Try.func18, Try.ntmps18
  go_wp2
  go_loopw [5] (fun vi wr => ∃ i : Nat, vi = .int .i64 i ∧ i ≤ a.size ∧ i ≤ b.size ∧ a.data.toList.take i = b.data.toList.take i ∧ Below w.heap.size w wr) (fun vi _ => a.size - (intOf vi).toNat)
  case atStart => exact ⟨0, rfl, Nat.zero_le _, Nat.zero_le _, by simp, Below.refl _ _⟩
  case round =>
    obtain ⟨i, rfl, h1, h2, h3, hB⟩ := hrel
    have H3 : Hid (a.data.toList.take i = b.data.toList.take i) := h3
    clear h3
    have la : a.data.toList.length = a.size := by simp
    have lb : b.data.toList.length = b.size := by simp
    by_cases hia : i < a.size
    · have hii : (i : Int) < (a.size : Int) := by omega
      by_cases hib : i < b.size
      · have hij : (i : Int) < (b.size : Int) := by omega
        have hlf := less_from a.data.toList b.data.toList i (by simpa using hia) (by simpa using hib) H3.out
        rw [get_list a i hia, get_list b i hib] at hlf
        by_cases hab : a[i] = b[i]
        · have hne : ((a[i].toNat : Int) != (b[i].toNat : Int)) = false := by simp [hab]
          have R : Hid (a.data.toList.take (i + 1) = b.data.toList.take (i + 1)) := by
            show a.data.toList.take (i + 1) = b.data.toList.take (i + 1)
            rw [List.take_succ_eq_append_getElem (by simpa using hia), List.take_succ_eq_append_getElem (by simpa using hib), H3.out, get_list a i hia, get_list b i hib, hab]
          clear hlf hab la lb
          go_wp2_with fail
          go_quiet (fail)
          all_goals go_wp2_with fail
          go_roundw
          case rel => exact ⟨i + 1, by simp, by omega, by omega, R.out, below_drewN hB _⟩
          case measure => simp [intOf]; omega
        · have hne : ((a[i].toNat : Int) != (b[i].toNat : Int)) = true := by
            simp only [bne_iff_ne, ne_eq]
            intro h
            exact hab (UInt8.toNat_inj.1 (by omega))
          have R : Hid (decide (a[i].toNat < b[i].toNat) = lt a b) := by
            show decide (a[i].toNat < b[i].toNat) = lt a b
            rw [Bool.eq_iff_iff, lt_iff, hlf, decide_eq_true_iff]
            constructor
            · intro h; exact .inl (UInt8.lt_iff_toNat_lt.2 h)
            · rintro (h | ⟨h, _⟩)
              · exact UInt8.lt_iff_toNat_lt.1 h
              · exact absurd h hab
          clear hlf hab la lb
          go_wp2_with fail
          go_quiet (fail)
          all_goals go_wp2_with fail
          go_quiet (fail)
          all_goals go_wp2_with fail
          all_goals go_ret
          all_goals exact ⟨by rw [← R.out]; rfl, below_drewN (below_drewN hB _) _⟩
      · have R := less_done a b i h1 h2 H3.out (.inr (by omega))
        have R' : Hid (lt a b = decide (a.size < b.size)) := R
        clear R la lb
        have hij : ¬ (i : Int) < (b.size : Int) := by omega
        go_wp2
        all_goals go_ret
        all_goals exact ⟨by rw [R'.out]; rfl, hB⟩
    · have R := less_done a b i h1 h2 H3.out (.inl (by omega))
      have R' : Hid (lt a b = decide (a.size < b.size)) := R
      clear R la lb
      have hii : ¬ (i : Int) < (a.size : Int) := by omega
      go_wp2
      all_goals go_ret
      all_goals exact ⟨by rw [R'.out]; rfl, hB⟩

theorem kcells_get {es : List Ent} {i : Nat} (h : i < es.length) : (kcells es)[i]? = some (.string es[i].1) := by simp [kcells, h]

theorem vcells_get {es : List Ent} {i : Nat} (h : i < es.length) : (vcells es)[i]? = some (.int .i64 es[i].2) := by simp [vcells, h]

theorem pos_step {es : List Ent} (hs : Rise es) (k : ByteArray) {i : Nat} (hi : i ≤ pos es k) (hl : i < es.length) : (lt es[i].1 k = true → i + 1 ≤ pos es k) ∧ (lt es[i].1 k = false → i = pos es k) := by
  have := pos_lt es k i hs hl
  constructor
  · intro h; have := this.1 h; omega
  · intro h
    by_cases he : i < pos es k
    · rw [this.2 he] at h; cases h
    · omega

/-- all keys are short enough -/
def Short (es : List Ent) : Prop := ∀ e ∈ es, e.1.size < 4611686018427387904

theorem Rf.below {w w' : World} {rb base : Nat} {es : List Ent} {kv vv : Value} (h : Rf w rb base es kv vv) (hb : Below w.heap.size w w') : Rf w' rb base es kv vv :=
  have hc : Ch (fun _ => False) w w' := Ch.of_below hb
  ⟨hc.obj h.hd id, h.al, hc.row h.kv.1 (fun _ _ => id), hc.row h.kv.2 (fun _ _ => id)⟩

set_option maxHeartbeats 2000000 in
theorem rfind_any {w : World} {rb base : Nat} {es : List Ent} {kv vv : Value} (h : Rf w rb base es kv vv) (hs : Rise es) (hsh : Short es) (k : ByteArray) (hk : k.size < 4611686018427387904) (hn : es.length < 4611686018427387904) :
    Calls Try.prog 34 #[.pointer (some ⟨rb, 0, none⟩), .string k] w fun e w' => e = .returned (.int .i64 (pos es k : Nat)) ∧ Below w.heap.size w w' := by
  have hle := pos_le es k
  have H : Hid (Rf w rb base es kv vv ∧ Rise es ∧ Short es) := ⟨h, hs, hsh⟩
  obtain ⟨ka, kc, rfl, hka, -⟩ := row_slice h.kv.1
  clear h hs hsh
  go_enter Try.func34, Try.ntmps34
  go_wp2
  go_loopw [5] (fun vi wr => ∃ i : Nat, vi = .int .i64 i ∧ i ≤ pos es k ∧ Below w.heap.size w wr) (fun vi _ => pos es k - (intOf vi).toNat)
  case atStart => exact ⟨0, rfl, Nat.zero_le _, Below.refl _ _⟩
  case round =>
    obtain ⟨i, rfl, h1, hB⟩ := hrel
    have hR := H.out.1.below hB
    have h0 := hR.cell0
    by_cases hl : i < es.length
    · have hli : (i : Int) < (es.length : Int) := by omega
      have hc := H.out.1.kv.1
      rcases hR.kv.1.2 with ⟨hx, h00⟩ | ⟨g, cap, cur, hx, -, hg, -⟩
      · omega
      · cases hx
        have hcell := row_cell hR.kv.1 (kcells_get hl)
        have hstep := pos_step H.out.2.1 k h1 hl
        have hL := Less_any es[i].1 k (H.out.2.2 _ (List.getElem_mem hl)) hk wr
        have S : Hid ((lt es[i].1 k = true → i + 1 ≤ pos es k) ∧ (lt es[i].1 k = false → i = pos es k)) := hstep
        clear hstep hc hR
        generalize es[i].1 = y at *
        cases hlt : lt y k with
        | true =>
          rw [hlt] at hL
          have hs1 := S.out.1 hlt
          go_wp2_with (go_at_call 18; refine hL.mono ?_; rintro e w2 ⟨rfl, hB2⟩)
          go_roundw
          case rel => exact ⟨i + 1, by simp, hs1, hB.trans (hB2.mono hB.size)⟩
          case measure => simp [intOf]; omega
        | false =>
          rw [hlt] at hL
          have hs1 := S.out.2 hlt
          have HS : Hid (i = pos es k) := hs1
          clear hs1
          go_wp2_with (go_at_call 18; refine hL.mono ?_; rintro e w2 ⟨rfl, hB2⟩)
          go_ret
          exact ⟨by rw [HS.out]; rfl, hB.trans (hB2.mono hB.size)⟩
    · have hli : ¬ (i : Int) < (es.length : Int) := by omega
      have HS : Hid (i = pos es k) := by show i = pos es k; omega
      clear hR
      go_wp2
      go_ret
      exact ⟨by rw [HS.out]; rfl, hB⟩

set_option maxHeartbeats 2000000 in
theorem rGet_any {w : World} {rb base : Nat} {es : List Ent} {kv vv : Value} (h : Rf w rb base es kv vv) (hs : Rise es) (hsh : Short es) (k : ByteArray) (hk : k.size < 4611686018427387904) (hn : es.length < 4611686018427387904) :
    Calls Try.prog 38 #[.pointer (some ⟨rb, 0, none⟩), .string k] w fun e w' => e = .returned (.tuple #[.int .i64 (val es k), .bool (has es k)]) ∧ Below w.heap.size w w' := by
  have hf := rfind_any h hs hsh k hk hn
  have hle := pos_le es k
  have H : Hid (Rf w rb base es kv vv) := h
  obtain ⟨ka, kc, rfl, -⟩ := row_slice h.kv.1
  obtain ⟨va, vc, rfl, -⟩ := row_slice h.kv.2
  by_cases hr : pos es k < es.length
  · have hri : ((pos es k : Nat) : Int) < (es.length : Int) := by omega
    rcases h.kv.1.2 with ⟨hx, h00⟩ | ⟨g, cap, cur, hx, -, hg, -⟩
    · omega
    cases hx
    rcases h.kv.2.2 with ⟨hx, h00⟩ | ⟨g', cap', cur', hx, -, hg', -⟩
    · omega
    cases hx
    have c1 := row_cell h.kv.1 (kcells_get hr)
    have c2 := row_cell h.kv.2 (vcells_get hr)
    have l1 := World.block_lt_of_cell? _ _ c1
    have l2 := World.block_lt_of_cell? _ _ c2
    have hhas : has es k = (es[pos es k].1.toList == k.toList) := by simp [has, hr]
    have hval : val es k = if (es[pos es k].1.toList == k.toList) = true then es[pos es k].2 else 0 := by simp [val, hhas, hr]
    rw [hval, hhas]
    generalize es[pos es k].1 = y at *
    generalize es[pos es k].2 = z at *
    have hlt := h.lt
    have e0 := h.cell0
    have e1 := h.cell1
    clear h hg hg' hval hhas hs hsh
    generalize pos es k = r at *
    generalize es.length = n at *
    cases he : (y.toList == k.toList) with
    | true =>
      go_enter Try.func38, Try.ntmps38
      go_wp2_with (go_at_call 34; refine hf.mono ?_; rintro e w2 ⟨rfl, hB2⟩; have f0 := (hB2.cell (p := ⟨rb, 0, none⟩) hlt).trans e0; have f1 := (hB2.cell (p := ⟨rb, 1, none⟩) hlt).trans e1; have f2 := (hB2.cell (p := ⟨g, r, none⟩) l1).trans c1; have f3 := (hB2.cell (p := ⟨g', r, none⟩) l2).trans c2)
      go_ret2
      exact ⟨rfl, hB2⟩
    | false =>
      go_enter Try.func38, Try.ntmps38
      go_wp2_with (go_at_call 34; refine hf.mono ?_; rintro e w2 ⟨rfl, hB2⟩; have f0 := (hB2.cell (p := ⟨rb, 0, none⟩) hlt).trans e0; have f1 := (hB2.cell (p := ⟨rb, 1, none⟩) hlt).trans e1; have f2 := (hB2.cell (p := ⟨g, r, none⟩) l1).trans c1)
      go_ret2
      exact ⟨rfl, hB2⟩
  · have hhas : has es k = false := by simp [has, hr]
    have hval : val es k = 0 := by simp [val, hhas]
    rw [hval, hhas]
    have hri : ¬ ((pos es k : Nat) : Int) < (es.length : Int) := by omega
    have hlt := h.lt
    have e0 := h.cell0
    clear h hs hsh hval hhas
    generalize pos es k = r at *
    generalize es.length = n at *
    go_enter Try.func38, Try.ntmps38
    go_wp2_with (go_at_call 34; refine hf.mono ?_; rintro e w2 ⟨rfl, hB2⟩; have f0 := (hB2.cell (p := ⟨rb, 0, none⟩) hlt).trans e0)
    go_ret2
    exact ⟨rfl, hB2⟩
end Go.Proofs.Ytlhijbgdccejbaa

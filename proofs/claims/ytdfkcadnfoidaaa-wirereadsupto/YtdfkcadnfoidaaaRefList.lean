/-
  Contracts of the two readers' call List, wire's and the document's: the same answers, by a function on lists of bytes; but for the reader's own block nothing that was there before the call is changed.
-/
import Derived.Test.YtdfkcadnfoidaaaRefText
namespace Go.Proofs.Ytdfkcadnfoidaaa
open Go.RowKit

/-- A LIST -/
def rdL (many most : Int) (l : List UInt8) (e : Nat) : List (List UInt8) × List UInt8 × Nat :=
  if e = 0 then (if (lis many most l).2.2 = 0 then ((lis many most l).1, (lis many most l).2.1, 0) else ([], l, (lis many most l).2.2)) else ([], l, e)

theorem List_all {b e e2 : Nat} {many most : Int} {res : List (List UInt8)} {l l2 : List UInt8} {w : World} (h : Rd w b l e) (hl : l.length ≤ 8796093022208) (hmany : many ≤ 9223372036854775807) (hm : most ≤ 9223372036854775807) (hres : Hid (rdL many most l e = (res, l2, e2))) :
    Calls Try.prog 28 #[.pointer (some ⟨b, 0, none⟩), .int .i64 many, .int .i64 most] w fun r w' => ∃ v', r = .returned v' ∧ w'.ownsRow w.heap.size 9 1 v' res.length (strCs res) ∧ Rd w' b l2 e2 ∧ But b w w' := by
  have hr := hres.out
  obtain ⟨v1, r1, f1, hn⟩ : ∃ v1 r1 f1, lis many most l = (v1, r1, f1) := ⟨_, _, _, rfl⟩
  unfold rdL at hr
  rw [hn] at hr
  by_cases he : e = 0
  · subst he
    rw [if_pos rfl] at hr
    by_cases hf : f1 = 0
    · subst hf
      rw [if_pos rfl] at hr
      simp only [Prod.mk.injEq] at hr
      obtain ⟨rfl, rfl, rfl⟩ := hr
      exact Lst_own h hl hmany hm hn
    · rw [if_neg hf] at hr
      simp only [Prod.mk.injEq] at hr
      obtain ⟨rfl, rfl, rfl⟩ := hr
      refine (Lst_bad h hl hmany hm hn hf).mono ?_
      rintro r w' ⟨rfl, hr, hb⟩
      exact ⟨_, rfl, World.ownsRow_nil _ _ _ _, hr, hb⟩
  · rw [if_neg he] at hr
    simp only [Prod.mk.injEq] at hr
    obtain ⟨rfl, rfl, rfl⟩ := hr
    refine (Lst_wrong h he many most).mono ?_
    rintro r w' ⟨rfl, hr, hb⟩
    exact ⟨_, rfl, World.ownsRow_nil _ _ _ _, hr, hb⟩

set_option maxHeartbeats 4000000 in
set_option maxRecDepth 100000 in
/-- a reader that is wrong, or whose bytes begin with no number -/
theorem rList_stop {b e f : Nat} {many most : Int} {l : List UInt8} {w : World} (h : Rd w b l e) (hl : l.length ≤ 8796093022208) (hU : Hid (rdU l e = (0, l, f))) (hf : f ≠ 0) :
    Calls Try.prog 29 #[.pointer (some ⟨b, 0, none⟩), .int .i64 many, .int .i64 most] w fun r w' => r = .returned (.slice none 0 0) ∧ Rd w' b l f ∧ But b w w' := by
  have c0 := h.rest
  have hbe : (((f : Nat) : Int) != 0) = true := by rw [bne_iff_ne]; omega
  have hbf : (((f : Nat) : Int) == 0) = false := beq_eq_false_iff_ne.2 (by omega)
  clear hf
  go_enter Try.func29, Try.ntmps29
  go_wp2_with fail
  refine (rUint_all h (by omega) hU).mono ?_
  rintro r w1 ⟨rfl, rd1, b1⟩
  have k0 := rd1.rest; have k1 := rd1.err; have kf0 := rd1.fr; have kf1 := rd1.fe
  go_wp2_with fail
  refine wp_loop_rounds 1 ?_
  rw [rounds_succ]
  go_wp2
  go_ret
  exact ⟨rfl, rd1.set0 l, b1.setCell _ _⟩

set_option maxHeartbeats 4000000 in
set_option maxRecDepth 100000 in
/-- more than are allowed -/
theorem rList_many {b v : Nat} {many most : Int} {l rest : List UInt8} {w : World} (h : Rd w b l 0) (hl : l.length ≤ 8796093022208) (hmany : many ≤ 9223372036854775807) (hmany0 : -9223372036854775808 ≤ many) (hU : Hid (rdU l 0 = (v, rest, 0))) (hbig : many < (v : Int)) :
    Calls Try.prog 29 #[.pointer (some ⟨b, 0, none⟩), .int .i64 many, .int .i64 most] w fun r w' => r = .returned (.slice none 0 0) ∧ Rd w' b l 13 ∧ But b w w' := by
  have c0 := h.rest
  have hv := rdU_lt hU
  by_cases hneg : many < 0
  · by_cases hv0 : 0 < v
    · go_enter Try.func29, Try.ntmps29
      go_wp2_with fail
      refine (rUint_all h (by omega) hU).mono ?_
      rintro r w1 ⟨rfl, rd1, b1⟩
      have k0 := rd1.rest; have k1 := rd1.err; have kf0 := rd1.fr; have kf1 := rd1.fe
      go_wp2_with fail
      refine wp_loop_rounds 1 ?_
      rw [rounds_succ]
      go_wp2
      go_ret
      exact ⟨rfl, (rd1.set1 13).set0 l, (b1.setCell _ _).setCell _ _⟩
    · go_enter Try.func29, Try.ntmps29
      go_wp2_with fail
      refine (rUint_all h (by omega) hU).mono ?_
      rintro r w1 ⟨rfl, rd1, b1⟩
      have k0 := rd1.rest; have k1 := rd1.err; have kf0 := rd1.fr; have kf1 := rd1.fe
      go_wp2_with fail
      refine wp_loop_rounds 1 ?_
      rw [rounds_succ]
      go_wp2
      go_ret
      exact ⟨rfl, (rd1.set1 13).set0 l, (b1.setCell _ _).setCell _ _⟩
  · have hw : IntKind.u64.wrap many = many := IntWalk.u64_in _ ⟨by omega, by omega⟩
    have hv0 : 0 < v := by omega
    go_enter Try.func29, Try.ntmps29
    go_wp2_with fail
    refine (rUint_all h (by omega) hU).mono ?_
    rintro r w1 ⟨rfl, rd1, b1⟩
    have k0 := rd1.rest; have k1 := rd1.err; have kf0 := rd1.fr; have kf1 := rd1.fe
    go_wp2_with fail
    refine wp_loop_rounds 1 ?_
    rw [rounds_succ]
    go_wp2
    go_ret
    exact ⟨rfl, (rd1.set1 13).set0 l, (b1.setCell _ _).setCell _ _⟩

/-- behind k texts all went well -/
def GoodSt (most : Int) (n er : Nat) (res : List (List UInt8)) (rest l : List UInt8) (k e3 : Nat) (ss : List (List UInt8)) (l3 : List UInt8) : Prop :=
  e3 = 0 ∧ k + l3.length ≤ l.length ∧ texs most (n - k) ss l3 = (res, rest, er)
/-- a text could not be read -/
def BadSt (er e3 : Nat) : Prop := e3 ≠ 0 ∧ er = e3
/-- what List leaves -/
def LOut (w' : World) (base b er : Nat) (v' : Value) (res : List (List UInt8)) (l rest : List UInt8) : Prop :=
  (er = 0 ∧ w'.ownsRow base 9 1 v' res.length (strCs res) ∧ Rd w' b rest 0) ∨ (er ≠ 0 ∧ v' = .slice none 0 0 ∧ Rd w' b l er)

set_option maxHeartbeats 4000000 in
set_option maxRecDepth 100000 in
theorem rList_go {b n er : Nat} {many most : Int} {res : List (List UInt8)} {l t rest : List UInt8} {w : World} (h : Rd w b l 0) (hl : l.length ≤ 8000000000000) (hmany : many ≤ 9223372036854775807) (hm : most ≤ 9223372036854775807) (hm0 : -9223372036854775808 ≤ most)
    (hU : Hid (rdU l 0 = (n, t, 0))) (htl : t.length ≤ l.length) (hnm : (n : Int) ≤ many) (hT : Hid (texs most n [] t = (res, rest, er))) :
    Calls Try.prog 29 #[.pointer (some ⟨b, 0, none⟩), .int .i64 many, .int .i64 most] w fun r w' =>
      ∃ v', r = .returned v' ∧ LOut w' w.heap.size b er v' res l rest ∧ But b w w' := by
  obtain ⟨i0, hi, hz0, hz1, hz2⟩ := info_parts infoStr
  have c0 := h.rest
  have hblt := h.lt
  have hv := rdU_lt hU
  have hw : IntKind.u64.wrap many = many := IntWalk.u64_in _ ⟨by omega, by omega⟩
  have hneg : ¬ many < 0 := by omega
  go_enter Try.func29, Try.ntmps29
  go_wp2_with fail
  refine (rUint_all h (by omega) hU).mono ?_
  rintro r w1 ⟨rfl, rd1, b1⟩
  have k0 := rd1.rest; have k1 := rd1.err; have kf0 := rd1.fr; have kf1 := rd1.fe
  go_wp2_with fail
  clear k0 k1 kf0 kf1 hw hneg hnm
  go_loopw [9, 10] (fun vb vi wr => ∃ (k e3 : Nat) (ss : List (List UInt8)) (l3 : List UInt8), k ≤ n ∧ vi = .int .u64 (k : Int) ∧ ss.length = k ∧ k ≤ l.length + 1 ∧ wr.ownsRow w.heap.size 9 1 vb ss.length (strCs ss) ∧ Rd wr b l3 e3 ∧ But b w wr ∧
      (GoodSt most n er res rest l k e3 ss l3 ∨ BadSt er e3))
    (fun _ vi _ => n - (intOf vi).toNat)
  case atStart => exact ⟨0, 0, [], t, Nat.zero_le _, rfl, rfl, by omega, World.ownsRow_nil _ _ _ _, rd1, b1, .inl ⟨rfl, by omega, hT⟩⟩
  case round =>
    obtain ⟨k, e3, ss, l3, hk, rfl, hsl, hkl, hown, hr, hbut, hst⟩ := hrel
    clear hU rd1 b1 h hT
    rcases hst with hst | hst
    · obtain ⟨rfl, hlen, htx⟩ := hst
      have k0 := hr.rest; have k1 := hr.err; have kf0 := hr.fr; have kf1 := hr.fe
      by_cases hkn : k < n
      · rw [show n - k = (n - (k + 1)) + 1 from by omega, texs] at htx
        obtain ⟨s, t2, f2, hte⟩ : ∃ s t2 f2, tex most l3 = (s, t2, f2) := ⟨_, _, _, rfl⟩
        rw [hte] at htx
        by_cases hf2 : f2 = 0
        · subst hf2
          rw [if_neg (by simp)] at htx
          have HR : Hid (rdT most l3 0 = (s, t2, 0)) := by show _ = _; unfold rdT; rw [if_pos rfl, hte, if_pos rfl]
          have hle := tex_less (most := most) (l := l3) (by rw [hte])
          rw [hte] at hle
          replace hle : t2.length + 1 ≤ l3.length := hle
          have HX : GoodSt most n er res rest l (k + 1) 0 (ss ++ [s]) t2 := ⟨rfl, by omega, htx⟩
          clear htx hte
          go_wp2_with fail
          refine (rText_all hr (by omega) hm hm0 HR).mono ?_
          rintro r w2 ⟨rfl, hr2, hb2⟩
          have hown2 := ownsRow_but hown hb2 hblt
          have hbut2 := hbut.trans hb2
          have hsz2 := hbut2.size
          clear hown hr hb2 hbut HR k0 k1 kf0 kf1
          go_wp2_with (at_builtin; refine wpList_append_own _ rfl _ _ 23 rfl w.heap.size 9 i0 (.string ⟨#[]⟩) 1 16 Try.underlying23 hi hz0 hz1 hz2 rfl (by decide) _ _ _ rfl (hown2.alloc _) ⟨w2.heap.size, 0, none⟩ 1 1 [Value.string (S s)] rfl rfl ?c1 ?c2 ?c3 ?c4 ?c5 ?_)
          case c1 =>
            intro j u hj
            match j, hj with
            | 0, hj => simp at hj; subst hj; simp [Addr.add]
          case c2 => intro u hu; simp at hu; subst hu; rfl
          case c3 => unfold maxLen; omega
          case c4 => omega
          case c5 => simp; omega
          intro v3 w3 hown3 hgrow _
          have hbut3 : But b w w3 := (hbut2.alloc _).grown hgrow (fun k hk => (hown2.lt k hk).1)
          have hr2a := hr2.alloc (.cells #[.string (S s)] 9)
          have hr3 : Rd w3 b t2 0 := hr2a.of_block (hgrow.block b hr2a.lt (fun e2 => by have := (hown2.lt b e2.symm).1; omega)) hgrow.size
          have HS : Hid (strCs (ss ++ [s]) = strCs ss ++ [.string (S s)]) := strCs_snoc ss s
          clear hown2 hgrow hr2 hr2a hbut2
          go_wp2
          refine ⟨⟨k + 1, 0, ss ++ [s], t2, by omega, by go_num, by simp [hsl], by omega, ?_, hr3, hbut3, .inl HX⟩, by simp [intOf]; omega⟩
          rw [HS.out, List.length_append, hsl]
          exact hown3
        · rw [if_pos hf2] at htx
          simp only [Prod.mk.injEq] at htx
          obtain ⟨rfl, rfl, rfl⟩ := htx
          have HR : Hid (rdT most l3 0 = ([], l3, f2)) := by show _ = _; unfold rdT; rw [if_pos rfl, hte, if_neg hf2]
          have HX : BadSt f2 f2 := ⟨hf2, rfl⟩
          clear hte hf2
          go_wp2_with fail
          refine (rText_all hr (by omega) hm hm0 HR).mono ?_
          rintro r w2 ⟨rfl, hr2, hb2⟩
          have hown2 := ownsRow_but hown hb2 hblt
          have hbut2 := hbut.trans hb2
          have hsz2 := hbut2.size
          clear hown hr hb2 hbut HR k0 k1 kf0 kf1
          go_wp2_with (at_builtin; refine wpList_append_own _ rfl _ _ 23 rfl w.heap.size 9 i0 (.string ⟨#[]⟩) 1 16 Try.underlying23 hi hz0 hz1 hz2 rfl (by decide) _ _ _ rfl (hown2.alloc _) ⟨w2.heap.size, 0, none⟩ 1 1 [Value.string (S [])] rfl rfl ?c1 ?c2 ?c3 ?c4 ?c5 ?_)
          case c1 =>
            intro j u hj
            match j, hj with
            | 0, hj => simp at hj; subst hj; simp [Addr.add]
          case c2 => intro u hu; simp at hu; subst hu; rfl
          case c3 => unfold maxLen; omega
          case c4 => omega
          case c5 => simp; omega
          intro v3 w3 hown3 hgrow _
          have hbut3 : But b w w3 := (hbut2.alloc _).grown hgrow (fun k hk => (hown2.lt k hk).1)
          have hr2a := hr2.alloc (.cells #[.string (S [])] 9)
          have hr3 : Rd w3 b l3 f2 := hr2a.of_block (hgrow.block b hr2a.lt (fun e2 => by have := (hown2.lt b e2.symm).1; omega)) hgrow.size
          have HS : Hid (strCs (ss ++ [[]]) = strCs ss ++ [.string (S [])]) := strCs_snoc ss []
          clear hown2 hgrow hr2 hr2a hbut2
          go_wp2
          refine ⟨⟨k + 1, f2, ss ++ [[]], l3, by omega, by go_num, by simp [hsl], by omega, ?_, hr3, hbut3, .inr HX⟩, by simp [intOf]; omega⟩
          rw [HS.out, List.length_append, hsl]
          exact hown3
      · have hkk : n - k = 0 := by omega
        rw [hkk, texs] at htx
        simp only [Prod.mk.injEq] at htx
        obtain ⟨rfl, rfl, rfl⟩ := htx
        clear hkk
        go_wp2
        go_ret
        exact ⟨_, rfl, .inl ⟨rfl, hown, hr⟩, hbut⟩
    · obtain ⟨he3, hee⟩ := hst
      subst hee
      have k0 := hr.rest; have k1 := hr.err; have kf0 := hr.fr; have kf1 := hr.fe
      have hbe : (((er : Nat) : Int) != 0) = true := by rw [bne_iff_ne]; omega
      have hbf : (((er : Nat) : Int) == 0) = false := beq_eq_false_iff_ne.2 (by omega)
      have HE : Hid (er ≠ 0) := he3
      clear he3
      by_cases hkn : k < n
      · go_wp2
        go_ret
        exact ⟨_, rfl, .inr ⟨HE.out, rfl, hr.set0 l⟩, hbut.setCell _ _⟩
      · go_wp2
        go_ret
        exact ⟨_, rfl, .inr ⟨HE.out, rfl, hr.set0 l⟩, hbut.setCell _ _⟩

theorem rList_all {b e e2 : Nat} {many most : Int} {res : List (List UInt8)} {l l2 : List UInt8} {w : World} (h : Rd w b l e) (hl : l.length ≤ 8000000000000) (hmany : many ≤ 9223372036854775807) (hmany0 : -9223372036854775808 ≤ many) (hm : most ≤ 9223372036854775807) (hm0 : -9223372036854775808 ≤ most) (hres : Hid (rdL many most l e = (res, l2, e2))) :
    Calls Try.prog 29 #[.pointer (some ⟨b, 0, none⟩), .int .i64 many, .int .i64 most] w fun r w' => ∃ v', r = .returned v' ∧ w'.ownsRow w.heap.size 9 1 v' res.length (strCs res) ∧ Rd w' b l2 e2 ∧ But b w w' := by
  have hr := hres.out
  unfold rdL at hr
  by_cases he : e = 0
  · subst he
    rw [if_pos rfl] at hr
    obtain ⟨v, rest, f, hn⟩ : ∃ v rest f, numb 0 0 l = (v, rest, f) := ⟨_, _, _, rfl⟩
    have hU := rdU_of hn
    by_cases hf : f = 0
    · subst hf
      rw [if_pos rfl] at hU
      by_cases hbig : many < (v : Int)
      · have hc : cnt many l = (0, rest, 13) := by unfold cnt; rw [hn, if_neg (by simp), if_pos hbig]
        have ht : lis many most l = ([], rest, 13) := by unfold lis; rw [hc, if_pos (by simp)]
        rw [ht, if_neg (by simp)] at hr
        simp only [Prod.mk.injEq] at hr
        obtain ⟨rfl, rfl, rfl⟩ := hr
        refine (rList_many h (by omega) hmany hmany0 hU hbig).mono ?_
        rintro r w' ⟨rfl, hr, hb⟩
        exact ⟨_, rfl, World.ownsRow_nil _ _ _ _, hr, hb⟩
      · have hc : cnt many l = (v, rest, 0) := by unfold cnt; rw [hn, if_neg (by simp), if_neg hbig]
        have ht : lis many most l = texs most v [] rest := by unfold lis; rw [hc, if_neg (by simp)]
        obtain ⟨r1, r2, r3, htx⟩ : ∃ r1 r2 r3, texs most v [] rest = (r1, r2, r3) := ⟨_, _, _, rfl⟩
        rw [ht, htx] at hr
        have hrl : rest.length ≤ l.length := by have := numb_le l 0 0; rw [hn] at this; exact this
        refine (rList_go h hl hmany hm hm0 hU hrl (by omega) htx).mono ?_
        rintro r w' ⟨v', rfl, hout, hb⟩
        rcases hout with ⟨rfl, hown, hrd⟩ | ⟨h3, rfl, hrd⟩
        · rw [if_pos rfl] at hr
          simp only [Prod.mk.injEq] at hr
          obtain ⟨rfl, rfl, rfl⟩ := hr
          exact ⟨_, rfl, hown, hrd, hb⟩
        · rw [if_neg h3] at hr
          simp only [Prod.mk.injEq] at hr
          obtain ⟨rfl, rfl, rfl⟩ := hr
          exact ⟨_, rfl, World.ownsRow_nil _ _ _ _, hrd, hb⟩
    · rw [if_neg hf] at hU
      have hc : cnt many l = (0, rest, f) := by unfold cnt; rw [hn, if_pos hf]
      have ht : lis many most l = ([], rest, f) := by unfold lis; rw [hc, if_pos hf]
      rw [ht, if_neg hf] at hr
      simp only [Prod.mk.injEq] at hr
      obtain ⟨rfl, rfl, rfl⟩ := hr
      refine (rList_stop h (by omega) hU hf).mono ?_
      rintro r w' ⟨rfl, hr, hb⟩
      exact ⟨_, rfl, World.ownsRow_nil _ _ _ _, hr, hb⟩
  · rw [if_neg he] at hr
    simp only [Prod.mk.injEq] at hr
    obtain ⟨rfl, rfl, rfl⟩ := hr
    have HU : Hid (rdU l e = (0, l, e)) := by show _ = _; unfold rdU; rw [if_neg he]
    refine (rList_stop h (by omega) HU he).mono ?_
    rintro r w' ⟨rfl, hr, hb⟩
    exact ⟨_, rfl, World.ownsRow_nil _ _ _ _, hr, hb⟩

theorem rdU_le {l l2 : List UInt8} {e v e2 : Nat} (h : Hid (rdU l e = (v, l2, e2))) : l2.length ≤ l.length := by
  have hr := h.out
  have hn := numb_le l 0 0
  unfold rdU at hr
  split at hr
  · split at hr
    · simp only [Prod.mk.injEq] at hr; rw [← hr.2.1]; exact hn
    · simp only [Prod.mk.injEq] at hr; rw [← hr.2.1]; omega
  · simp only [Prod.mk.injEq] at hr; rw [← hr.2.1]; omega
theorem rdB_le {l l2 : List UInt8} {e v e2 : Nat} (h : Hid (rdB l e = (v, l2, e2))) : l2.length ≤ l.length := by
  have hr := h.out
  unfold rdB at hr
  split at hr
  · cases l with
    | nil => simp only [Prod.mk.injEq] at hr; rw [← hr.2.1]; simp
    | cons c t => simp only [Prod.mk.injEq] at hr; rw [← hr.2.1]; simp
  · simp only [Prod.mk.injEq] at hr; rw [← hr.2.1]; omega
theorem rdT_le {most : Int} {l l2 s : List UInt8} {e e2 : Nat} (h : Hid (rdT most l e = (s, l2, e2))) : l2.length ≤ l.length := by
  have hr := h.out
  have hn := tex_le most l
  unfold rdT at hr
  split at hr
  · split at hr
    · simp only [Prod.mk.injEq] at hr; rw [← hr.2.1]; exact hn
    · simp only [Prod.mk.injEq] at hr; rw [← hr.2.1]; omega
  · simp only [Prod.mk.injEq] at hr; rw [← hr.2.1]; omega
theorem texs_le {most : Int} : ∀ (n : Nat) (acc : List (List UInt8)) (l : List UInt8), (texs most n acc l).2.1.length ≤ l.length
  | 0, acc, l => by simp [texs]
  | n + 1, acc, l => by
    have h1 := tex_le most l
    have h2 := texs_le (most := most) n (acc ++ [(tex most l).1]) (tex most l).2.1
    rw [texs]
    split
    · exact h1
    · omega
theorem rdL_le {many most : Int} {l l2 : List UInt8} {res : List (List UInt8)} {e e2 : Nat} (h : Hid (rdL many most l e = (res, l2, e2))) : l2.length ≤ l.length := by
  have hr := h.out
  have hn : (lis many most l).2.1.length ≤ l.length := by
    have h1 := cnt_le many l
    have h2 := texs_le (most := most) (cnt many l).1 [] (cnt many l).2.1
    unfold lis
    split
    · exact h1
    · omega
  unfold rdL at hr
  split at hr
  · split at hr
    · simp only [Prod.mk.injEq] at hr; rw [← hr.2.1]; exact hn
    · simp only [Prod.mk.injEq] at hr; rw [← hr.2.1]; omega
  · simp only [Prod.mk.injEq] at hr; rw [← hr.2.1]; omega
theorem texs_cnt {most : Int} : ∀ (n : Nat) (acc : List (List UInt8)) (l : List UInt8), (texs most n acc l).1.length ≤ acc.length + l.length
  | 0, acc, l => by simp [texs]
  | n + 1, acc, l => by
    have h2 := texs_cnt (most := most) n (acc ++ [(tex most l).1]) (tex most l).2.1
    rw [texs]
    split
    · simp
    · rename_i h1
      have h3 := tex_less (most := most) (l := l) (by simpa using h1)
      simp at h2
      omega
theorem rdL_cnt {many most : Int} {l l2 : List UInt8} {res : List (List UInt8)} {e e2 : Nat} (h : Hid (rdL many most l e = (res, l2, e2))) : res.length ≤ l.length := by
  have hr := h.out
  have hn : (lis many most l).1.length ≤ l.length := by
    have h1 := cnt_le many l
    have h2 := texs_cnt (most := most) (cnt many l).1 [] (cnt many l).2.1
    unfold lis
    split
    · simp
    · simp at h2; omega
  unfold rdL at hr
  split at hr
  · split at hr
    · simp only [Prod.mk.injEq] at hr; rw [← hr.1]; exact hn
    · simp only [Prod.mk.injEq] at hr; rw [← hr.1]; simp
  · simp only [Prod.mk.injEq] at hr; rw [← hr.1]; simp

end Go.Proofs.Ytdfkcadnfoidaaa

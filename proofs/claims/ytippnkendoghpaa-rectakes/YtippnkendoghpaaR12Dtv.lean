/-
  Variables are taken: the document's TakeVars, and what it leaves.
-/
import Derived.Test.YtippnkendoghpaaV9Tkv
import Derived.Test.YtippnkendoghpaaV9Dtk
import Derived.Test.YtippnkendoghpaaR12Tk
namespace Go.Proofs.Ytippnkendoghpaa.r12
open Go.RowKit Go.Shelf Go.Sort
open Go.Lib hiding intOf

/-- what TakeVars leaves: the variables; where there are some, what is left behind their bytes -/
def TlQ (w : World) (b : Nat) (l : List UInt8) (r : Ending) (w' : World) : Prop := (∃ a n c L rest, r = .returned (.tuple #[.slice a n c, .bool true]) ∧ tlR l = (L, true) ∧ Vs w' (.slice a n c) L ∧ But b w w' ∧ Rd w' b rest 0 ∧ l = vbs L ++ rest) ∨ (r = .returned (.tuple #[.slice none 0 0, .bool false]) ∧ tlR l = ([], false) ∧ But b w w')
theorem tlq_no {w w' : World} {b : Nat} {l : List UInt8} {r : Ending} (h : tkL l = none) (he : r = .returned (.tuple #[.slice none 0 0, .bool false])) (hb : But b w w') : TlQ w b l r w' := .inr ⟨he, tlR_none h, hb⟩
theorem rwf_snoc (L : List Vr) (x : Vr) : rwf (L ++ [x]) = rwf L ++ rowV x := by unfold rwf; simp

set_option maxHeartbeats 8000000 in
set_option maxRecDepth 100000 in
theorem dTkv_rest {w : World} {b : Nat} {l : List UInt8} (h : Rd w b l 0) (hl : l.length ≤ 140737488355328) : Calls Try.prog 31 #[.pointer (some ⟨b, 0, none⟩)] w (TlQ w b l) := by
  obtain ⟨i0, hi0, hz0, hz1, hz2⟩ := info_parts infoVar
  obtain ⟨n, l1, e1, hr⟩ : ∃ n l1 e1, rdU l 0 = (n, l1, e1) := ⟨_, _, _, rfl⟩
  have hl1 := rdU9_le hr
  have hn64 := rdU9_lt hr
  have CU := rUint_all h (by omega) (show Hid _ from hr)
  have HRU : Hid (rdU l 0 = (n, l1, e1)) := hr
  have hlt := h.lt
  by_cases hbad : e1 ≠ 0 ∨ 16 < n
  · have HN : Hid (∀ r w', r = .returned (.tuple #[.slice none 0 0, .bool false]) → But b w w' → TlQ w b l r w') := fun r w' q1 q2 => tlq_no (tkL_bad hr hbad) q1 q2
    clear hr
    by_cases he1 : e1 = 0
    · subst he1
      have hn16 : (16 : Int) < (n : Int) := by omega
      clear hbad
      go_enter Try.func31, Try.ntmps31
      go_wp2_with (first
        | (go_at_call 28; refine CU.mono ?_; rintro e' w1 ⟨rfl, r1, b1⟩; (have T1 : Hid (But b w w1) := b1); (have de := r1.err); clear b1 r1))
      go_ret2
      exact HN.out _ _ rfl T1.out
    · have hb1 : ((e1 : Int) != 0) = true := bne_iff_ne.2 (by omega)
      clear hbad he1
      by_cases hq : (16 : Int) < (n : Int)
      all_goals
        go_enter Try.func31, Try.ntmps31
        go_wp2_with (first
          | (go_at_call 28; refine CU.mono ?_; rintro e' w1 ⟨rfl, r1, b1⟩; (have T1 : Hid (But b w w1) := b1); (have de := r1.err); clear b1 r1))
        go_ret2
        exact HN.out _ _ rfl T1.out
  · have he1 : e1 = 0 := by omega
    subst he1
    have hn16 : ¬ (16 : Int) < (n : Int) := by omega
    have hnn : n ≤ 16 := by omega
    have HTK := tkL_ok hr hnn
    have HN : Hid (tkL l = none → ∀ r w', r = .returned (.tuple #[.slice none 0 0, .bool false]) → But b w w' → TlQ w b l r w') := fun hq r w' q1 q2 => tlq_no hq q1 q2
    have HTK2 : Hid (tkL l = match tkN n [] l1 with
      | some r => if rgt r then some r else none
      | none => none) := HTK
    clear HTK hbad hr
    go_enter Try.func31, Try.ntmps31
    go_wp2_with (first
      | (go_at_call 28; refine CU.mono ?_; rintro e' w1 ⟨rfl, r1, b1⟩; (have T1 : Hid (But b w w1 ∧ Rd w1 b l1 0) := ⟨b1, r1⟩); (have de := r1.err); clear b1 r1))
    go_loopw [5, 6] (fun v5 v19 wr => ∃ (i : Nat) (li : List UInt8) (L : List Vr), i ≤ n ∧ v19 = .int .u64 (i : Int) ∧ Hid (Tp w wr b n i l1 li L v5 ∧ l1 = rwf L ++ li)) (fun _ v19 _ => n - (intOf v19).toNat)
    case atStart => exact ⟨0, l1, [], Nat.zero_le _, rfl, ⟨T1.out.2, World.ownsRow_nil _ _ _ _, rfl, by omega, rfl, (fun x hx => by cases hx), T1.out.1⟩, by simp [rwf]⟩
    case round =>
      clear T1 CU
      try clear de
      obtain ⟨i, li, L, hi, rfl, HPQ⟩ := hrel
      have HP : Hid (Tp w wr b n i l1 li L _) := HPQ.out.1
      have HLI : Hid (l1 = rwf L ++ li) := HPQ.out.2
      clear HPQ
      obtain ⟨oa, oc, hov, -⟩ := row_slice HP.out.row
      subst hov
      by_cases hin : i < n
      · have hin' : (i : Int) < (n : Int) := by omega
        obtain ⟨s, l2, e2, hres⟩ : ∃ s l2 e2, rdT 32 li 0 = (s, l2, e2) := ⟨_, _, _, rfl⟩
        have hle := rdT9_le hres
        have hll : li.length ≤ 140737488355328 := by have := HP.out.lil; omega
        have CT := rText_all (most := 32) HP.out.rd hll (by omega) (by omega) (show Hid _ from hres)
        have HONE : Hid (∀ v t, e2 = 0 → tkV l2 = some (v, t) → l1 = rwf (L ++ [(S s, v)]) ++ t) := fun v t h0 hv => by
          subst h0
          obtain ⟨-, g1, -⟩ := rdT_one hres
          obtain ⟨-, g2⟩ := tkV_one hv
          rw [rwf_snoc, HLI.out, g1, g2]
          simp [rowV, S, List.append_assoc]
        have hstep : tkN (n - i) L li = if e2 = 0 then (match tkV l2 with
            | some (v, r) => tkN (n - (i + 1)) (L ++ [(S s, v)]) r
            | none => none) else none := by
          rw [show n - i = (n - (i + 1)) + 1 by omega, tkN, hres]
          rfl
        have HST : Hid _ := hstep
        have HEQ : Hid (tkN n [] l1 = tkN (n - i) L li) := HP.out.eq
        clear hres hstep
        have HTAKE : Hid (∀ W, Rd W b l2 e2 → Calls Try.prog 52 #[.pointer (some ⟨b, 0, none⟩)] W (TkP W b l2 e2)) := fun W hW => dTake_any hW (by omega)
        by_cases hgo : e2 = 0 ∧ ∃ v t, tkV l2 = some (v, t)
        · obtain ⟨rfl, v, t, hv⟩ := hgo
          have HL2 : Hid (l1 = rwf (L ++ [(S s, v)]) ++ t) := HONE.out v t rfl hv
          clear HONE
          obtain ⟨hvk, htl⟩ := tkV_vk hv
          have htR : tkR l2 0 = (v, true) := by unfold tkR; rw [if_pos rfl, hv]
          have HNE : Hid (tkN n [] l1 = tkN (n - (i + 1)) (L ++ [(S s, v)]) t) := by show _ = _; rw [HEQ.out, HST.out, if_pos rfl, hv]
          have hsl : s.length ≤ 32 := by have := hle.2 rfl; omega
          have HSM : Hid (Sm9 (L ++ [(S s, v)])) := fun x hx => by
            rcases List.mem_append.1 hx with hx | hx
            · exact HP.out.sm x hx
            · rw [List.mem_singleton] at hx; subst hx; exact ⟨by simp only; rw [S_size]; omega, hvk⟩
          have HTK : Hid (∀ W e' w', TkP W b l2 0 e' w' → e' = .returned (.tuple #[vA v, .bool true]) ∧ But b W w' ∧ Rd w' b t 0) := fun W e' w' hh => by
            obtain ⟨q1, q2, l3, e3, q3, -, q4⟩ := hh
            rw [htR] at q1
            obtain ⟨rfl, rfl⟩ := q4 rfl v t hv
            exact ⟨q1, q2, q3⟩
          have htt : t.length ≤ l1.length := by have := hle.1; have := HP.out.lil; omega
          have hL16 : L.length ≤ 16 := by have := HP.out.len; omega
          have hfit := fit48 (L.length + 1) (by omega)
          clear HST HEQ htR hv
          obtain ⟨v1, v2, v3⟩ := v
          unfold vA at HTK
          go_wp2_with (first
            | (go_at_call 30; refine CT.mono ?_; rintro e' w3 ⟨rfl, r3, b3⟩; (have T3 : Hid (But b w w3) := HP.out.bt.trans b3); (have R3 : Hid (w3.ownsRow w.heap.size 54 4 (.slice oa L.length oc) L.length (vcs L)) := row_but HP.out.row b3 hlt); have CK := HTAKE.out w3 r3; clear b3 r3 CT)
            | (go_at_call 52; refine CK.mono ?_; rintro e' w4 hh; obtain ⟨he, b4, r4⟩ := HTK.out _ _ _ hh; subst he; (have hz4 := T3.out.size); (have hz5 := b4.size); (have T4 : Hid (But b w (w4.alloc (.cells #[.int .i64 v1, .int .i64 v2, .string (S v3)] 52))) := (T3.out.trans b4).alloc _); (have D4 : Hid (Rd (w4.alloc (.cells #[.int .i64 v1, .int .i64 v2, .string (S v3)] 52)) b t 0) := r4.alloc _); (have R4 : Hid ((w4.alloc (.cells #[.int .i64 v1, .int .i64 v2, .string (S v3)] 52)).ownsRow w.heap.size 54 4 (.slice oa L.length oc) L.length (vcs L)) := (row_but R3.out b4 hlt).alloc _); clear b4 hh CK R3 r4)
            | (at_builtin; refine wpList_append_own_wide _ rfl _ _ 23 rfl w.heap.size 54 i0 _ 4 48 Try.underlying23 hi0 hz0 hz1 hz2 rfl (by decide) _ _ _ rfl (World.ownsRow.alloc R4.out _) ⟨w4.heap.size + 1, 0, none⟩ 1 1 (vc (S s, v1, v2, v3)) rfl rfl (new_four _ _ (by simp) _ _ _ _ _) (one_four _) (by unfold maxLen; omega) hfit (by simp; omega) ?_; intro v6 w6 ho hgw _; (have H6 : Hid (Tp w w6 b n (i + 1) l1 t (L ++ [(S s, v1, v2, v3)]) v6) := tp_next HP.out T4.out D4.out R4.out ho hgw HNE.out HSM.out htt (by rw [World.size_alloc]; omega) hlt); clear ho hgw))
          go_roundw
          case rel => exact ⟨i + 1, t, L ++ [(S s, v1, v2, v3)], by omega, by simp, H6.out, HL2.out⟩
          case measure => simp [intOf]; omega
        · have hno : tkL l = none := by
            rw [HTK2.out, HEQ.out, HST.out]
            by_cases h0 : e2 = 0
            · rw [if_pos h0]
              cases hv : tkV l2 with
              | none => rfl
              | some p => exact absurd ⟨h0, p.1, p.2, by rw [hv]⟩ hgo
            · rw [if_neg h0]
          have htR : tkR l2 e2 = ((0, 0, []), false) := by
            by_cases h0 : e2 = 0
            · subst h0
              refine tkR_none ?_
              cases hv : tkV l2 with
              | none => rfl
              | some p => exact absurd ⟨rfl, p.1, p.2, by rw [hv]⟩ hgo
            · exact tkR_wrong h0
          have HTK : Hid (∀ W e' w', TkP W b l2 e2 e' w' → e' = .returned (.tuple #[vA (0, 0, []), .bool false]) ∧ But b W w') := fun W e' w' hh => by
            obtain ⟨q1, q2, -⟩ := hh
            rw [htR] at q1
            exact ⟨q1, q2⟩
          have HF := HN.out hno
          unfold vA at HTK
          clear HST HEQ htR hgo hno
          go_wp2_with (first
            | (go_at_call 30; refine CT.mono ?_; rintro e' w3 ⟨rfl, r3, b3⟩; (have T3 : Hid (But b w w3) := HP.out.bt.trans b3); have CK := HTAKE.out w3 r3; clear b3 r3 CT)
            | (go_at_call 52; refine CK.mono ?_; rintro e' w4 hh; obtain ⟨he, b4⟩ := HTK.out _ _ _ hh; subst he; (have T4 : Hid (But b w w4) := T3.out.trans b4); clear b4 hh CK))
          go_ret2
          exact HF _ _ rfl (T4.out.alloc _)
      · obtain rfl : i = n := by omega
        have hin' : ¬ (i : Int) < (i : Int) := by omega
        have hL16 : L.length ≤ 16 := by have := HP.out.len; omega
        have CR := dRgt_any (Vs.row HP.out.row) (by omega) HP.out.sm
        have HQ : Hid (tkL l = if rgt L then some L else none) := by show _ = _; rw [HTK2.out, HP.out.eq, Nat.sub_self]; rfl
        have HBT : Hid (But b w wr) := HP.out.bt
        have HVS : Hid (Vs wr (.slice oa L.length oc) L) := Vs.row HP.out.row
        cases hg : rgt L with
        | false =>
          rw [hg] at CR HQ
          have HF := HN.out (HQ.out.trans rfl)
          clear HP
          go_wp2_with (go_at_call 21; refine CR.mono ?_; rintro e' w5 ⟨rfl, b5⟩; (have T5 : Hid (But b w w5) := HBT.out.more b5); clear b5)
          go_ret2
          exact HF _ _ rfl T5.out
        | true =>
          rw [hg] at CR HQ
          have HE : Hid (tlR l = (L, true)) := by show _ = _; unfold tlR; rw [HQ.out]; rfl
          have HRD : Hid (Rd wr b li 0) := HP.out.rd
          have HLL : Hid (l = vbs L ++ li) := by
            show _ = _
            obtain ⟨-, g⟩ := rdU_one HRU.out
            rw [vbs_yes hg, HP.out.len, List.append_assoc, ← HLI.out]
            exact g
          clear HP
          go_wp2_with (go_at_call 21; refine CR.mono ?_; rintro e' w5 ⟨rfl, b5⟩; (have T5 : Hid (But b w w5) := HBT.out.more b5); (have V5 : Hid (Vs w5 (.slice oa L.length oc) L) := HVS.out.up b5); (have D5 : Hid (Rd w5 b li 0) := HRD.out.up b5); clear b5)
          go_ret2
          exact .inl ⟨oa, L.length, oc, L, li, rfl, HE.out, V5.out, T5.out, D5.out, HLL.out⟩

set_option maxHeartbeats 400000 in
theorem dTkv_wrong {w : World} {b e : Nat} {l : List UInt8} (h : Rd w b l e) (he : e ≠ 0) (hl : l.length ≤ 140737488355328) : Calls Try.prog 31 #[.pointer (some ⟨b, 0, none⟩)] w fun r w' => r = .returned (.tuple #[.slice none 0 0, .bool false]) ∧ But b w w' := by
  have CU := rUint_all (v := 0) (l2 := l) (e2 := e) h (by omega) (by show _ = _; unfold rdU; rw [if_neg he])
  have hb1 : ((e : Int) != 0) = true := bne_iff_ne.2 (by omega)
  clear he hl
  go_enter Try.func31, Try.ntmps31
  go_wp2_with (first
    | (go_at_call 28; refine CU.mono ?_; rintro e' w1 ⟨rfl, r1, b1⟩; (have T1 : Hid (But b w w1) := b1); (have de := r1.err); clear b1 r1))
  go_ret2
  exact ⟨rfl, T1.out⟩
end Go.Proofs.Ytippnkendoghpaa.r12

/-
  Variables are taken: package value's TakeVars.
-/
import Derived.Test.YtippnkendoghpaaV9Tak
import Derived.Test.YtippnkendoghpaaV9Dpt
namespace Go.Proofs.Ytippnkendoghpaa
open Go.RowKit Go.Shelf Go.Sort
open Go.Lib hiding intOf

/-- what is taken: the variables, whether there are some -/
def tlR (l : List UInt8) : List Vr × Bool := match tkL l with
  | some r => (r, true)
  | none => ([], false)
def TlP (w : World) (b : Nat) (l : List UInt8) (r : Ending) (w' : World) : Prop := ∃ v', r = .returned (.tuple #[v', .bool (tlR l).2]) ∧ Vs w' v' (tlR l).1 ∧ But b w w'
theorem unzig_lt {v : Nat} (h : v < 18446744073709551616) : -9223372036854775808 ≤ Lib.unzigzag v ∧ Lib.unzigzag v ≤ 9223372036854775807 := by
  unfold Lib.unzigzag
  split <;> omega
theorem rdU9_lt {l l2 : List UInt8} {v e2 : Nat} (h : rdU l 0 = (v, l2, e2)) : v < 18446744073709551616 := rdU_lt (show Hid _ from h)
theorem tkV_vk {l t : List UInt8} {v : V9} (h : tkV l = some (v, t)) : Vk v ∧ t.length ≤ l.length := by
  cases l with
  | nil => cases h
  | cons c r =>
    have hc := c.toNat_lt
    by_cases h3 : c.toNat = 3
    · obtain ⟨s, l2, e2, hr⟩ : ∃ s l2 e2, rdT 1024 r 0 = (s, l2, e2) := ⟨_, _, _, rfl⟩
      rw [tk_text h3 hr] at h
      have hb := rdT9_le hr
      split at h
      · rename_i h0
        cases h
        have := hb.2 h0
        exact ⟨⟨⟨by simp only; omega, by simp only; omega⟩, ⟨by simp only; omega, by simp only; omega⟩, by simp only; omega⟩, by simp; omega⟩
      · cases h
    · obtain ⟨n, l2, e2, hr⟩ : ∃ n l2 e2, rdU r 0 = (n, l2, e2) := ⟨_, _, _, rfl⟩
      rw [tk_num h3 hr] at h
      have hb := rdU9_le hr
      have hu := unzig_lt (rdU9_lt hr)
      split at h
      · cases h
        exact ⟨⟨⟨by simp only; omega, by simp only; omega⟩, hu, by simp⟩, by simp; omega⟩
      · cases h
theorem row_but {w w' : World} {b base : Nat} {v : Value} {n : Nat} {xs : List Value} (hr : w.ownsRow base 54 4 v n xs) (hb : But b w w') (hlt : b < base) : w'.ownsRow base 54 4 v n xs :=
  Ch.row (X := fun k => k = b) ⟨hb.os, hb.tape, hb.output, hb.size, hb.block⟩ hr (fun k hk e => by have := (World.ownsRow.lt hr k hk).1; omega)
theorem row_up {w w' : World} {base : Nat} {v : Value} {n : Nat} {xs : List Value} (hr : w.ownsRow base 54 4 v n xs) (hb : Below w.heap.size w w') : w'.ownsRow base 54 4 v n xs :=
  Ch.row (X := fun _ => False) (Ch.of_below hb) hr (fun _ _ h => h)
theorem tlR_none {l : List UInt8} (h : tkL l = none) : tlR l = ([], false) := by unfold tlR; rw [h]
theorem tl_no {w w' : World} {b : Nat} {l : List UInt8} {r : Ending} (h : tkL l = none) (he : r = .returned (.tuple #[.slice none 0 0, .bool false])) (hb : But b w w') : TlP w b l r w' :=
  ⟨.slice none 0 0, by rw [tlR_none h]; exact he, by rw [tlR_none h]; exact Vs.nil _, hb⟩
theorem tkL_bad {l l1 : List UInt8} {n e1 : Nat} (h : rdU l 0 = (n, l1, e1)) (hb : e1 ≠ 0 ∨ 16 < n) : tkL l = none := by
  unfold tkL
  rw [h]
  rw [if_neg (by simp only; omega)]
theorem tkL_ok {l l1 : List UInt8} {n : Nat} (h : rdU l 0 = (n, l1, 0)) (hn : n ≤ 16) : tkL l = match tkN n [] l1 with
    | some r => if rgt r then some r else none
    | none => none := by
  unfold tkL
  rw [h]
  rw [if_pos ⟨rfl, hn⟩]
  rfl
/-- what stands in the loop -/
structure Tp (w wr : World) (b : Nat) (n i : Nat) (l1 li : List UInt8) (L : List Vr) (v : Value) : Prop where
  rd : Rd wr b li 0
  row : wr.ownsRow w.heap.size 54 4 v L.length (vcs L)
  len : L.length = i
  lil : li.length ≤ l1.length
  eq : tkN n [] l1 = tkN (n - i) L li
  sm : Sm9 L
  bt : But b w wr

theorem tp_next {w wr W w6 : World} {b n i : Nat} {l1 li t : List UInt8} {L : List Vr} {v u v6 : Value} {y : Vr} {o : Obj} (h : Tp w wr b n i l1 li L v) (hT : But b w W) (hD : Rd W b t 0) (hR : W.ownsRow w.heap.size 54 4 u L.length (vcs L)) (ho : w6.ownsRow w.heap.size 54 4 v6 (L.length + 1) (vcs L ++ vc y)) (hg : (W.alloc o).grownBy w6 u.ownBlock) (hq : tkN n [] l1 = tkN (n - (i + 1)) (L ++ [y]) t) (hs : Sm9 (L ++ [y])) (ht : t.length ≤ l1.length) (hz : w.heap.size ≤ W.heap.size) (hlt : b < w.heap.size) : Tp w w6 b n (i + 1) l1 t (L ++ [y]) v6 := by
  have c : Ch (fun k => u.ownBlock = some k) W w6 := ((Ch.refl _ W).alloc o).trans (Ch.of_grown hg (fun k e _ => e))
  have hne : ∀ k, u.ownBlock = some k → w.heap.size ≤ k := fun k hk => (World.ownsRow.lt hR k hk).1
  refine ⟨?_, ?_, by rw [List.length_append, List.length_singleton, h.len], ht, hq, hs, ?_⟩
  · exact ⟨c.cell hD.rest (fun e => by have := hne b e; omega), c.cell hD.err (fun e => by have := hne b e; omega), (World.frozen?_of_block (w := W) (c.block b hD.lt (fun e => by have := hne b e; omega))).trans hD.fr, (World.frozen?_of_block (w := W) (c.block b hD.lt (fun e => by have := hne b e; omega))).trans hD.fe, Nat.lt_of_lt_of_le hD.lt c.size⟩
  · rw [List.length_append, List.length_singleton, vcs_append, show vcs [y] = vc y by simp [vcs]]
    exact ho
  · exact ⟨c.os.trans hT.os, c.tape.trans hT.tape, c.output.trans hT.output, Nat.le_trans hT.size c.size, fun k hk hb => (c.block k (by omega) (fun e => by have := hne k e; omega)).trans (hT.block k hk hb)⟩

set_option maxHeartbeats 8000000 in
set_option maxRecDepth 100000 in
theorem TakeVars_any {w : World} {b : Nat} {l : List UInt8} (h : Rd w b l 0) (hl : l.length ≤ 140737488400000) : Calls Try.prog 74 #[.pointer (some ⟨b, 0, none⟩)] w (TlP w b l) := by
  obtain ⟨i0, hi0, hz0, hz1, hz2⟩ := info_parts infoVar
  obtain ⟨n, l1, e1, hr⟩ : ∃ n l1 e1, rdU l 0 = (n, l1, e1) := ⟨_, _, _, rfl⟩
  have hl1 := rdU9_le hr
  have hn64 := rdU9_lt hr
  have CU := Uint_all h (show Hid _ from hr)
  have hlt := h.lt
  by_cases hbad : e1 ≠ 0 ∨ 16 < n
  · have HN : Hid (∀ r w', r = .returned (.tuple #[.slice none 0 0, .bool false]) → But b w w' → TlP w b l r w') := fun r w' q1 q2 => tl_no (tkL_bad hr hbad) q1 q2
    clear hr
    by_cases he1 : e1 = 0
    · subst he1
      have hn16 : (16 : Int) < (n : Int) := by omega
      clear hbad
      go_enter Try.func74, Try.ntmps74
      go_wp2_with (first
        | (go_at_call 62; refine CU.mono ?_; rintro e' w1 ⟨rfl, r1, b1⟩; (have T1 : Hid (But b w w1) := b1); (have CE := Err_any r1); clear b1 r1)
        | (go_at_call 92; refine CE.mono ?_; rintro e' w2 ⟨rfl, hw2⟩; rw [hw2]; clear hw2 w2))
      go_ret2
      exact HN.out _ _ rfl T1.out
    · have hb1 : ((e1 : Int) != 0) = true := bne_iff_ne.2 (by omega)
      clear hbad he1
      go_enter Try.func74, Try.ntmps74
      go_wp2_with (first
        | (go_at_call 62; refine CU.mono ?_; rintro e' w1 ⟨rfl, r1, b1⟩; (have T1 : Hid (But b w w1) := b1); (have CE := Err_any r1); clear b1 r1)
        | (go_at_call 92; refine CE.mono ?_; rintro e' w2 ⟨rfl, hw2⟩; rw [hw2]; clear hw2 w2))
      go_ret2
      exact HN.out _ _ rfl T1.out
  · have he1 : e1 = 0 := by omega
    subst he1
    have hn16 : ¬ (16 : Int) < (n : Int) := by omega
    have hnn : n ≤ 16 := by omega
    have HTK := tkL_ok hr hnn
    have HN : Hid (tkL l = none → ∀ r w', r = .returned (.tuple #[.slice none 0 0, .bool false]) → But b w w' → TlP w b l r w') := fun hq r w' q1 q2 => tl_no hq q1 q2
    have HTK2 : Hid (tkL l = match tkN n [] l1 with
      | some r => if rgt r then some r else none
      | none => none) := HTK
    clear HTK hbad hr
    go_enter Try.func74, Try.ntmps74
    go_wp2_with (first
      | (go_at_call 62; refine CU.mono ?_; rintro e' w1 ⟨rfl, r1, b1⟩; (have T1 : Hid (But b w w1 ∧ Rd w1 b l1 0) := ⟨b1, r1⟩); (have CE := Err_any r1); clear b1 r1)
      | (go_at_call 92; refine CE.mono ?_; rintro e' w2 ⟨rfl, hw2⟩; rw [hw2]; clear hw2 w2))
    go_loopw [5, 19] (fun v5 v19 wr => ∃ (i : Nat) (li : List UInt8) (L : List Vr), i ≤ n ∧ v19 = .int .u64 (i : Int) ∧ Hid (Tp w wr b n i l1 li L v5)) (fun _ v19 _ => n - (intOf v19).toNat)
    case atStart => exact ⟨0, l1, [], Nat.zero_le _, rfl, T1.out.2, World.ownsRow_nil _ _ _ _, rfl, by omega, rfl, (fun x hx => by cases hx), T1.out.1⟩
    case round =>
      clear T1 CU CE
      obtain ⟨i, li, L, hi, rfl, HP⟩ := hrel
      obtain ⟨oa, oc, hov, -⟩ := row_slice HP.out.row
      subst hov
      by_cases hin : i < n
      · have hin' : (i : Int) < (n : Int) := by omega
        obtain ⟨s, l2, e2, hres⟩ : ∃ s l2 e2, rdT 32 li 0 = (s, l2, e2) := ⟨_, _, _, rfl⟩
        have hle := rdT9_le hres
        have hll : li.length ≤ 140737488400000 := by have := HP.out.lil; omega
        have CT := Text_allW (most := 32) HP.out.rd (by omega) (by omega) (show Hid _ from hres)
        have hstep : tkN (n - i) L li = if e2 = 0 then (match tkV l2 with
            | some (v, r) => tkN (n - (i + 1)) (L ++ [(S s, v)]) r
            | none => none) else none := by
          rw [show n - i = (n - (i + 1)) + 1 by omega, tkN, hres]
          rfl
        have HST : Hid _ := hstep
        have HEQ : Hid (tkN n [] l1 = tkN (n - i) L li) := HP.out.eq
        clear hres hstep
        have HTAKE : Hid (∀ W, Rd W b l2 e2 → Calls Try.prog 93 #[.pointer (some ⟨b, 0, none⟩)] W (TkP W b l2 e2)) := fun W hW => Take_any hW (by omega)
        by_cases hgo : e2 = 0 ∧ ∃ v t, tkV l2 = some (v, t)
        · obtain ⟨rfl, v, t, hv⟩ := hgo
          obtain ⟨hvk, htl⟩ := tkV_vk hv
          have htR : tkR l2 0 = (v, true) := by unfold tkR; rw [if_pos rfl, hv]
          have HNE : Hid (tkN n [] l1 = tkN (n - (i + 1)) (L ++ [(S s, v)]) t) := by show _ = _; rw [HEQ.out, HST.out, if_pos rfl, hv]
          have hsl : s.length ≤ 32 := by have := hle.2 rfl; omega
          have HSM : Hid (Sm9 (L ++ [(S s, v)])) := fun x hx => by
            rcases List.mem_append.1 hx with hx | hx
            · exact HP.out.sm x hx
            · rw [List.mem_singleton] at hx; subst hx; exact ⟨by simp only; rw [S_size]; omega, hvk⟩
          have HTK : Hid (∀ W e' w', TkP W b l2 0 e' w' → e' = .returned (.tuple #[vA v, .bool true]) ∧ But b W w' ∧ Rd w' b t 0) := fun W e' w' hh => by
            obtain ⟨q1, q2, l3, e3, q3, -, q4⟩ := hh
            rw [htR] at q1
            obtain ⟨rfl, rfl⟩ := q4 rfl v t hv
            exact ⟨q1, q2, q3⟩
          have htt : t.length ≤ l1.length := by have := hle.1; have := HP.out.lil; omega
          have hL16 : L.length ≤ 16 := by have := HP.out.len; omega
          have hfit := fit48 (L.length + 1) (by omega)
          clear HST HEQ htR hv
          obtain ⟨v1, v2, v3⟩ := v
          unfold vA at HTK
          go_wp2_with (first
            | (go_at_call 70; refine CT.mono ?_; rintro e' w3 ⟨rfl, r3, b3⟩; (have T3 : Hid (But b w w3) := HP.out.bt.trans b3); (have R3 : Hid (w3.ownsRow w.heap.size 54 4 (.slice oa L.length oc) L.length (vcs L)) := row_but HP.out.row b3 hlt); have CK := HTAKE.out w3 r3; clear b3 r3 CT)
            | (go_at_call 93; refine CK.mono ?_; rintro e' w4 hh; obtain ⟨he, b4, r4⟩ := HTK.out _ _ _ hh; subst he; (have hz4 := T3.out.size); (have hz5 := b4.size); (have T4 : Hid (But b w (w4.alloc (.cells #[.int .i64 v1, .int .i64 v2, .string (S v3)] 52))) := (T3.out.trans b4).alloc _); (have D4 : Hid (Rd (w4.alloc (.cells #[.int .i64 v1, .int .i64 v2, .string (S v3)] 52)) b t 0) := r4.alloc _); (have R4 : Hid ((w4.alloc (.cells #[.int .i64 v1, .int .i64 v2, .string (S v3)] 52)).ownsRow w.heap.size 54 4 (.slice oa L.length oc) L.length (vcs L)) := (row_but R3.out b4 hlt).alloc _); clear b4 hh CK R3 r4)
            | (at_builtin; refine wpList_append_own_wide _ rfl _ _ 23 rfl w.heap.size 54 i0 _ 4 48 Try.underlying23 hi0 hz0 hz1 hz2 rfl (by decide) _ _ _ rfl (World.ownsRow.alloc R4.out _) ⟨w4.heap.size + 1, 0, none⟩ 1 1 (vc (S s, v1, v2, v3)) rfl rfl (new_four _ _ (by simp) _ _ _ _ _) (one_four _) (by unfold maxLen; omega) hfit (by simp; omega) ?_; intro v6 w6 ho hgw _; (have H6 : Hid (Tp w w6 b n (i + 1) l1 t (L ++ [(S s, v1, v2, v3)]) v6) := tp_next HP.out T4.out D4.out R4.out ho hgw HNE.out HSM.out htt (by rw [World.size_alloc]; omega) hlt); clear ho hgw))
          go_roundw
          case rel => exact ⟨i + 1, t, L ++ [(S s, v1, v2, v3)], by omega, by simp, H6⟩
          case measure => simp [intOf]; omega
        · have hno : tkL l = none := by
            rw [HTK2.out, HEQ.out, HST.out]
            by_cases h0 : e2 = 0
            · rw [if_pos h0]
              cases hv : tkV l2 with
              | none => rfl
              | some p => exact absurd ⟨h0, p.1, p.2, by rw [hv]⟩ hgo
            · rw [if_neg h0]
          have htR : tkR l2 e2 = ((0, 0, []), false) := by
            by_cases h0 : e2 = 0
            · subst h0
              refine tkR_none ?_
              cases hv : tkV l2 with
              | none => rfl
              | some p => exact absurd ⟨rfl, p.1, p.2, by rw [hv]⟩ hgo
            · exact tkR_wrong h0
          have HTK : Hid (∀ W e' w', TkP W b l2 e2 e' w' → e' = .returned (.tuple #[vA (0, 0, []), .bool false]) ∧ But b W w') := fun W e' w' hh => by
            obtain ⟨q1, q2, -⟩ := hh
            rw [htR] at q1
            exact ⟨q1, q2⟩
          have HF := HN.out hno
          unfold vA at HTK
          clear HST HEQ htR hgo hno
          go_wp2_with (first
            | (go_at_call 70; refine CT.mono ?_; rintro e' w3 ⟨rfl, r3, b3⟩; (have T3 : Hid (But b w w3) := HP.out.bt.trans b3); have CK := HTAKE.out w3 r3; clear b3 r3 CT)
            | (go_at_call 93; refine CK.mono ?_; rintro e' w4 hh; obtain ⟨he, b4⟩ := HTK.out _ _ _ hh; subst he; (have T4 : Hid (But b w w4) := T3.out.trans b4); clear b4 hh CK))
          go_ret2
          exact HF _ _ rfl (T4.out.alloc _)
      · obtain rfl : i = n := by omega
        have hin' : ¬ (i : Int) < (i : Int) := by omega
        have hL16 : L.length ≤ 16 := by have := HP.out.len; omega
        have CR := Right_any (Vs.row HP.out.row) (by omega) HP.out.sm
        have HQ : Hid (tkL l = if rgt L then some L else none) := by show _ = _; rw [HTK2.out, HP.out.eq, Nat.sub_self]; rfl
        have HBT : Hid (But b w wr) := HP.out.bt
        have HVS : Hid (Vs wr (.slice oa L.length oc) L) := Vs.row HP.out.row
        cases hg : rgt L with
        | false =>
          rw [hg] at CR HQ
          have HF := HN.out (HQ.out.trans rfl)
          clear HP
          go_wp2_with (go_at_call 36; refine CR.mono ?_; rintro e' w5 ⟨rfl, b5⟩; (have T5 : Hid (But b w w5) := HBT.out.more b5); clear b5)
          go_ret2
          exact HF _ _ rfl T5.out
        | true =>
          rw [hg] at CR HQ
          have HE : Hid (tlR l = (L, true)) := by show _ = _; unfold tlR; rw [HQ.out]; rfl
          clear HP
          go_wp2_with (go_at_call 36; refine CR.mono ?_; rintro e' w5 ⟨rfl, b5⟩; (have T5 : Hid (But b w w5) := HBT.out.more b5); (have V5 : Hid (Vs w5 (.slice oa L.length oc) L) := HVS.out.up b5); clear b5)
          go_ret2
          exact ⟨.slice oa L.length oc, by rw [HE.out]; rfl, by rw [HE.out]; exact V5.out, T5.out⟩
end Go.Proofs.Ytippnkendoghpaa

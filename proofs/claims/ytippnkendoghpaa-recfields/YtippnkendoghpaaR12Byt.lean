/-
  Package rec's Bytes and May: what they come to; the document's examples.
-/
import Derived.Test.YtippnkendoghpaaR12Fi2
import Derived.Test.YtippnkendoghpaaR12Fi6
import Derived.Test.YtippnkendoghpaaR12Fi7
import Derived.Test.YtippnkendoghpaaR12Fi8
namespace Go.Proofs.Ytippnkendoghpaa.r12
open Go.RowKit Go.Shelf Go.Sort
open Go.Lib hiding intOf

theorem size_S (s : List UInt8) : (S s).size = s.length := S_size s
theorem fits_yes {r : R12} {w : World} {vv : Value} (hv : Vs w vv r.v) (hk : Rk r) (h : Fit r) : Calls Try.prog 17 #[rV r vv] w fun e w' => e = .returned (.bool true) ∧ Below w.heap.size w w' := by
  obtain ⟨cl, kd, fr, tm, k1, k2, k3, n, m, a, b, c, l⟩ := r
  have hv' := hv
  obtain ⟨va, vc, rfl, -⟩ := hv'
  have hr := h.vr
  simp only at hr
  rw [← hr]
  exact fits_r cl kd tm n m fr k1 k2 k3 (S a) (S b) (S c) va _ vc hv hk.vl hk.vs h.kd1 h.kd2 h.fr h.tm0 h.tm1 (by rw [size_S]; exact h.la) (by rw [size_S]; exact h.lb) (by rw [size_S]; exact h.lc)
theorem fits_no {r : R12} {w : World} {vv : Value} (hv : Vs w vv r.v) (hk : Rk r) (h : ¬ Fit r) : Calls Try.prog 17 #[rV r vv] w fun e w' => e = .returned (.bool false) ∧ Below w.heap.size w w' := by
  obtain ⟨cl, kd, fr, tm, k1, k2, k3, n, m, a, b, c, l⟩ := r
  have hv' := hv
  obtain ⟨va, vc, rfl, -⟩ := hv'
  by_cases h1 : 1 ≤ kd
  · by_cases h2 : kd ≤ lk cl
    · by_cases h3 : fr = 0 ↔ cl = 1
      · by_cases h4 : 0 ≤ tm
        · by_cases h5 : tm ≤ 1099511627776
          · by_cases h6 : ((S a).size : Int) ≤ (if cl = 1 ∧ kd = 1 then 8192 else 32)
            · by_cases h7 : ((S b).size : Int) ≤ (if cl = 2 ∧ kd = 1 then 8192 else 1024)
              · by_cases h8 : ((S c).size : Int) ≤ 32
                · have hr : rgt l = false := by
                    cases e : rgt l with
                    | false => rfl
                    | true => exact absurd ⟨h1, h2, h3, h4, h5, by rw [size_S] at h6; exact h6, by rw [size_S] at h7; exact h7, by rw [size_S] at h8; exact h8, e⟩ h
                  rw [← hr]
                  exact fits_r cl kd tm n m fr k1 k2 k3 (S a) (S b) (S c) va _ vc hv hk.vl hk.vs h1 h2 h3 h4 h5 h6 h7 h8
                · exact fits_f8 cl kd tm n m fr k1 k2 k3 (S a) (S b) (S c) va _ vc h1 h2 h3 h4 h5 h6 h7 h8 w
              · exact fits_f7 cl kd tm n m fr k1 k2 k3 (S a) (S b) (S c) va _ vc h1 h2 h3 h4 h5 h6 h7 w
            · exact fits_f6 cl kd tm n m fr k1 k2 k3 (S a) (S b) (S c) va _ vc h1 h2 h3 h4 h5 h6 w
          · exact fits_f5 cl kd tm n m fr k1 k2 k3 (S a) (S b) (S c) va _ vc h1 h2 h3 h4 h5 w
        · exact fits_f4 cl kd tm n m fr k1 k2 k3 (S a) (S b) (S c) va _ vc h1 h2 h3 h4 w
      · exact fits_f3 cl kd tm n m fr k1 k2 k3 (S a) (S b) (S c) va _ vc h1 h2 h3 w
    · exact fits_f2 cl kd tm n m fr k1 k2 k3 (S a) (S b) (S c) va _ vc h1 h2 w
  · exact fits_f1 cl kd tm n m fr k1 k2 k3 (S a) (S b) (S c) va _ vc h1 w
theorem rwf_len : ∀ (l : List Vr), Sm9 l → (∀ x ∈ l, okV x = true) → (rwf l).length ≤ l.length * 1200
  | [], _, _ => by simp [rwf]
  | x :: t, hs, ho => by
    have h1 := rwf_len t (fun y hy => hs y (List.mem_cons_of_mem _ hy)) (fun y hy => ho y (List.mem_cons_of_mem _ hy))
    have h2 := bytV_len (hs x (List.mem_cons_self ..)).2
    have h3 := okV_name (ho x (List.mem_cons_self ..))
    have h4 : (txt x.1.data.toList).length ≤ 42 := by have := Lib.uvarint_length64 (show x.1.data.toList.length < 18446744073709551616 by omega); rw [txt_length]; omega
    unfold rwf at h1 ⊢
    rw [List.map_cons, List.flatten_cons, List.length_append, List.length_cons]
    rw [show (rowV x).length = (txt x.1.data.toList).length + (bytV x.2).length from List.length_append]
    omega
theorem vbs_len {l : List Vr} (hs : Sm9 l) (hr : rgt l = true) : (vbs l).length ≤ 20000 := by
  obtain ⟨h16, -, ho⟩ := rgt_iff.1 hr
  have h1 := rwf_len l hs ho
  rw [vbs_yes hr, List.length_append]
  have := Lib.uvarint_length64 (show l.length < 18446744073709551616 by omega)
  omega
theorem flat_len {r : R12} (hk : Rk r) (hf : Fit r) : (segs r).flatten.length ≤ 1000000 := by
  have l1 := mA_le r; have l2 := mB_le r
  have a1 := hf.la; have a2 := hf.lb; have a3 := hf.lc
  have v := vbs_len hk.vs hf.vr
  have u1 := Lib.uvarint_length64 hk.fr
  have u2 := Lib.uvarint_length64 (Lib.zigzag_lt hk.tm.1 hk.tm.2)
  have u3 := Lib.uvarint_length64 hk.k1
  have u4 := Lib.uvarint_length64 hk.k2
  have u5 := Lib.uvarint_length64 hk.k3
  have u6 := Lib.uvarint_length64 (Lib.zigzag_lt hk.n.1 hk.n.2)
  have u7 := Lib.uvarint_length64 (Lib.zigzag_lt hk.m.1 hk.m.2)
  have t1 := Lib.uvarint_length64 (show r.a.length < 18446744073709551616 by have := hk.a; omega)
  have t2 := Lib.uvarint_length64 (show r.b.length < 18446744073709551616 by have := hk.b; omega)
  have t3 := Lib.uvarint_length64 (show r.c.length < 18446744073709551616 by have := hk.c; omega)
  simp only [segs, List.flatten_cons, List.flatten_nil, List.length_append, List.length_cons, List.length_nil, txt_length]
  omega
theorem wrs_of {w0 w : World} {rb fb : Nat} {X : List Nat} {r : R12} {vv : Value} (hF : Fds w0 w rb fb X) (hr : Rx w rb (rC r vv)) (hv : Vs w vv r.v) (hk : Rk r) (hf : Fit r) : Wrs w fb (segs r) := by
  have hcl := hf.cl
  have l1 := mA_le r; have l2 := mB_le r
  have a1 := hf.la; have a2 := hf.lb; have a3 := hf.lc
  refine ⟨hF.2.1.2, fun j hj => ?_⟩
  have hj13 : j < 13 := hj
  obtain ⟨⟨x1, x2⟩, x3, x4, x5⟩ := hF.2.2 j hj13
  refine ⟨GW.getD j 0, GT.getD j 0, #[.pointer (some ⟨X.getD j 0, 0, none⟩)], GW_ent j hj13, x4, x5, fun W hW => ?_⟩
  have hx : W.cell? ⟨X.getD j 0, 0, none⟩ = some (.pointer (some ⟨rb, j, none⟩)) := (hW.cell (p := ⟨X.getD j 0, 0, none⟩) x2).trans x3
  have hR := hr.up hW
  match j, hj13 with
  | 0, _ => exact small_wr hx (hR.cell rfl) (by omega)
  | 1, _ => exact small_wr hx (hR.cell rfl) (by omega)
  | 2, _ => exact count_wr hx (hR.cell rfl) hk.fr
  | 3, _ => exact number_wr hx (hR.cell rfl) hk.tm
  | 4, _ => exact count_wr hx (hR.cell rfl) hk.k1
  | 5, _ => exact count_wr hx (hR.cell rfl) hk.k2
  | 6, _ => exact count_wr hx (hR.cell rfl) hk.k3
  | 7, _ => exact number_wr hx (hR.cell rfl) hk.n
  | 8, _ => exact number_wr hx (hR.cell rfl) hk.m
  | 9, _ => exact text_wr hx (hR.cell rfl) (by omega)
  | 10, _ => exact text_wr hx (hR.cell rfl) (by omega)
  | 11, _ => exact text_wr hx (hR.cell rfl) (by omega)
  | 12, _ => exact list_wr hx (hR.cell rfl) (hv.up hW) hk.vl hk.vs

set_option maxHeartbeats 2000000 in
set_option maxRecDepth 100000 in
theorem Bytes_no {r : R12} {w : World} {vv : Value} (hv : Vs w vv r.v) (hk : Rk r) (h : ¬ May r) : Calls Try.prog 9 #[rV r vv] w fun e w' => e = .returned (.tuple #[.string ⟨#[]⟩, .int .i64 1]) ∧ Below w.heap.size w w' := by
  have B1 : Hid (Below w.heap.size w (w.alloc (.cells (rC r vv) 25))) := (Below.refl _ _).alloc (Nat.le_refl _) _
  by_cases hf : Fit r
  · have CF := fits_yes (hv.up B1.out) hk hf
    have R1 : Hid (Rx (w.alloc (.cells (rC r vv) 25)) w.heap.size (rC r vv)) := Rx.new _ _
    have V1 : Hid (∀ W, Below w.heap.size w W → Vs W vv r.v) := fun W hW => hv.up hW
    have HW : Hid (∀ w1 w2 fb X, Rx w1 w.heap.size (rC r vv) → Below w.heap.size w w1 → Fds w1 w2 w.heap.size fb X → Wrs w2 fb (segs r)) := fun w1 w2 fb X q1 q2 q3 => wrs_of q3 (q1.up q3.1) (hv.up (bel_of q2 q3.1 (Nat.le_refl _))) hk hf
    have hl : (segs r).flatten.length ≤ 1000000 := flat_len hk hf
    have h13 : (segs r).length = 13 := rfl
    have hb : ¬ (segs r).flatten.length ≤ 4096 := fun e => h ⟨hf, by rw [← segs_flat]; exact e⟩
    have HWR : Hid (∀ w2 fb, Wrs w2 fb (segs r) → Calls Try.prog 18 #[.slice (some ⟨fb, 0, none⟩) 13 13] w2 fun e w' => e = .returned (.string (S (segs r).flatten)) ∧ Below w2.heap.size w2 w') := fun w2 fb q => written_any q h13 hl
    obtain ⟨cl, kd, fr, tm, k1, k2, k3, n, m, a, b, c, l⟩ := r
    obtain ⟨va, vc, rfl, -⟩ := hv
    generalize segs ⟨cl, kd, fr, tm, k1, k2, k3, n, m, a, b, c, l⟩ = ss at *
    have hz : (S ss.flatten).size = ss.flatten.length := S_size _
    have hb' : 4096 < ss.flatten.length := by omega
    have hb2 : (4096 : Int) < (ss.flatten.length : Int) := by omega
    generalize ss.flatten = ff at *
    clear hk hf h hl h13 hb
    unfold rV at CF ⊢
    unfold rC at *
    simp only at *
    go_enter Try.func9, Try.ntmps9
    go_wp2_with (first
      | (go_at_call 17; refine CF.mono ?_; rintro e w1 ⟨rfl, b1⟩; (have B2 : Hid (Below w.heap.size w w1) := bel_of B1.out b1 (Nat.le_refl _)); (have R2 : Hid (Rx w1 w.heap.size _) := R1.out.up b1); clear b1 CF R1)
      | (go_at_call 19; refine (fields_any w.heap.size w1).mono ?_; rintro e w2 ⟨fb, X, rfl, hF⟩; (have B3 : Hid (Below w.heap.size w w2) := bel_of B2.out hF.1 (Nat.le_refl _)); have CW := HWR.out w2 fb (HW.out w1 w2 fb X R2.out B2.out hF); clear hF)
      | (go_at_call 18; refine CW.mono ?_; rintro e w3 ⟨rfl, b3⟩; (have B4 : Hid (Below w.heap.size w w3) := bel_of B3.out b3 (Nat.le_refl _)); clear b3 CW))
    go_ret2
    exact ⟨rfl, B4.out⟩
  · have CF := fits_no (hv.up B1.out) hk hf
    obtain ⟨cl, kd, fr, tm, k1, k2, k3, n, m, a, b, c, l⟩ := r
    obtain ⟨va, vc, rfl, -⟩ := hv
    clear hk hf h
    unfold rV at CF ⊢
    unfold rC at *
    simp only at *
    go_enter Try.func9, Try.ntmps9
    go_wp2_with (first
      | (go_at_call 17; refine CF.mono ?_; rintro e w1 ⟨rfl, b1⟩; (have B2 : Hid (Below w.heap.size w w1) := bel_of B1.out b1 (Nat.le_refl _)); clear b1 CF))
    go_ret2
    exact ⟨rfl, B2.out⟩

set_option maxHeartbeats 2000000 in
set_option maxRecDepth 100000 in
theorem Bytes_yes {r : R12} {w : World} {vv : Value} (hv : Vs w vv r.v) (hk : Rk r) (h : May r) : Calls Try.prog 9 #[rV r vv] w fun e w' => e = .returned (.tuple #[.string (S (bytR r)), .int .i64 0]) ∧ Below w.heap.size w w' := by
  have B1 : Hid (Below w.heap.size w (w.alloc (.cells (rC r vv) 25))) := (Below.refl _ _).alloc (Nat.le_refl _) _
  have hf := h.1
  have CF := fits_yes (hv.up B1.out) hk hf
  have R1 : Hid (Rx (w.alloc (.cells (rC r vv) 25)) w.heap.size (rC r vv)) := Rx.new _ _
  have HW : Hid (∀ w1 w2 fb X, Rx w1 w.heap.size (rC r vv) → Below w.heap.size w w1 → Fds w1 w2 w.heap.size fb X → Wrs w2 fb (segs r)) := fun w1 w2 fb X q1 q2 q3 => wrs_of q3 (q1.up q3.1) (hv.up (bel_of q2 q3.1 (Nat.le_refl _))) hk hf
  have hl : (segs r).flatten.length ≤ 1000000 := flat_len hk hf
  have h13 : (segs r).length = 13 := rfl
  have hb : (segs r).flatten.length ≤ 4096 := by rw [segs_flat]; exact h.2
  have HWR : Hid (∀ w2 fb, Wrs w2 fb (segs r) → Calls Try.prog 18 #[.slice (some ⟨fb, 0, none⟩) 13 13] w2 fun e w' => e = .returned (.string (S (segs r).flatten)) ∧ Below w2.heap.size w2 w') := fun w2 fb q => written_any q h13 hl
  rw [← segs_flat]
  obtain ⟨cl, kd, fr, tm, k1, k2, k3, n, m, a, b, c, l⟩ := r
  obtain ⟨va, vc, rfl, -⟩ := hv
  generalize segs ⟨cl, kd, fr, tm, k1, k2, k3, n, m, a, b, c, l⟩ = ss at *
  have hz : (S ss.flatten).size = ss.flatten.length := S_size _
  have hb' : ¬ 4096 < ss.flatten.length := by omega
  have hb2 : ¬ (4096 : Int) < (ss.flatten.length : Int) := by omega
  generalize ss.flatten = ff at *
  clear hk hf h hl h13 hb
  unfold rV at CF ⊢
  unfold rC at *
  simp only at *
  go_enter Try.func9, Try.ntmps9
  go_wp2_with (first
    | (go_at_call 17; refine CF.mono ?_; rintro e w1 ⟨rfl, b1⟩; (have B2 : Hid (Below w.heap.size w w1) := bel_of B1.out b1 (Nat.le_refl _)); (have R2 : Hid (Rx w1 w.heap.size _) := R1.out.up b1); clear b1 CF R1)
    | (go_at_call 19; refine (fields_any w.heap.size w1).mono ?_; rintro e w2 ⟨fb, X, rfl, hF⟩; (have B3 : Hid (Below w.heap.size w w2) := bel_of B2.out hF.1 (Nat.le_refl _)); have CW := HWR.out w2 fb (HW.out w1 w2 fb X R2.out B2.out hF); clear hF)
    | (go_at_call 18; refine CW.mono ?_; rintro e w3 ⟨rfl, b3⟩; (have B4 : Hid (Below w.heap.size w w3) := bel_of B3.out b3 (Nat.le_refl _)); clear b3 CW))
  go_ret2
  exact ⟨rfl, B4.out⟩
end Go.Proofs.Ytippnkendoghpaa.r12

/-
  The document's text, May and Bytes of a record: what they come to.
-/
import Derived.Test.YtippnkendoghpaaR12Dtx
import Derived.Test.YtippnkendoghpaaR12Dm0
import Derived.Test.YtippnkendoghpaaR12Dm1
import Derived.Test.YtippnkendoghpaaR12Dm2
import Derived.Test.YtippnkendoghpaaR12Dm3
namespace Go.Proofs.Ytippnkendoghpaa.r12
open Go.RowKit Go.Shelf Go.Sort
open Go.Lib hiding intOf

set_option maxHeartbeats 1000000 in
theorem dText_any {r : R12} (hk : Rk r) (hf : Fit r) {w : World} {vv : Value} (hv : Vs w vv r.v) : Calls Try.prog 20 #[rV r vv] w fun e w' => e = .returned (.string (S (bytR r))) ∧ Below w.heap.size w w' := by
  have l1 := mA_le r; have l2 := mB_le r
  have a1 := hf.la; have a2 := hf.lb; have a3 := hf.lc
  have v := vbs_len hk.vs hf.vr
  have u1 := Lib.uvarint_length64 hk.fr
  have u2 := Lib.uvarint_length64 (Lib.zigzag_lt hk.tm.1 hk.tm.2)
  have u3 := Lib.uvarint_length64 hk.k1
  have u4 := Lib.uvarint_length64 hk.k2
  have u5 := Lib.uvarint_length64 hk.k3
  have u6 := Lib.uvarint_length64 (Lib.zigzag_lt hk.n.1 hk.n.2)
  have u7 := Lib.uvarint_length64 (Lib.zigzag_lt hk.m.1 hk.m.2)
  have t1 : (txt r.a).length ≤ 8300 := by have := Lib.uvarint_length64 (show r.a.length < 18446744073709551616 by omega); rw [txt_length]; omega
  have t2 : (txt r.b).length ≤ 8300 := by have := Lib.uvarint_length64 (show r.b.length < 18446744073709551616 by omega); rw [txt_length]; omega
  have t3 : (txt r.c).length ≤ 8300 := by have := Lib.uvarint_length64 (show r.c.length < 18446744073709551616 by omega); rw [txt_length]; omega
  have hcl := hf.cl
  have e : ((((((((((([byt r.cl, byt r.kd] ++ Lib.uvarint r.fr) ++ Lib.uvarint (Lib.zigzag r.tm)) ++ Lib.uvarint r.k1) ++ Lib.uvarint r.k2) ++ Lib.uvarint r.k3) ++ Lib.uvarint (Lib.zigzag r.n)) ++ Lib.uvarint (Lib.zigzag r.m)) ++ txt r.a) ++ txt r.b) ++ txt r.c) ++ vbs r.v) = bytR r := by
    rw [← segs_flat]
    simp only [segs, List.flatten_cons, List.flatten_nil, List.append_assoc, List.append_nil, List.cons_append, List.nil_append]
  rw [← e]
  clear e
  have z0 : (S [byt r.cl, byt r.kd]).size + (S (Lib.uvarint r.fr)).size ≤ 1000000 := by
    rw [S_size, S_size]
    simp only [List.length_cons, List.length_nil]
    omega
  have z1 : (S ([byt r.cl, byt r.kd] ++ Lib.uvarint r.fr)).size + (S (Lib.uvarint (Lib.zigzag r.tm))).size ≤ 1000000 := by
    rw [S_size, S_size]
    simp only [List.length_append, List.length_cons, List.length_nil]
    omega
  have z2 : (S (([byt r.cl, byt r.kd] ++ Lib.uvarint r.fr) ++ Lib.uvarint (Lib.zigzag r.tm))).size + (S (Lib.uvarint r.k1)).size ≤ 1000000 := by
    rw [S_size, S_size]
    simp only [List.length_append, List.length_cons, List.length_nil]
    omega
  have z3 : (S ((([byt r.cl, byt r.kd] ++ Lib.uvarint r.fr) ++ Lib.uvarint (Lib.zigzag r.tm)) ++ Lib.uvarint r.k1)).size + (S (Lib.uvarint r.k2)).size ≤ 1000000 := by
    rw [S_size, S_size]
    simp only [List.length_append, List.length_cons, List.length_nil]
    omega
  have z4 : (S (((([byt r.cl, byt r.kd] ++ Lib.uvarint r.fr) ++ Lib.uvarint (Lib.zigzag r.tm)) ++ Lib.uvarint r.k1) ++ Lib.uvarint r.k2)).size + (S (Lib.uvarint r.k3)).size ≤ 1000000 := by
    rw [S_size, S_size]
    simp only [List.length_append, List.length_cons, List.length_nil]
    omega
  have z5 : (S ((((([byt r.cl, byt r.kd] ++ Lib.uvarint r.fr) ++ Lib.uvarint (Lib.zigzag r.tm)) ++ Lib.uvarint r.k1) ++ Lib.uvarint r.k2) ++ Lib.uvarint r.k3)).size + (S (Lib.uvarint (Lib.zigzag r.n))).size ≤ 1000000 := by
    rw [S_size, S_size]
    simp only [List.length_append, List.length_cons, List.length_nil]
    omega
  have z6 : (S (((((([byt r.cl, byt r.kd] ++ Lib.uvarint r.fr) ++ Lib.uvarint (Lib.zigzag r.tm)) ++ Lib.uvarint r.k1) ++ Lib.uvarint r.k2) ++ Lib.uvarint r.k3) ++ Lib.uvarint (Lib.zigzag r.n))).size + (S (Lib.uvarint (Lib.zigzag r.m))).size ≤ 1000000 := by
    rw [S_size, S_size]
    simp only [List.length_append, List.length_cons, List.length_nil]
    omega
  have z7 : (S ((((((([byt r.cl, byt r.kd] ++ Lib.uvarint r.fr) ++ Lib.uvarint (Lib.zigzag r.tm)) ++ Lib.uvarint r.k1) ++ Lib.uvarint r.k2) ++ Lib.uvarint r.k3) ++ Lib.uvarint (Lib.zigzag r.n)) ++ Lib.uvarint (Lib.zigzag r.m))).size + (S (txt r.a)).size ≤ 1000000 := by
    rw [S_size, S_size]
    simp only [List.length_append, List.length_cons, List.length_nil]
    omega
  have z8 : (S (((((((([byt r.cl, byt r.kd] ++ Lib.uvarint r.fr) ++ Lib.uvarint (Lib.zigzag r.tm)) ++ Lib.uvarint r.k1) ++ Lib.uvarint r.k2) ++ Lib.uvarint r.k3) ++ Lib.uvarint (Lib.zigzag r.n)) ++ Lib.uvarint (Lib.zigzag r.m)) ++ txt r.a)).size + (S (txt r.b)).size ≤ 1000000 := by
    rw [S_size, S_size]
    simp only [List.length_append, List.length_cons, List.length_nil]
    omega
  have z9 : (S ((((((((([byt r.cl, byt r.kd] ++ Lib.uvarint r.fr) ++ Lib.uvarint (Lib.zigzag r.tm)) ++ Lib.uvarint r.k1) ++ Lib.uvarint r.k2) ++ Lib.uvarint r.k3) ++ Lib.uvarint (Lib.zigzag r.n)) ++ Lib.uvarint (Lib.zigzag r.m)) ++ txt r.a) ++ txt r.b)).size + (S (txt r.c)).size ≤ 1000000 := by
    rw [S_size, S_size]
    simp only [List.length_append, List.length_cons, List.length_nil]
    omega
  have z10 : (S (((((((((([byt r.cl, byt r.kd] ++ Lib.uvarint r.fr) ++ Lib.uvarint (Lib.zigzag r.tm)) ++ Lib.uvarint r.k1) ++ Lib.uvarint r.k2) ++ Lib.uvarint r.k3) ++ Lib.uvarint (Lib.zigzag r.n)) ++ Lib.uvarint (Lib.zigzag r.m)) ++ txt r.a) ++ txt r.b) ++ txt r.c)).size + (S (vbs r.v)).size ≤ 1000000 := by
    rw [S_size, S_size]
    simp only [List.length_append, List.length_cons, List.length_nil]
    omega
  have C0 : ∀ W, Below w.heap.size w W → Calls Try.prog 44 #[.int .u64 (r.fr : Int)] W fun e w' => e = .returned (.string (S (Lib.uvarint r.fr))) ∧ Below W.heap.size W w' := fun W _ => refUint_int _ _ rfl hk.fr W
  have C1 : ∀ W, Below w.heap.size w W → Calls Try.prog 45 #[.int .i64 r.tm] W fun e w' => e = .returned (.string (S (Lib.uvarint (Lib.zigzag r.tm)))) ∧ Below W.heap.size W w' := fun W _ => refInt_any r.tm hk.tm.1 hk.tm.2 W
  have C2 : ∀ W, Below w.heap.size w W → Calls Try.prog 44 #[.int .u64 (r.k1 : Int)] W fun e w' => e = .returned (.string (S (Lib.uvarint r.k1))) ∧ Below W.heap.size W w' := fun W _ => refUint_int _ _ rfl hk.k1 W
  have C3 : ∀ W, Below w.heap.size w W → Calls Try.prog 44 #[.int .u64 (r.k2 : Int)] W fun e w' => e = .returned (.string (S (Lib.uvarint r.k2))) ∧ Below W.heap.size W w' := fun W _ => refUint_int _ _ rfl hk.k2 W
  have C4 : ∀ W, Below w.heap.size w W → Calls Try.prog 44 #[.int .u64 (r.k3 : Int)] W fun e w' => e = .returned (.string (S (Lib.uvarint r.k3))) ∧ Below W.heap.size W w' := fun W _ => refUint_int _ _ rfl hk.k3 W
  have C5 : ∀ W, Below w.heap.size w W → Calls Try.prog 45 #[.int .i64 r.n] W fun e w' => e = .returned (.string (S (Lib.uvarint (Lib.zigzag r.n)))) ∧ Below W.heap.size W w' := fun W _ => refInt_any r.n hk.n.1 hk.n.2 W
  have C6 : ∀ W, Below w.heap.size w W → Calls Try.prog 45 #[.int .i64 r.m] W fun e w' => e = .returned (.string (S (Lib.uvarint (Lib.zigzag r.m)))) ∧ Below W.heap.size W w' := fun W _ => refInt_any r.m hk.m.1 hk.m.2 W
  have C7 : ∀ W, Below w.heap.size w W → Calls Try.prog 46 #[.string (S r.a)] W fun e w' => e = .returned (.string (S (txt r.a))) ∧ Below W.heap.size W w' := fun W _ => refText_any r.a (by omega) W
  have C8 : ∀ W, Below w.heap.size w W → Calls Try.prog 46 #[.string (S r.b)] W fun e w' => e = .returned (.string (S (txt r.b))) ∧ Below W.heap.size W w' := fun W _ => refText_any r.b (by omega) W
  have C9 : ∀ W, Below w.heap.size w W → Calls Try.prog 46 #[.string (S r.c)] W fun e w' => e = .returned (.string (S (txt r.c))) ∧ Below W.heap.size W w' := fun W _ => refText_any r.c (by omega) W
  have C10 : ∀ W, Below w.heap.size w W → Calls Try.prog 47 #[vv] W fun e w' => e = .returned (.string (S (vbs r.v))) ∧ Below W.heap.size W w' := fun W hW => dVb_any (hv.up hW) hk.vl hk.vs
  obtain ⟨va, vc, rfl, -⟩ := hv
  exact text_raw r.cl r.kd r.tm r.n r.m r.fr r.k1 r.k2 r.k3 (S r.a) (S r.b) (S r.c) va _ vc _ _ _ _ _ _ _ _ _ _ _ _ _ _ _ _ _ _ _ _ _ _ _ (byt_nat (by omega)) (byt_nat (by omega)) rfl C0 C1 C2 C3 C4 C5 C6 C7 C8 C9 C10 (cat2 _ _) z0 (cat2 _ _) z1 (cat2 _ _) z2 (cat2 _ _) z3 (cat2 _ _) z4 (cat2 _ _) z5 (cat2 _ _) z6 (cat2 _ _) z7 (cat2 _ _) z8 (cat2 _ _) z9 (cat2 _ _) z10

/-- the document's May, of a record that fits or not -/
theorem dMay_any {r : R12} (hk : Rk r) {w : World} {vv : Value} (hv : Vs w vv r.v) (p : Bool) (hp : p = true ↔ May r) : Calls Try.prog 12 #[rV r vv] w fun e w' => e = .returned (.bool p) ∧ Below w.heap.size w w' := by
  have CR0 : ∀ W, Below w.heap.size w W → Calls Try.prog 21 #[vv] W fun e w' => e = .returned (.bool (rgt r.v)) ∧ Below W.heap.size W w' := fun W hW => dRgt_any (hv.up hW) hk.vl hk.vs
  have CT0 : Fit r → ∀ W, Below w.heap.size w W → Calls Try.prog 20 #[rV r vv] W fun e w' => e = .returned (.string (S (bytR r))) ∧ Below W.heap.size W w' := fun hf W hW => dText_any hk hf (hv.up hW)
  have hno : ¬ Fit r → p = false := fun h => by
    cases p with
    | false => rfl
    | true => exact absurd (hp.1 rfl).1 h
  have hyes : Fit r → p = decide (((S (bytR r)).size : Int) ≤ 4096) := fun h => by
    rw [S_size]
    by_cases hb : (bytR r).length ≤ 4096
    · rw [decide_eq_true (show ((bytR r).length : Int) ≤ 4096 by omega)]; exact hp.2 ⟨h, hb⟩
    · rw [decide_eq_false (show ¬ ((bytR r).length : Int) ≤ 4096 by omega)]
      cases p with
      | false => rfl
      | true => exact absurd (hp.1 rfl).2 hb
  clear hp
  obtain ⟨cl, kd, fr, tm, k1, k2, k3, n, m, a, b, c, l⟩ := r
  obtain ⟨va, vc, rfl, -⟩ := hv
  have hsa : (S a).size = a.length := S_size a
  have hsb : (S b).size = b.length := S_size b
  have hsc : (S c).size = c.length := S_size c
  unfold rV rC at CT0 ⊢
  simp only at CR0 CT0 ⊢
  generalize bytR ⟨cl, kd, fr, tm, k1, k2, k3, n, m, a, b, c, l⟩ = bs at *
  by_cases g1 : cl < 1
  · rw [hno (fun h => by have := h.cl; simp only at this; omega)]
    exact dm1 kd cl tm n m fr k1 k2 k3 (S a) (S b) (S c) va _ vc w g1
  by_cases g2 : 3 < cl
  · rw [hno (fun h => by have := h.cl; simp only at this; omega)]
    exact dm2 kd cl tm n m fr k1 k2 k3 (S a) (S b) (S c) va _ vc w g2
  by_cases g3 : kd < 1
  · rw [hno (fun h => by have := h.cl; simp only at this; omega)]
    exact dm3 kd cl tm n m fr k1 k2 k3 (S a) (S b) (S c) va _ vc w g1 g2 g3
  by_cases g4 : 24 < kd
  · rw [hno (fun h => by have := h.cl; simp only at this; omega)]
    exact dm4 kd cl tm n m fr k1 k2 k3 (S a) (S b) (S c) va _ vc w g1 g2 g4
  have g0 : cl = 1 ∨ cl = 2 ∨ cl = 3 := by omega
  rcases g0 with rfl | rfl | rfl
  · by_cases g5 : 16 < kd
    · rw [hno (fun h => by have := h.kd2; simp [lk] at this; omega)]
      exact dm5 kd 1 tm n m fr k1 k2 k3 (S a) (S b) (S c) va _ vc w g1 g2 g3 g4 (by decide) g5
    by_cases gn : ¬ fr = 0
    · rw [hno (fun h => gn (h.fr.2 rfl))]
      exact dm6_1 kd tm n m fr k1 k2 k3 (S a) (S b) (S c) va _ vc w g3 g4 g5 gn
    have g6 : fr = 0 := by omega
    by_cases g7 : tm < 0
    · rw [hno (fun h => by have := h.tm0; simp only at this; omega)]
      exact dm8_1 kd tm n m fr k1 k2 k3 (S a) (S b) (S c) va _ vc w g3 g4 g5 g6 g7
    by_cases g8 : 1099511627776 < tm
    · rw [hno (fun h => by have := h.tm1; simp only at this; omega)]
      exact dm9_1 kd tm n m fr k1 k2 k3 (S a) (S b) (S c) va _ vc w g3 g4 g5 g6 g7 g8
    by_cases gk : kd = 1
    · subst gk
      have eA : mA ⟨1, 1, fr, tm, k1, k2, k3, n, m, a, b, c, l⟩ = 8192 := by simp [mA]
      have eB : mB ⟨1, 1, fr, tm, k1, k2, k3, n, m, a, b, c, l⟩ = 1024 := by simp [mB]
      by_cases ga : 8192 < (S a).size
      · rw [hno (fun h => by have := h.la; rw [eA] at this; simp only at this; omega)]
        exact dmA_11 tm n m fr k1 k2 k3 (S a) (S b) (S c) va _ vc w g6 g7 g8 ga _ CR0
      by_cases gb : 1024 < (S b).size
      · rw [hno (fun h => by have := h.lb; rw [eB] at this; simp only at this; omega)]
        exact dmB_11 tm n m fr k1 k2 k3 (S a) (S b) (S c) va _ vc w g6 g7 g8 (by omega) gb _ CR0
      by_cases gc : 32 < (S c).size
      · rw [hno (fun h => by have := h.lc; simp only at this; omega)]
        exact dmC_11 tm n m fr k1 k2 k3 (S a) (S b) (S c) va _ vc w g6 g7 g8 (by omega) (by omega) gc _ CR0
      cases gr : rgt l with
      | false =>
        rw [hno (fun h => by have := h.vr; simp only at this; rw [gr] at this; cases this)]
        exact dmR_11 tm n m fr k1 k2 k3 (S a) (S b) (S c) va _ vc w g6 g7 g8 (by omega) (by omega) (by omega) _ CR0 gr
      | true =>
        have hfit : Fit ⟨1, 1, fr, tm, k1, k2, k3, n, m, a, b, c, l⟩ := ⟨by simp only; omega, (by simp [lk]; try omega), ⟨fun _ => rfl, fun _ => g6⟩, by simp only; omega, by simp only; omega, by rw [eA]; simp only; omega, by rw [eB]; simp only; omega, by simp only; omega, gr⟩
        rw [hyes hfit]
        exact dmT_11 tm n m fr k1 k2 k3 (S a) (S b) (S c) va _ vc w g6 g7 g8 (by omega) (by omega) (by omega) _ CR0 _ (CT0 hfit) gr
    have eA : mA ⟨1, kd, fr, tm, k1, k2, k3, n, m, a, b, c, l⟩ = 32 := by simp [mA, gk]
    have eB : mB ⟨1, kd, fr, tm, k1, k2, k3, n, m, a, b, c, l⟩ = 1024 := by simp [mB]
    by_cases ga : 32 < (S a).size
    · rw [hno (fun h => by have := h.la; rw [eA] at this; simp only at this; omega)]
      exact dmA_10 kd tm n m fr k1 k2 k3 (S a) (S b) (S c) va _ vc w g3 g4 g5 gk g6 g7 g8 ga _ CR0
    by_cases gb : 1024 < (S b).size
    · rw [hno (fun h => by have := h.lb; rw [eB] at this; simp only at this; omega)]
      exact dmB_10 kd tm n m fr k1 k2 k3 (S a) (S b) (S c) va _ vc w g3 g4 g5 gk g6 g7 g8 (by omega) gb _ CR0
    by_cases gc : 32 < (S c).size
    · rw [hno (fun h => by have := h.lc; simp only at this; omega)]
      exact dmC_10 kd tm n m fr k1 k2 k3 (S a) (S b) (S c) va _ vc w g3 g4 g5 gk g6 g7 g8 (by omega) (by omega) gc _ CR0
    cases gr : rgt l with
    | false =>
      rw [hno (fun h => by have := h.vr; simp only at this; rw [gr] at this; cases this)]
      exact dmR_10 kd tm n m fr k1 k2 k3 (S a) (S b) (S c) va _ vc w g3 g4 g5 gk g6 g7 g8 (by omega) (by omega) (by omega) _ CR0 gr
    | true =>
      have hfit : Fit ⟨1, kd, fr, tm, k1, k2, k3, n, m, a, b, c, l⟩ := ⟨by simp only; omega, (by simp [lk]; try omega), ⟨fun _ => rfl, fun _ => g6⟩, by simp only; omega, by simp only; omega, by rw [eA]; simp only; omega, by rw [eB]; simp only; omega, by simp only; omega, gr⟩
      rw [hyes hfit]
      exact dmT_10 kd tm n m fr k1 k2 k3 (S a) (S b) (S c) va _ vc w g3 g4 g5 gk g6 g7 g8 (by omega) (by omega) (by omega) _ CR0 _ (CT0 hfit) gr
  · by_cases g6 : fr = 0
    · rw [hno (fun h => absurd (h.fr.1 g6) (by simp))]
      exact dm6_2 kd tm n m fr k1 k2 k3 (S a) (S b) (S c) va _ vc w g3 g4 g6
    by_cases g7 : tm < 0
    · rw [hno (fun h => by have := h.tm0; simp only at this; omega)]
      exact dm8_2 kd tm n m fr k1 k2 k3 (S a) (S b) (S c) va _ vc w g3 g4 g6 g7
    by_cases g8 : 1099511627776 < tm
    · rw [hno (fun h => by have := h.tm1; simp only at this; omega)]
      exact dm9_2 kd tm n m fr k1 k2 k3 (S a) (S b) (S c) va _ vc w g3 g4 g6 g7 g8
    by_cases gk : kd = 1
    · subst gk
      have eA : mA ⟨2, 1, fr, tm, k1, k2, k3, n, m, a, b, c, l⟩ = 32 := by simp [mA]
      have eB : mB ⟨2, 1, fr, tm, k1, k2, k3, n, m, a, b, c, l⟩ = 8192 := by simp [mB]
      by_cases ga : 32 < (S a).size
      · rw [hno (fun h => by have := h.la; rw [eA] at this; simp only at this; omega)]
        exact dmA_21 tm n m fr k1 k2 k3 (S a) (S b) (S c) va _ vc w g6 g7 g8 ga _ CR0
      by_cases gb : 8192 < (S b).size
      · rw [hno (fun h => by have := h.lb; rw [eB] at this; simp only at this; omega)]
        exact dmB_21 tm n m fr k1 k2 k3 (S a) (S b) (S c) va _ vc w g6 g7 g8 (by omega) gb _ CR0
      by_cases gc : 32 < (S c).size
      · rw [hno (fun h => by have := h.lc; simp only at this; omega)]
        exact dmC_21 tm n m fr k1 k2 k3 (S a) (S b) (S c) va _ vc w g6 g7 g8 (by omega) (by omega) gc _ CR0
      cases gr : rgt l with
      | false =>
        rw [hno (fun h => by have := h.vr; simp only at this; rw [gr] at this; cases this)]
        exact dmR_21 tm n m fr k1 k2 k3 (S a) (S b) (S c) va _ vc w g6 g7 g8 (by omega) (by omega) (by omega) _ CR0 gr
      | true =>
        have hfit : Fit ⟨2, 1, fr, tm, k1, k2, k3, n, m, a, b, c, l⟩ := ⟨by simp only; omega, (by simp [lk]; try omega), ⟨fun h => absurd h g6, fun h => absurd h (by simp)⟩, by simp only; omega, by simp only; omega, by rw [eA]; simp only; omega, by rw [eB]; simp only; omega, by simp only; omega, gr⟩
        rw [hyes hfit]
        exact dmT_21 tm n m fr k1 k2 k3 (S a) (S b) (S c) va _ vc w g6 g7 g8 (by omega) (by omega) (by omega) _ CR0 _ (CT0 hfit) gr
    have eA : mA ⟨2, kd, fr, tm, k1, k2, k3, n, m, a, b, c, l⟩ = 32 := by simp [mA]
    have eB : mB ⟨2, kd, fr, tm, k1, k2, k3, n, m, a, b, c, l⟩ = 1024 := by simp [mB, gk]
    by_cases ga : 32 < (S a).size
    · rw [hno (fun h => by have := h.la; rw [eA] at this; simp only at this; omega)]
      exact dmA_20 kd tm n m fr k1 k2 k3 (S a) (S b) (S c) va _ vc w g3 g4 gk g6 g7 g8 ga _ CR0
    by_cases gb : 1024 < (S b).size
    · rw [hno (fun h => by have := h.lb; rw [eB] at this; simp only at this; omega)]
      exact dmB_20 kd tm n m fr k1 k2 k3 (S a) (S b) (S c) va _ vc w g3 g4 gk g6 g7 g8 (by omega) gb _ CR0
    by_cases gc : 32 < (S c).size
    · rw [hno (fun h => by have := h.lc; simp only at this; omega)]
      exact dmC_20 kd tm n m fr k1 k2 k3 (S a) (S b) (S c) va _ vc w g3 g4 gk g6 g7 g8 (by omega) (by omega) gc _ CR0
    cases gr : rgt l with
    | false =>
      rw [hno (fun h => by have := h.vr; simp only at this; rw [gr] at this; cases this)]
      exact dmR_20 kd tm n m fr k1 k2 k3 (S a) (S b) (S c) va _ vc w g3 g4 gk g6 g7 g8 (by omega) (by omega) (by omega) _ CR0 gr
    | true =>
      have hfit : Fit ⟨2, kd, fr, tm, k1, k2, k3, n, m, a, b, c, l⟩ := ⟨by simp only; omega, (by simp [lk]; try omega), ⟨fun h => absurd h g6, fun h => absurd h (by simp)⟩, by simp only; omega, by simp only; omega, by rw [eA]; simp only; omega, by rw [eB]; simp only; omega, by simp only; omega, gr⟩
      rw [hyes hfit]
      exact dmT_20 kd tm n m fr k1 k2 k3 (S a) (S b) (S c) va _ vc w g3 g4 gk g6 g7 g8 (by omega) (by omega) (by omega) _ CR0 _ (CT0 hfit) gr
  · by_cases g5 : 16 < kd
    · rw [hno (fun h => by have := h.kd2; simp [lk] at this; omega)]
      exact dm5 kd 3 tm n m fr k1 k2 k3 (S a) (S b) (S c) va _ vc w g1 g2 g3 g4 (by decide) g5
    by_cases g6 : fr = 0
    · rw [hno (fun h => absurd (h.fr.1 g6) (by simp))]
      exact dm6_3 kd tm n m fr k1 k2 k3 (S a) (S b) (S c) va _ vc w g3 g4 g5 g6
    by_cases g7 : tm < 0
    · rw [hno (fun h => by have := h.tm0; simp only at this; omega)]
      exact dm8_3 kd tm n m fr k1 k2 k3 (S a) (S b) (S c) va _ vc w g3 g4 g5 g6 g7
    by_cases g8 : 1099511627776 < tm
    · rw [hno (fun h => by have := h.tm1; simp only at this; omega)]
      exact dm9_3 kd tm n m fr k1 k2 k3 (S a) (S b) (S c) va _ vc w g3 g4 g5 g6 g7 g8
    by_cases gk : kd = 1
    · subst gk
      have eA : mA ⟨3, 1, fr, tm, k1, k2, k3, n, m, a, b, c, l⟩ = 32 := by simp [mA]
      have eB : mB ⟨3, 1, fr, tm, k1, k2, k3, n, m, a, b, c, l⟩ = 1024 := by simp [mB]
      by_cases ga : 32 < (S a).size
      · rw [hno (fun h => by have := h.la; rw [eA] at this; simp only at this; omega)]
        exact dmA_31 tm n m fr k1 k2 k3 (S a) (S b) (S c) va _ vc w g6 g7 g8 ga _ CR0
      by_cases gb : 1024 < (S b).size
      · rw [hno (fun h => by have := h.lb; rw [eB] at this; simp only at this; omega)]
        exact dmB_31 tm n m fr k1 k2 k3 (S a) (S b) (S c) va _ vc w g6 g7 g8 (by omega) gb _ CR0
      by_cases gc : 32 < (S c).size
      · rw [hno (fun h => by have := h.lc; simp only at this; omega)]
        exact dmC_31 tm n m fr k1 k2 k3 (S a) (S b) (S c) va _ vc w g6 g7 g8 (by omega) (by omega) gc _ CR0
      cases gr : rgt l with
      | false =>
        rw [hno (fun h => by have := h.vr; simp only at this; rw [gr] at this; cases this)]
        exact dmR_31 tm n m fr k1 k2 k3 (S a) (S b) (S c) va _ vc w g6 g7 g8 (by omega) (by omega) (by omega) _ CR0 gr
      | true =>
        have hfit : Fit ⟨3, 1, fr, tm, k1, k2, k3, n, m, a, b, c, l⟩ := ⟨by simp only; omega, (by simp [lk]; try omega), ⟨fun h => absurd h g6, fun h => absurd h (by simp)⟩, by simp only; omega, by simp only; omega, by rw [eA]; simp only; omega, by rw [eB]; simp only; omega, by simp only; omega, gr⟩
        rw [hyes hfit]
        exact dmT_31 tm n m fr k1 k2 k3 (S a) (S b) (S c) va _ vc w g6 g7 g8 (by omega) (by omega) (by omega) _ CR0 _ (CT0 hfit) gr
    have eA : mA ⟨3, kd, fr, tm, k1, k2, k3, n, m, a, b, c, l⟩ = 32 := by simp [mA]
    have eB : mB ⟨3, kd, fr, tm, k1, k2, k3, n, m, a, b, c, l⟩ = 1024 := by simp [mB]
    by_cases ga : 32 < (S a).size
    · rw [hno (fun h => by have := h.la; rw [eA] at this; simp only at this; omega)]
      exact dmA_30 kd tm n m fr k1 k2 k3 (S a) (S b) (S c) va _ vc w g3 g4 g5 gk g6 g7 g8 ga _ CR0
    by_cases gb : 1024 < (S b).size
    · rw [hno (fun h => by have := h.lb; rw [eB] at this; simp only at this; omega)]
      exact dmB_30 kd tm n m fr k1 k2 k3 (S a) (S b) (S c) va _ vc w g3 g4 g5 gk g6 g7 g8 (by omega) gb _ CR0
    by_cases gc : 32 < (S c).size
    · rw [hno (fun h => by have := h.lc; simp only at this; omega)]
      exact dmC_30 kd tm n m fr k1 k2 k3 (S a) (S b) (S c) va _ vc w g3 g4 g5 gk g6 g7 g8 (by omega) (by omega) gc _ CR0
    cases gr : rgt l with
    | false =>
      rw [hno (fun h => by have := h.vr; simp only at this; rw [gr] at this; cases this)]
      exact dmR_30 kd tm n m fr k1 k2 k3 (S a) (S b) (S c) va _ vc w g3 g4 g5 gk g6 g7 g8 (by omega) (by omega) (by omega) _ CR0 gr
    | true =>
      have hfit : Fit ⟨3, kd, fr, tm, k1, k2, k3, n, m, a, b, c, l⟩ := ⟨by simp only; omega, (by simp [lk]; try omega), ⟨fun h => absurd h g6, fun h => absurd h (by simp)⟩, by simp only; omega, by simp only; omega, by rw [eA]; simp only; omega, by rw [eB]; simp only; omega, by simp only; omega, gr⟩
      rw [hyes hfit]
      exact dmT_30 kd tm n m fr k1 k2 k3 (S a) (S b) (S c) va _ vc w g3 g4 g5 gk g6 g7 g8 (by omega) (by omega) (by omega) _ CR0 _ (CT0 hfit) gr

set_option maxHeartbeats 1000000 in
set_option maxRecDepth 100000 in
theorem dBytes_yes {r : R12} (hk : Rk r) {w : World} {vv : Value} (hv : Vs w vv r.v) (h : May r) : Calls Try.prog 10 #[rV r vv] w fun e w' => e = .returned (.tuple #[.string (S (bytR r)), .int .i64 0]) ∧ Below w.heap.size w w' := by
  have B1 : Hid (Below w.heap.size w (w.alloc (.cells (rC r vv) 25))) := (Below.refl _ _).alloc (Nat.le_refl _) _
  have CM := dMay_any hk (hv.up B1.out) true ⟨fun _ => h, fun _ => rfl⟩
  have HT : Hid (∀ W, Below w.heap.size w W → Calls Try.prog 20 #[rV r vv] W fun e w' => e = .returned (.string (S (bytR r))) ∧ Below W.heap.size W w') := fun W hW => dText_any hk h.1 (hv.up hW)
  have R1 : Hid (Rx (w.alloc (.cells (rC r vv) 25)) w.heap.size (rC r vv)) := Rx.new _ _
  obtain ⟨cl, kd, fr, tm, k1, k2, k3, n, m, a, b, c, l⟩ := r
  obtain ⟨va, vc, rfl, -⟩ := hv
  clear hk h
  generalize bytR ⟨cl, kd, fr, tm, k1, k2, k3, n, m, a, b, c, l⟩ = bs at *
  unfold rV at CM HT ⊢
  unfold rC at *
  simp only at *
  go_enter Try.func10, Try.ntmps10
  go_wp2_with (first
    | (go_at_call 12; refine CM.mono ?_; rintro e w1 ⟨rfl, b1⟩; (have B2 : Hid (Below w.heap.size w w1) := bel_of B1.out b1 (Nat.le_refl _)); (have R2 := R1.out.up b1); (have c0 := R2.cell (k := 0) (v := .int .i64 cl) rfl); (have c1 := R2.cell (k := 1) (v := .int .i64 kd) rfl); (have c2 := R2.cell (k := 2) (v := .int .u64 (fr : Int)) rfl); (have c3 := R2.cell (k := 3) (v := .int .i64 tm) rfl); (have c4 := R2.cell (k := 4) (v := .int .u64 (k1 : Int)) rfl); (have c5 := R2.cell (k := 5) (v := .int .u64 (k2 : Int)) rfl); (have c6 := R2.cell (k := 6) (v := .int .u64 (k3 : Int)) rfl); (have c7 := R2.cell (k := 7) (v := .int .i64 n) rfl); (have c8 := R2.cell (k := 8) (v := .int .i64 m) rfl); (have c9 := R2.cell (k := 9) (v := .string (S a)) rfl); (have c10 := R2.cell (k := 10) (v := .string (S b)) rfl); (have c11 := R2.cell (k := 11) (v := .string (S c)) rfl); (have c12 := R2.cell (k := 12) (v := .slice va l.length vc) rfl); (have CT := HT.out w1 B2.out); clear b1 CM R1 R2 HT)
    | (go_at_call 20; refine CT.mono ?_; rintro e w2 ⟨rfl, b2⟩; (have B3 : Hid (Below w.heap.size w w2) := bel_of B2.out b2 (Nat.le_refl _)); clear b2 CT))
  go_ret2
  exact ⟨rfl, B3.out⟩

set_option maxHeartbeats 1000000 in
set_option maxRecDepth 100000 in
theorem dBytes_no {r : R12} (hk : Rk r) {w : World} {vv : Value} (hv : Vs w vv r.v) (h : ¬ May r) : Calls Try.prog 10 #[rV r vv] w fun e w' => e = .returned (.tuple #[.string ⟨#[]⟩, .int .i64 1]) ∧ Below w.heap.size w w' := by
  have B1 : Hid (Below w.heap.size w (w.alloc (.cells (rC r vv) 25))) := (Below.refl _ _).alloc (Nat.le_refl _) _
  have CM := dMay_any hk (hv.up B1.out) false ⟨(fun e => by cases e), fun e => absurd e h⟩
  obtain ⟨cl, kd, fr, tm, k1, k2, k3, n, m, a, b, c, l⟩ := r
  obtain ⟨va, vc, rfl, -⟩ := hv
  clear hk h
  unfold rV at CM ⊢
  unfold rC at *
  simp only at *
  go_enter Try.func10, Try.ntmps10
  go_wp2_with (first
    | (go_at_call 12; refine CM.mono ?_; rintro e w1 ⟨rfl, b1⟩; (have B2 : Hid (Below w.heap.size w w1) := bel_of B1.out b1 (Nat.le_refl _)); clear b1 CM))
  go_ret2
  exact ⟨rfl, B2.out⟩
end Go.Proofs.Ytippnkendoghpaa.r12

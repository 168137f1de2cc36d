/-
  Package rec's May: what it comes to; the head of all statements of layer 12, shown: the document's examples come out true.
-/
import Derived.Test.YtippnkendoghpaaR12Byt
namespace Go.Proofs.Ytippnkendoghpaa.r12
open Go.RowKit Go.Shelf Go.Sort
open Go.Lib hiding intOf

set_option maxHeartbeats 1000000 in
set_option maxRecDepth 100000 in
theorem rMay_yes {r : R12} {w : World} {vv : Value} (hv : Vs w vv r.v) (hk : Rk r) (h : May r) : Calls Try.prog 11 #[rV r vv] w fun e w' => e = .returned (.bool true) ∧ Below w.heap.size w w' := by
  have B1 : Hid (Below w.heap.size w (w.alloc (.cells (rC r vv) 25))) := (Below.refl _ _).alloc (Nat.le_refl _) _
  have CB := Bytes_yes (hv.up B1.out) hk h
  obtain ⟨cl, kd, fr, tm, k1, k2, k3, n, m, a, b, c, l⟩ := r
  obtain ⟨va, vc, rfl, -⟩ := hv
  clear hk h
  unfold rV at CB ⊢
  unfold rC at *
  simp only at *
  go_enter Try.func11, Try.ntmps11
  go_wp2_with (go_at_call 9; refine CB.mono ?_; rintro e w1 ⟨rfl, b1⟩; (have B2 : Hid (Below w.heap.size w w1) := bel_of B1.out b1 (Nat.le_refl _)); clear b1 CB)
  go_ret
  exact ⟨rfl, B2.out⟩

set_option maxHeartbeats 1000000 in
set_option maxRecDepth 100000 in
theorem rMay_no {r : R12} {w : World} {vv : Value} (hv : Vs w vv r.v) (hk : Rk r) (h : ¬ May r) : Calls Try.prog 11 #[rV r vv] w fun e w' => e = .returned (.bool false) ∧ Below w.heap.size w w' := by
  have B1 : Hid (Below w.heap.size w (w.alloc (.cells (rC r vv) 25))) := (Below.refl _ _).alloc (Nat.le_refl _) _
  have CB := Bytes_no (hv.up B1.out) hk h
  obtain ⟨cl, kd, fr, tm, k1, k2, k3, n, m, a, b, c, l⟩ := r
  obtain ⟨va, vc, rfl, -⟩ := hv
  clear hk h
  unfold rV at CB ⊢
  unfold rC at *
  simp only at *
  go_enter Try.func11, Try.ntmps11
  go_wp2_with (go_at_call 9; refine CB.mono ?_; rintro e w1 ⟨rfl, b1⟩; (have B2 : Hid (Below w.heap.size w w1) := bel_of B1.out b1 (Nat.le_refl _)); clear b1 CB)
  go_ret
  exact ⟨rfl, B2.out⟩

def r1 : R12 := ⟨1, 7, 0, 0, 5, 0, 0, 0, 0, [], [], [], []⟩
theorem small_vs : Sm9 [] := fun x hx => by cases hx
theorem r1_k : Rk r1 := ⟨by decide, by decide, by decide, by decide, by decide, by decide, by decide, by decide, by decide, by decide, by decide, by decide, by decide, small_vs⟩
theorem r0_k : Rk r0 := ⟨by decide, by decide, by decide, by decide, by decide, by decide, by decide, by decide, by decide, by decide, by decide, by decide, by decide, small_vs⟩
theorem r0_no : ¬ May r0 := fun h => by have := h.1.kd1; exact absurd this (by decide)
theorem u0 : Lib.uvarint 0 = [0] := by rw [Lib.uvarint_small (by omega)]; rfl
theorem u5 : Lib.uvarint 5 = [5] := by rw [Lib.uvarint_small (by omega)]; rfl
theorem t0 : txt [] = [0] := by unfold txt; rw [List.length_nil, u0]; rfl
theorem v0 : vbs [] = [0] := by rw [vbs_yes (by decide), List.length_nil, u0]; rfl
theorem r1_b : bytR r1 = [1, 7, 0, 0, 5, 0, 0, 0, 0, 0, 0, 0, 0] := by
  rw [← segs_flat]
  unfold segs r1
  simp only
  rw [show Lib.zigzag 0 = 0 from rfl, u0, u5, t0, v0]
  decide
theorem r1_may : May r1 := by
  refine ⟨⟨by decide, by decide, by decide, by decide, by decide, by decide, by decide, by decide, by decide⟩, ?_⟩
  rw [r1_b]
  decide

set_option maxHeartbeats 1000000 in
set_option maxRecDepth 100000 in
theorem shown_any (w : World) : Calls Try.prog 8 #[] w fun e w' => e = .returned (.bool true) ∧ Below w.heap.size w w' := by
  have C1 := fun W => Bytes_yes (r := r1) (w := W) (vv := .slice none 0 0) (Vs.nil W) r1_k r1_may
  have C0 := fun W => Bytes_no (r := r0) (w := W) (vv := .slice none 0 0) (Vs.nil W) r0_k r0_no
  rw [r1_b] at C1
  have e1 : rV r1 (.slice none 0 0) = .agg #[.int .i64 1, .int .i64 7, .int .u64 0, .int .i64 0, .int .u64 5, .int .u64 0, .int .u64 0, .int .i64 0, .int .i64 0, .string ⟨#[]⟩, .string ⟨#[]⟩, .string ⟨#[]⟩, .slice none 0 0] := rfl
  have e0 : rV r0 (.slice none 0 0) = .agg #[.int .i64 0, .int .i64 0, .int .u64 0, .int .i64 0, .int .u64 0, .int .u64 0, .int .u64 0, .int .i64 0, .int .i64 0, .string ⟨#[]⟩, .string ⟨#[]⟩, .string ⟨#[]⟩, .slice none 0 0] := rfl
  have es : S [1, 7, 0, 0, 5, 0, 0, 0, 0, 0, 0, 0, 0] = ⟨#[1, 7, 0, 0, 5, 0, 0, 0, 0, 0, 0, 0, 0]⟩ := rfl
  rw [e1, es] at C1
  rw [e0] at C0
  clear e1 e0 es
  go_enter Try.func8, Try.ntmps8
  go_wp2_with (first
    | (go_at_call_of 9 (Value.agg #[.int .i64 1, .int .i64 7, .int .u64 0, .int .i64 0, .int .u64 5, .int .u64 0, .int .u64 0, .int .i64 0, .int .i64 0, .string ⟨#[]⟩, .string ⟨#[]⟩, .string ⟨#[]⟩, .slice none 0 0]); refine (C1 _).mono ?_; rintro e w1 ⟨rfl, b1⟩; (have B1 : Hid (Below w.heap.size w w1) := b1); clear b1 C1)
    | (go_at_call 9; refine (C0 _).mono ?_; rintro e w2 ⟨rfl, b2⟩; (have B2 : Hid (Below w.heap.size w w2) := bel_of B1.out b2 (Nat.le_refl _)); clear b2 C0))
  go_ret
  exact ⟨rfl, B2.out⟩
end Go.Proofs.Ytippnkendoghpaa.r12

/-
  The document's May: what is refused at once.
-/
import Derived.Test.YtippnkendoghpaaR12Byt
namespace Go.Proofs.Ytippnkendoghpaa.r12
open Go.RowKit Go.Shelf Go.Sort
open Go.Lib hiding intOf

set_option maxHeartbeats 2000000 in
set_option maxRecDepth 100000 in
theorem dm1 (kd cl tm n m : Int) (fr k1 k2 k3 : Nat) (sa sb sc : ByteArray) (va : Option Addr) (vl vc : Nat) (w : World) (h : cl < 1)  : Calls Try.prog 12 #[.agg #[.int .i64 cl, .int .i64 kd, .int .u64 (fr : Int), .int .i64 tm, .int .u64 (k1 : Int), .int .u64 (k2 : Int), .int .u64 (k3 : Int), .int .i64 n, .int .i64 m, .string sa, .string sb, .string sc, .slice va vl vc]] w fun e w' => e = .returned (.bool false) ∧ Below w.heap.size w w' := by
  have B1 : Hid (Below w.heap.size w (w.alloc (.cells #[.int .i64 cl, .int .i64 kd, .int .u64 (fr : Int), .int .i64 tm, .int .u64 (k1 : Int), .int .u64 (k2 : Int), .int .u64 (k3 : Int), .int .i64 n, .int .i64 m, .string sa, .string sb, .string sc, .slice va vl vc] 25))) := (Below.refl _ w).alloc (Nat.le_refl _) _
  go_enter Try.func12, Try.ntmps12
  go_wp2
  go_ret
  exact ⟨rfl, B1.out⟩

set_option maxHeartbeats 2000000 in
set_option maxRecDepth 100000 in
theorem dm2 (kd cl tm n m : Int) (fr k1 k2 k3 : Nat) (sa sb sc : ByteArray) (va : Option Addr) (vl vc : Nat) (w : World) (h : 3 < cl)  : Calls Try.prog 12 #[.agg #[.int .i64 cl, .int .i64 kd, .int .u64 (fr : Int), .int .i64 tm, .int .u64 (k1 : Int), .int .u64 (k2 : Int), .int .u64 (k3 : Int), .int .i64 n, .int .i64 m, .string sa, .string sb, .string sc, .slice va vl vc]] w fun e w' => e = .returned (.bool false) ∧ Below w.heap.size w w' := by
  have h1 : ¬ cl < 1 := by omega
  have B1 : Hid (Below w.heap.size w (w.alloc (.cells #[.int .i64 cl, .int .i64 kd, .int .u64 (fr : Int), .int .i64 tm, .int .u64 (k1 : Int), .int .u64 (k2 : Int), .int .u64 (k3 : Int), .int .i64 n, .int .i64 m, .string sa, .string sb, .string sc, .slice va vl vc] 25))) := (Below.refl _ w).alloc (Nat.le_refl _) _
  go_enter Try.func12, Try.ntmps12
  go_wp2
  go_ret
  exact ⟨rfl, B1.out⟩

set_option maxHeartbeats 2000000 in
set_option maxRecDepth 100000 in
theorem dm3 (kd cl tm n m : Int) (fr k1 k2 k3 : Nat) (sa sb sc : ByteArray) (va : Option Addr) (vl vc : Nat) (w : World) (h1 : ¬ cl < 1) (h2 : ¬ 3 < cl) (h : kd < 1)  : Calls Try.prog 12 #[.agg #[.int .i64 cl, .int .i64 kd, .int .u64 (fr : Int), .int .i64 tm, .int .u64 (k1 : Int), .int .u64 (k2 : Int), .int .u64 (k3 : Int), .int .i64 n, .int .i64 m, .string sa, .string sb, .string sc, .slice va vl vc]] w fun e w' => e = .returned (.bool false) ∧ Below w.heap.size w w' := by
  have B1 : Hid (Below w.heap.size w (w.alloc (.cells #[.int .i64 cl, .int .i64 kd, .int .u64 (fr : Int), .int .i64 tm, .int .u64 (k1 : Int), .int .u64 (k2 : Int), .int .u64 (k3 : Int), .int .i64 n, .int .i64 m, .string sa, .string sb, .string sc, .slice va vl vc] 25))) := (Below.refl _ w).alloc (Nat.le_refl _) _
  go_enter Try.func12, Try.ntmps12
  go_wp2
  go_ret
  exact ⟨rfl, B1.out⟩

set_option maxHeartbeats 2000000 in
set_option maxRecDepth 100000 in
theorem dm4 (kd cl tm n m : Int) (fr k1 k2 k3 : Nat) (sa sb sc : ByteArray) (va : Option Addr) (vl vc : Nat) (w : World) (h1 : ¬ cl < 1) (h2 : ¬ 3 < cl) (h : 24 < kd)  : Calls Try.prog 12 #[.agg #[.int .i64 cl, .int .i64 kd, .int .u64 (fr : Int), .int .i64 tm, .int .u64 (k1 : Int), .int .u64 (k2 : Int), .int .u64 (k3 : Int), .int .i64 n, .int .i64 m, .string sa, .string sb, .string sc, .slice va vl vc]] w fun e w' => e = .returned (.bool false) ∧ Below w.heap.size w w' := by
  have h3 : ¬ kd < 1 := by omega
  have B1 : Hid (Below w.heap.size w (w.alloc (.cells #[.int .i64 cl, .int .i64 kd, .int .u64 (fr : Int), .int .i64 tm, .int .u64 (k1 : Int), .int .u64 (k2 : Int), .int .u64 (k3 : Int), .int .i64 n, .int .i64 m, .string sa, .string sb, .string sc, .slice va vl vc] 25))) := (Below.refl _ w).alloc (Nat.le_refl _) _
  go_enter Try.func12, Try.ntmps12
  go_wp2
  go_ret
  exact ⟨rfl, B1.out⟩

set_option maxHeartbeats 2000000 in
set_option maxRecDepth 100000 in
theorem dm5 (kd cl tm n m : Int) (fr k1 k2 k3 : Nat) (sa sb sc : ByteArray) (va : Option Addr) (vl vc : Nat) (w : World) (h1 : ¬ cl < 1) (h2 : ¬ 3 < cl) (h3 : ¬ kd < 1) (h4 : ¬ 24 < kd) (h0 : cl ≠ 2) (h : 16 < kd)  : Calls Try.prog 12 #[.agg #[.int .i64 cl, .int .i64 kd, .int .u64 (fr : Int), .int .i64 tm, .int .u64 (k1 : Int), .int .u64 (k2 : Int), .int .u64 (k3 : Int), .int .i64 n, .int .i64 m, .string sa, .string sb, .string sc, .slice va vl vc]] w fun e w' => e = .returned (.bool false) ∧ Below w.heap.size w w' := by
  have d0 : (cl != 2) = true := bne_iff_ne.2 h0
  have B1 : Hid (Below w.heap.size w (w.alloc (.cells #[.int .i64 cl, .int .i64 kd, .int .u64 (fr : Int), .int .i64 tm, .int .u64 (k1 : Int), .int .u64 (k2 : Int), .int .u64 (k3 : Int), .int .i64 n, .int .i64 m, .string sa, .string sb, .string sc, .slice va vl vc] 25))) := (Below.refl _ w).alloc (Nat.le_refl _) _
  clear h0
  go_enter Try.func12, Try.ntmps12
  go_wp2
  go_ret
  exact ⟨rfl, B1.out⟩

set_option maxHeartbeats 2000000 in
set_option maxRecDepth 100000 in
theorem dm6_1 (kd tm n m : Int) (fr k1 k2 k3 : Nat) (sa sb sc : ByteArray) (va : Option Addr) (vl vc : Nat) (w : World) (h3 : ¬ kd < 1) (h4 : ¬ 24 < kd) (h5 : ¬ 16 < kd) (hf : fr ≠ 0)  : Calls Try.prog 12 #[.agg #[.int .i64 1, .int .i64 kd, .int .u64 (fr : Int), .int .i64 tm, .int .u64 (k1 : Int), .int .u64 (k2 : Int), .int .u64 (k3 : Int), .int .i64 n, .int .i64 m, .string sa, .string sb, .string sc, .slice va vl vc]] w fun e w' => e = .returned (.bool false) ∧ Below w.heap.size w w' := by
  have d6 : ((fr : Int) != 0) = true := bne_iff_ne.2 (by omega)
  have B1 : Hid (Below w.heap.size w (w.alloc (.cells #[.int .i64 1, .int .i64 kd, .int .u64 (fr : Int), .int .i64 tm, .int .u64 (k1 : Int), .int .u64 (k2 : Int), .int .u64 (k3 : Int), .int .i64 n, .int .i64 m, .string sa, .string sb, .string sc, .slice va vl vc] 25))) := (Below.refl _ w).alloc (Nat.le_refl _) _
  clear hf
  go_enter Try.func12, Try.ntmps12
  go_wp2
  go_ret
  exact ⟨rfl, B1.out⟩

set_option maxHeartbeats 2000000 in
set_option maxRecDepth 100000 in
theorem dm8_1 (kd tm n m : Int) (fr k1 k2 k3 : Nat) (sa sb sc : ByteArray) (va : Option Addr) (vl vc : Nat) (w : World) (h3 : ¬ kd < 1) (h4 : ¬ 24 < kd) (h5 : ¬ 16 < kd) (hf : fr = 0) (h : tm < 0)  : Calls Try.prog 12 #[.agg #[.int .i64 1, .int .i64 kd, .int .u64 (fr : Int), .int .i64 tm, .int .u64 (k1 : Int), .int .u64 (k2 : Int), .int .u64 (k3 : Int), .int .i64 n, .int .i64 m, .string sa, .string sb, .string sc, .slice va vl vc]] w fun e w' => e = .returned (.bool false) ∧ Below w.heap.size w w' := by
  have d6 : ((fr : Int) != 0) = false := by simp [hf]
  have d7 : ((fr : Int) == 0) = true := by simp [hf]
  have B1 : Hid (Below w.heap.size w (w.alloc (.cells #[.int .i64 1, .int .i64 kd, .int .u64 (fr : Int), .int .i64 tm, .int .u64 (k1 : Int), .int .u64 (k2 : Int), .int .u64 (k3 : Int), .int .i64 n, .int .i64 m, .string sa, .string sb, .string sc, .slice va vl vc] 25))) := (Below.refl _ w).alloc (Nat.le_refl _) _
  clear hf
  go_enter Try.func12, Try.ntmps12
  go_wp2
  go_ret
  exact ⟨rfl, B1.out⟩

set_option maxHeartbeats 2000000 in
set_option maxRecDepth 100000 in
theorem dm9_1 (kd tm n m : Int) (fr k1 k2 k3 : Nat) (sa sb sc : ByteArray) (va : Option Addr) (vl vc : Nat) (w : World) (h3 : ¬ kd < 1) (h4 : ¬ 24 < kd) (h5 : ¬ 16 < kd) (hf : fr = 0) (h0 : ¬ tm < 0) (h : 1099511627776 < tm)  : Calls Try.prog 12 #[.agg #[.int .i64 1, .int .i64 kd, .int .u64 (fr : Int), .int .i64 tm, .int .u64 (k1 : Int), .int .u64 (k2 : Int), .int .u64 (k3 : Int), .int .i64 n, .int .i64 m, .string sa, .string sb, .string sc, .slice va vl vc]] w fun e w' => e = .returned (.bool false) ∧ Below w.heap.size w w' := by
  have d6 : ((fr : Int) != 0) = false := by simp [hf]
  have d7 : ((fr : Int) == 0) = true := by simp [hf]
  have B1 : Hid (Below w.heap.size w (w.alloc (.cells #[.int .i64 1, .int .i64 kd, .int .u64 (fr : Int), .int .i64 tm, .int .u64 (k1 : Int), .int .u64 (k2 : Int), .int .u64 (k3 : Int), .int .i64 n, .int .i64 m, .string sa, .string sb, .string sc, .slice va vl vc] 25))) := (Below.refl _ w).alloc (Nat.le_refl _) _
  clear hf
  go_enter Try.func12, Try.ntmps12
  go_wp2
  go_ret
  exact ⟨rfl, B1.out⟩

set_option maxHeartbeats 2000000 in
set_option maxRecDepth 100000 in
theorem dm6_2 (kd tm n m : Int) (fr k1 k2 k3 : Nat) (sa sb sc : ByteArray) (va : Option Addr) (vl vc : Nat) (w : World) (h3 : ¬ kd < 1) (h4 : ¬ 24 < kd) (hf : fr = 0)  : Calls Try.prog 12 #[.agg #[.int .i64 2, .int .i64 kd, .int .u64 (fr : Int), .int .i64 tm, .int .u64 (k1 : Int), .int .u64 (k2 : Int), .int .u64 (k3 : Int), .int .i64 n, .int .i64 m, .string sa, .string sb, .string sc, .slice va vl vc]] w fun e w' => e = .returned (.bool false) ∧ Below w.heap.size w w' := by
  have d6 : ((fr : Int) == 0) = true := by simp [hf]
  have B1 : Hid (Below w.heap.size w (w.alloc (.cells #[.int .i64 2, .int .i64 kd, .int .u64 (fr : Int), .int .i64 tm, .int .u64 (k1 : Int), .int .u64 (k2 : Int), .int .u64 (k3 : Int), .int .i64 n, .int .i64 m, .string sa, .string sb, .string sc, .slice va vl vc] 25))) := (Below.refl _ w).alloc (Nat.le_refl _) _
  clear hf
  go_enter Try.func12, Try.ntmps12
  go_wp2
  go_ret
  exact ⟨rfl, B1.out⟩

set_option maxHeartbeats 2000000 in
set_option maxRecDepth 100000 in
theorem dm8_2 (kd tm n m : Int) (fr k1 k2 k3 : Nat) (sa sb sc : ByteArray) (va : Option Addr) (vl vc : Nat) (w : World) (h3 : ¬ kd < 1) (h4 : ¬ 24 < kd) (hf : fr ≠ 0) (h : tm < 0)  : Calls Try.prog 12 #[.agg #[.int .i64 2, .int .i64 kd, .int .u64 (fr : Int), .int .i64 tm, .int .u64 (k1 : Int), .int .u64 (k2 : Int), .int .u64 (k3 : Int), .int .i64 n, .int .i64 m, .string sa, .string sb, .string sc, .slice va vl vc]] w fun e w' => e = .returned (.bool false) ∧ Below w.heap.size w w' := by
  have d7 : ((fr : Int) == 0) = false := beq_eq_false_iff_ne.2 (by omega)
  have d6 : ((fr : Int) != 0) = true := bne_iff_ne.2 (by omega)
  have B1 : Hid (Below w.heap.size w (w.alloc (.cells #[.int .i64 2, .int .i64 kd, .int .u64 (fr : Int), .int .i64 tm, .int .u64 (k1 : Int), .int .u64 (k2 : Int), .int .u64 (k3 : Int), .int .i64 n, .int .i64 m, .string sa, .string sb, .string sc, .slice va vl vc] 25))) := (Below.refl _ w).alloc (Nat.le_refl _) _
  clear hf
  go_enter Try.func12, Try.ntmps12
  go_wp2
  go_ret
  exact ⟨rfl, B1.out⟩

set_option maxHeartbeats 2000000 in
set_option maxRecDepth 100000 in
theorem dm9_2 (kd tm n m : Int) (fr k1 k2 k3 : Nat) (sa sb sc : ByteArray) (va : Option Addr) (vl vc : Nat) (w : World) (h3 : ¬ kd < 1) (h4 : ¬ 24 < kd) (hf : fr ≠ 0) (h0 : ¬ tm < 0) (h : 1099511627776 < tm)  : Calls Try.prog 12 #[.agg #[.int .i64 2, .int .i64 kd, .int .u64 (fr : Int), .int .i64 tm, .int .u64 (k1 : Int), .int .u64 (k2 : Int), .int .u64 (k3 : Int), .int .i64 n, .int .i64 m, .string sa, .string sb, .string sc, .slice va vl vc]] w fun e w' => e = .returned (.bool false) ∧ Below w.heap.size w w' := by
  have d7 : ((fr : Int) == 0) = false := beq_eq_false_iff_ne.2 (by omega)
  have d6 : ((fr : Int) != 0) = true := bne_iff_ne.2 (by omega)
  have B1 : Hid (Below w.heap.size w (w.alloc (.cells #[.int .i64 2, .int .i64 kd, .int .u64 (fr : Int), .int .i64 tm, .int .u64 (k1 : Int), .int .u64 (k2 : Int), .int .u64 (k3 : Int), .int .i64 n, .int .i64 m, .string sa, .string sb, .string sc, .slice va vl vc] 25))) := (Below.refl _ w).alloc (Nat.le_refl _) _
  clear hf
  go_enter Try.func12, Try.ntmps12
  go_wp2
  go_ret
  exact ⟨rfl, B1.out⟩

set_option maxHeartbeats 2000000 in
set_option maxRecDepth 100000 in
theorem dm6_3 (kd tm n m : Int) (fr k1 k2 k3 : Nat) (sa sb sc : ByteArray) (va : Option Addr) (vl vc : Nat) (w : World) (h3 : ¬ kd < 1) (h4 : ¬ 24 < kd) (h5 : ¬ 16 < kd) (hf : fr = 0)  : Calls Try.prog 12 #[.agg #[.int .i64 3, .int .i64 kd, .int .u64 (fr : Int), .int .i64 tm, .int .u64 (k1 : Int), .int .u64 (k2 : Int), .int .u64 (k3 : Int), .int .i64 n, .int .i64 m, .string sa, .string sb, .string sc, .slice va vl vc]] w fun e w' => e = .returned (.bool false) ∧ Below w.heap.size w w' := by
  have d6 : ((fr : Int) == 0) = true := by simp [hf]
  have B1 : Hid (Below w.heap.size w (w.alloc (.cells #[.int .i64 3, .int .i64 kd, .int .u64 (fr : Int), .int .i64 tm, .int .u64 (k1 : Int), .int .u64 (k2 : Int), .int .u64 (k3 : Int), .int .i64 n, .int .i64 m, .string sa, .string sb, .string sc, .slice va vl vc] 25))) := (Below.refl _ w).alloc (Nat.le_refl _) _
  clear hf
  go_enter Try.func12, Try.ntmps12
  go_wp2
  go_ret
  exact ⟨rfl, B1.out⟩

set_option maxHeartbeats 2000000 in
set_option maxRecDepth 100000 in
theorem dm8_3 (kd tm n m : Int) (fr k1 k2 k3 : Nat) (sa sb sc : ByteArray) (va : Option Addr) (vl vc : Nat) (w : World) (h3 : ¬ kd < 1) (h4 : ¬ 24 < kd) (h5 : ¬ 16 < kd) (hf : fr ≠ 0) (h : tm < 0)  : Calls Try.prog 12 #[.agg #[.int .i64 3, .int .i64 kd, .int .u64 (fr : Int), .int .i64 tm, .int .u64 (k1 : Int), .int .u64 (k2 : Int), .int .u64 (k3 : Int), .int .i64 n, .int .i64 m, .string sa, .string sb, .string sc, .slice va vl vc]] w fun e w' => e = .returned (.bool false) ∧ Below w.heap.size w w' := by
  have d7 : ((fr : Int) == 0) = false := beq_eq_false_iff_ne.2 (by omega)
  have d6 : ((fr : Int) != 0) = true := bne_iff_ne.2 (by omega)
  have B1 : Hid (Below w.heap.size w (w.alloc (.cells #[.int .i64 3, .int .i64 kd, .int .u64 (fr : Int), .int .i64 tm, .int .u64 (k1 : Int), .int .u64 (k2 : Int), .int .u64 (k3 : Int), .int .i64 n, .int .i64 m, .string sa, .string sb, .string sc, .slice va vl vc] 25))) := (Below.refl _ w).alloc (Nat.le_refl _) _
  clear hf
  go_enter Try.func12, Try.ntmps12
  go_wp2
  go_ret
  exact ⟨rfl, B1.out⟩

set_option maxHeartbeats 2000000 in
set_option maxRecDepth 100000 in
theorem dm9_3 (kd tm n m : Int) (fr k1 k2 k3 : Nat) (sa sb sc : ByteArray) (va : Option Addr) (vl vc : Nat) (w : World) (h3 : ¬ kd < 1) (h4 : ¬ 24 < kd) (h5 : ¬ 16 < kd) (hf : fr ≠ 0) (h0 : ¬ tm < 0) (h : 1099511627776 < tm)  : Calls Try.prog 12 #[.agg #[.int .i64 3, .int .i64 kd, .int .u64 (fr : Int), .int .i64 tm, .int .u64 (k1 : Int), .int .u64 (k2 : Int), .int .u64 (k3 : Int), .int .i64 n, .int .i64 m, .string sa, .string sb, .string sc, .slice va vl vc]] w fun e w' => e = .returned (.bool false) ∧ Below w.heap.size w w' := by
  have d7 : ((fr : Int) == 0) = false := beq_eq_false_iff_ne.2 (by omega)
  have d6 : ((fr : Int) != 0) = true := bne_iff_ne.2 (by omega)
  have B1 : Hid (Below w.heap.size w (w.alloc (.cells #[.int .i64 3, .int .i64 kd, .int .u64 (fr : Int), .int .i64 tm, .int .u64 (k1 : Int), .int .u64 (k2 : Int), .int .u64 (k3 : Int), .int .i64 n, .int .i64 m, .string sa, .string sb, .string sc, .slice va vl vc] 25))) := (Below.refl _ w).alloc (Nat.le_refl _) _
  clear hf
  go_enter Try.func12, Try.ntmps12
  go_wp2
  go_ret
  exact ⟨rfl, B1.out⟩
end Go.Proofs.Ytippnkendoghpaa.r12

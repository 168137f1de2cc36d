/-
  Package book's free, within.
-/
import Derived.Test.YthmfcloecmnfnaaGreatB16Box
namespace Go.Proofs.YthmfcloecmnfnaaGreat.f13
open Go.RowKit Go.Shelf Go.Sort
open Go.Lib hiding intOf

set_option maxHeartbeats 1000000 in
set_option maxRecDepth 100000 in
theorem free_any {w : World} (j : Jb) : Calls Tryz.prog 19 #[.agg (Jb.c j).toArray] w fun e w' => e = .returned (.bool j.wkr.isEmpty) ∧ Below w.heap.size w w' := by
  obtain ⟨j0, j1, j2, j3, j4, j5⟩ := j
  simp only [Jb.c]
  have hB : Hid (Below w.heap.size w (w.alloc (.cells #[.int .u64 (j0 : Int), .int .u64 (j1 : Int), .string (S j2), .int .i64 j3, .string (S j4), .int .i64 j5] 46))) := (Below.refl _ w).alloc (Nat.le_refl _) _

  go_enter Tryz.func19, Tryz.ntmps19
  go_wp2
  go_ret
  exact ⟨by simp [Lib.toList_data, S_data], hB.out⟩
set_option maxHeartbeats 1000000 in
theorem within_any (n a b : Int) (w : World) : Calls Tryz.prog 25 #[.int .i64 n, .int .i64 a, .int .i64 b] w fun e w' => e = .returned (.bool (decide (a ≤ n ∧ n ≤ b))) ∧ w' = w := by
  by_cases h1 : a ≤ n
  · by_cases h2 : n ≤ b
    · have h3 : decide (a ≤ n ∧ n ≤ b) = true := by simp [h1, h2]
      rw [h3]
      go_enter Tryz.func25, Tryz.ntmps25
      go_wp2
      go_ret
      exact ⟨rfl, rfl⟩
    · have h3 : decide (a ≤ n ∧ n ≤ b) = false := by simp [h1, h2]
      rw [h3]
      go_enter Tryz.func25, Tryz.ntmps25
      go_wp2
      go_ret
      exact ⟨rfl, rfl⟩
  · have h3 : decide (a ≤ n ∧ n ≤ b) = false := by simp [h1]
    rw [h3]
    go_enter Tryz.func25, Tryz.ntmps25
    go_wp2
    go_ret
    exact ⟨rfl, rfl⟩
end Go.Proofs.YthmfcloecmnfnaaGreat.f13

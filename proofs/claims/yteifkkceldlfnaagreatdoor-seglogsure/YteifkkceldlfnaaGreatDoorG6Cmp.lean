/-
  How package seglog compares segments when it sorts them.
-/
import Derived.Test.YteifkkceldlfnaaGreatDoorGLog
import Derived.Test.YteifkkceldlfnaaGreatDoorGDisk
import Derived.BigQuiet
namespace Go.Proofs.YteifkkceldlfnaaGreatDoor
open Go.RowKit Go.Shelf Go.Sort
open Go.Lib hiding intOf
attribute [local go_sem] Oper.semAt_some

/-- below, the same, above -/
def cmpN (a b : Nat) : Int := if a < b then -1 else if b < a then 1 else 0
theorem isNaN_any (a : Nat) (w : World) : Calls Tryz.prog 125 #[.int .u64 (a : Int)] w fun e w' => e = .returned (.bool false) ∧ w' = w := by
  go_enter Tryz.func125, Tryz.ntmps125
  go_wp2
  go_ret
  exact ⟨by simp, rfl⟩
set_option maxHeartbeats 1000000 in
theorem Compare_any (a b : Nat) (w : World) : Calls Tryz.prog 100 #[.int .u64 (a : Int), .int .u64 (b : Int)] w fun e w' => e = .returned (.int .i64 (cmpN a b)) ∧ w' = w := by
  have h1 := fun W => isNaN_any a W
  have h2 := fun W => isNaN_any b W
  unfold cmpN
  by_cases hab : a < b
  · have hab' : (a : Int) < (b : Int) := by omega
    rw [if_pos hab]
    go_enter Tryz.func100, Tryz.ntmps100
    go_wp2_with (first
      | (go_at_call_of 125 (Value.int .u64 (a : Int)); refine (h1 _).mono ?_; rintro e w1 ⟨rfl, hw1⟩; rw [hw1]; clear hw1)
      | (go_at_call 125; refine (h2 _).mono ?_; rintro e w1 ⟨rfl, hw1⟩; rw [hw1]; clear hw1))
    go_ret
    exact ⟨rfl, rfl⟩
  · have hab' : ¬ (a : Int) < (b : Int) := by omega
    rw [if_neg hab]
    by_cases hba : b < a
    · have hba' : (b : Int) < (a : Int) := by omega
      rw [if_pos hba]
      go_enter Tryz.func100, Tryz.ntmps100
      go_wp2_with (first
        | (go_at_call_of 125 (Value.int .u64 (a : Int)); refine (h1 _).mono ?_; rintro e w1 ⟨rfl, hw1⟩; rw [hw1]; clear hw1)
        | (go_at_call 125; refine (h2 _).mono ?_; rintro e w1 ⟨rfl, hw1⟩; rw [hw1]; clear hw1))
      go_ret
      exact ⟨rfl, rfl⟩
    · have hba' : ¬ (b : Int) < (a : Int) := by omega
      rw [if_neg hba]
      go_enter Tryz.func100, Tryz.ntmps100
      go_wp2_with (first
        | (go_at_call_of 125 (Value.int .u64 (a : Int)); refine (h1 _).mono ?_; rintro e w1 ⟨rfl, hw1⟩; rw [hw1]; clear hw1)
        | (go_at_call 125; refine (h2 _).mono ?_; rintro e w1 ⟨rfl, hw1⟩; rw [hw1]; clear hw1))
      go_ret
      exact ⟨rfl, rfl⟩
set_option maxHeartbeats 1000000 in
theorem cmp1_any {w : World} {g h a b : Nat} (h1 : w.cell? ⟨g, 1, none⟩ = some (.int .u64 (a : Int))) (h2 : w.cell? ⟨h, 1, none⟩ = some (.int .u64 (b : Int))) :
    Calls Tryz.prog 99 #[.pointer (some ⟨g, 0, none⟩), .pointer (some ⟨h, 0, none⟩)] w fun e w' => e = .returned (.int .i64 (cmpN a b)) ∧ ∃ q, w' = w.drewN q := by
  have hC := fun W => Compare_any a b W
  generalize cmpN a b = c at *
  go_enter Tryz.func99, Tryz.ntmps99
  go_wp2
  go_quiet ((go_at_call 100; refine Calls.quiet_of_same (hC _)))
  go_wp2
  go_ret
  exact ⟨rfl, nq, rfl⟩
end Go.Proofs.YteifkkceldlfnaaGreatDoor

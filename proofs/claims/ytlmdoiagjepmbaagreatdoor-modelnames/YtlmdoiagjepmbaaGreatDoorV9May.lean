/-
  Package value's May, Less, letter, digit, and the document's May, Less: what they come to.
-/
import Derived.Test.YtlmdoiagjepmbaaGreatDoorV9Pure
import Derived.Test.YtlmdoiagjepmbaaGreatDoorRLess
namespace Go.Proofs.YtlmdoiagjepmbaaGreatDoor
open Go.RowKit Go.Shelf Go.Sort
open Go.Lib hiding intOf

/-- a value as it stands -/
def vA (v : V9) : Value := .agg #[.int .i64 v.1, .int .i64 v.2.1, .string (S v.2.2)]
theorem S_emp {s : List UInt8} (h : s ≠ []) : (S s).toList.isEmpty = false := by
  rw [S_toList]
  cases s with
  | nil => exact absurd rfl h
  | cons _ _ => rfl
theorem S_nil_emp : (S []).toList.isEmpty = true := by simp [S_toList]

set_option maxHeartbeats 1000000 in
theorem letter_any (c : UInt8) (w : World) : Calls Tryz.prog 56 #[.int .u8 (c.toNat : Int)] w fun e w' => e = .returned (.bool (isL c)) ∧ w' = w := by
  by_cases h1 : 97 ≤ c.toNat
  · have h1' : (97 : Int) ≤ (c.toNat : Int) := by omega
    by_cases h2 : c.toNat ≤ 122
    · have h2' : (c.toNat : Int) ≤ 122 := by omega
      have HE : Hid (isL c = true) := by show _ = _; simp [isL, h1, h2]
      go_enter Tryz.func56, Tryz.ntmps56
      go_wp2
      go_ret
      rw [HE.out]
      exact ⟨by simp, rfl⟩
    · have h2' : ¬ (c.toNat : Int) ≤ 122 := by omega
      have HE : Hid (isL c = false) := by show _ = _; simp [isL]; omega
      go_enter Tryz.func56, Tryz.ntmps56
      go_wp2
      go_ret
      rw [HE.out]
      exact ⟨by simp, rfl⟩
  · have h1' : ¬ (97 : Int) ≤ (c.toNat : Int) := by omega
    have HE : Hid (isL c = false) := by show _ = _; simp [isL]; omega
    go_enter Tryz.func56, Tryz.ntmps56
    go_wp2
    go_ret
    rw [HE.out]
    exact ⟨rfl, rfl⟩
def isD (c : UInt8) : Bool := decide (48 ≤ c.toNat ∧ c.toNat ≤ 57)
set_option maxHeartbeats 1000000 in
theorem digit_any (c : UInt8) (w : World) : Calls Tryz.prog 57 #[.int .u8 (c.toNat : Int)] w fun e w' => e = .returned (.bool (isD c)) ∧ w' = w := by
  by_cases h1 : 48 ≤ c.toNat
  · have h1' : (48 : Int) ≤ (c.toNat : Int) := by omega
    by_cases h2 : c.toNat ≤ 57
    · have h2' : (c.toNat : Int) ≤ 57 := by omega
      have HE : Hid (isD c = true) := by show _ = _; simp [isD, h1, h2]
      go_enter Tryz.func57, Tryz.ntmps57
      go_wp2
      go_ret
      rw [HE.out]
      exact ⟨by simp, rfl⟩
    · have h2' : ¬ (c.toNat : Int) ≤ 57 := by omega
      have HE : Hid (isD c = false) := by show _ = _; simp [isD]; omega
      go_enter Tryz.func57, Tryz.ntmps57
      go_wp2
      go_ret
      rw [HE.out]
      exact ⟨by simp, rfl⟩
  · have h1' : ¬ (48 : Int) ≤ (c.toNat : Int) := by omega
    have HE : Hid (isD c = false) := by show _ = _; simp [isD]; omega
    go_enter Tryz.func57, Tryz.ntmps57
    go_wp2
    go_ret
    rw [HE.out]
    exact ⟨rfl, rfl⟩

end Go.Proofs.YtlmdoiagjepmbaaGreatDoor

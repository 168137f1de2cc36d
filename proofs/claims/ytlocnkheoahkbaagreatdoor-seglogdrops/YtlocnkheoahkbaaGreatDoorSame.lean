/-
  Contract of wherryref01.Same at equal lists: it answers true, and changes nothing that was there before the call.
-/
import Derived.Test.YtlocnkheoahkbaaGreatDoorGWire
import Derived.Deep.QuietTactic
import Derived.BigQuiet
namespace Go.Proofs.YtlocnkheoahkbaaGreatDoor
open Go.RowKit

theorem Below.drewN {B : Nat} {a w : World} (h : Below B a w) (n : Nat) : Below B a (w.drewN n) := by
  induction n generalizing w with
  | zero => exact h
  | succ n ih => exact (ih h).drew

set_option maxHeartbeats 2000000 in
theorem Same_true {va vb : Value} {ls : List (List UInt8)} {w : World} (ha : Strs w va ls) (hb : Strs w vb ls) (hlim : ls.length ≤ 140737488355328) :
    Calls Tryz.prog 30 #[va, vb] w fun r w' => r = .returned (.bool true) ∧ Below w.heap.size w w' := by
  obtain ⟨a, ca, rfl, ha⟩ := ha
  obtain ⟨b, cb, rfl, hb⟩ := hb
  have hne : (((ls.length : Nat) : Int) != (ls.length : Int)) = false := by simp
  go_enter Tryz.func30, Tryz.ntmps30
  go_wp2_with fail
  go_loopw [5] (fun vi wr => ∃ k : Nat, k ≤ ls.length ∧ vi = .int .i64 (k : Int) ∧ Below w.heap.size w wr)
    (fun vi _ => ls.length - (intOf vi).toNat)
  case atStart => exact ⟨0, Nat.zero_le _, rfl, Below.refl _ _⟩
  case round =>
    obtain ⟨k, hk, rfl, hbel⟩ := hrel
    by_cases hkl : k < ls.length
    · rcases ha with ha | ⟨a, oa, rfl, la, hca⟩
      · rw [ha] at hkl; simp at hkl
      rcases hb with hb | ⟨b, ob, rfl, lb, hcb⟩
      · rw [hb] at hkl; simp at hkl
      have ka := (hbel.cell (p := ⟨a, oa + k, none⟩) la).trans (hca k hkl)
      have kb := (hbel.cell (p := ⟨b, ob + k, none⟩) lb).trans (hcb k hkl)
      generalize ls.getD k [] = s at ka kb
      clear hca hcb
      go_wp2_with fail
      go_quiet (fail)
      go_wp2_with fail
      exact ⟨⟨k + 1, by omega, by go_num, Below.drewN hbel nq⟩, by simp [intOf]; omega⟩
    · go_wp2
      go_ret
      exact ⟨rfl, hbel⟩

end Go.Proofs.YtlocnkheoahkbaaGreatDoor

/-
  ExprBrackets, walked.
-/
import Derived.Test.YtpbfdaijnndilaaGreatDoorX10Bkt
import Derived.BigQuiet
namespace Go.Proofs.YtpbfdaijnndilaaGreatDoor.x10
open Go.RowKit Go.Shelf Go.Sort
open Go.Lib hiding intOf

theorem bel_drewN {B : Nat} {w wr : World} (h : Below B w wr) (n : Nat) : Below B w (wr.drewN n) := ⟨h.os, h.tape, h.output, h.size, h.block⟩
theorem belN {w wr : World} (h : ∃ m, wr = w.drewN m) : Below w.heap.size w wr := by obtain ⟨m, rfl⟩ := h; exact bel_drewN (Below.refl _ _) m
theorem moreN {w wr : World} (h : ∃ m, wr = w.drewN m) (n : Nat) : ∃ m, wr.drewN n = w.drewN m := by obtain ⟨m, rfl⟩ := h; exact ⟨m + n, World.drewN_drewN w m n⟩
set_option maxHeartbeats 4000000 in
set_option maxRecDepth 100000 in
theorem same10_yes {w : World} {v u : Value} {l : List P10} (hv : Es w v l) (hu : Es w u l) (hn : l.length ≤ 4611686018427387904) :
    Calls Tryz.prog 12 #[v, u] w fun e w' => e = .returned (.bool true) ∧ Below w.heap.size w w' := by
  have HV : Hid (Es w v l) := hv
  have HU : Hid (Es w u l) := hu
  obtain ⟨a, cap, rfl, -⟩ := hv
  obtain ⟨a2, cap2, rfl, -⟩ := hu
  go_enter Tryz.func12, Tryz.ntmps12
  go_wp2
  go_loopw [5] (fun v5 wr => ∃ i : Nat, v5 = .int .i64 (i : Int) ∧ i ≤ l.length ∧ Hid (∃ m, wr = w.drewN m)) (fun v5 _ => l.length - (intOf v5).toNat)
  case atStart => exact ⟨0, rfl, Nat.zero_le _, ⟨0, rfl⟩⟩
  case round =>
    obtain ⟨i, rfl, hi, HW⟩ := hrel
    by_cases hil : i < l.length
    · have hil' : (i : Int) < (l.length : Int) := by omega
      have hi0 : (0 : Int) ≤ (i : Int) := by omega
      obtain ⟨b, off, cp, hsl, hbl, hcell⟩ := (HV.out.below (belN HW.out)).at hil
      cases hsl
      obtain ⟨b2, off2, cp2, hsl2, hbl2, hcell2⟩ := (HU.out.below (belN HW.out)).at hil
      cases hsl2
      obtain ⟨m0, m1, m2, m3, m4, m5⟩ := hcell i hil
      obtain ⟨n0, n1, n2, n3, n4, n5⟩ := hcell2 i hil
      clear hcell hcell2
      generalize l[i] = x at *
      obtain ⟨x0, x1, x2, x3, x4, x5⟩ := x
      simp only at m0 m1 m2 m3 m4 m5 n0 n1 n2 n3 n4 n5
      go_wp2
      go_quiet (fail)
      go_wp2
      go_roundw
      case rel => exact ⟨i + 1, by simp, by omega, moreN HW.out _⟩
      case measure => simp [intOf]; omega
    · have hil' : ¬ (i : Int) < (l.length : Int) := by omega
      go_wp2
      go_ret
      exact ⟨rfl, belN HW.out⟩
end Go.Proofs.YtpbfdaijnndilaaGreatDoor.x10

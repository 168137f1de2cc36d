/-
  The document's Same, of a process and itself.
-/
import Derived.Test.YtlmdoiagjepmbaaGreatDoorM11Mem
import Derived.Laws.StructEq
import Derived.BigQuiet
namespace Go.Proofs.YtlmdoiagjepmbaaGreatDoor.m11
open Go.Proofs.YtlmdoiagjepmbaaGreatDoor.x10
open Go.RowKit Go.Shelf Go.Sort
open Go.Lib hiding intOf

set_option maxHeartbeats 2000000 in
set_option maxRecDepth 100000 in
theorem Same_eq {w : World} {n1 f1 n2 f2 : Value} {P : Pc} (h1 : Po w n1 f1 P) (h2 : Po w n2 f2 P) (hn : P.nodes.length ≤ 4398046511104) (hf : P.flows.length ≤ 4398046511104) :
    Calls Tryz.prog 12 #[pV P.id n1 f1, pV P.id n2 f2] w fun e w' => e = .returned (.bool true) ∧ Below w.heap.size w w' := by
  obtain ⟨W2, hW2⟩ : ∃ W2, (w.alloc (.cells #[.string (S P.id), n1, f1] 25)).alloc (.cells #[.string (S P.id), n2, f2] 25) = W2 := ⟨_, rfl⟩
  have hBa : Below (w.heap.size + 1) (w.alloc (.cells #[.string (S P.id), n1, f1] 25)) W2 := by rw [← hW2]; exact (Below.refl _ _).alloc (by simp) _
  have hB2 : Below w.heap.size w W2 := ((Below.refl _ w).alloc (Nat.le_refl _) _).trans (hBa.mono (Nat.le_succ _))
  have p1 : Pb W2 w.heap.size n1 f1 P := (Pb.new h1).up (by rw [World.size_alloc]; exact hBa)
  have p2 : Pb W2 (w.heap.size + 1) n2 f2 P := by
    rw [← hW2]
    have := Pb.new (h2.up ((Below.refl _ w).alloc (Nat.le_refl _) (.cells #[.string (S P.id), n1, f1] 25)))
    rw [World.size_alloc] at this
    exact this
  have HW : Hid (_ = W2) := hW2
  have HP : Hid (Pb W2 w.heap.size n1 f1 P ∧ Pb W2 (w.heap.size + 1) n2 f2 P ∧ Below w.heap.size w W2) := ⟨p1, p2, hB2⟩
  obtain ⟨a1, a2, a3, -, -⟩ := p1
  obtain ⟨b1, b2, b3, -, -⟩ := p2
  have hss : (S P.id).toList == (S P.id).toList := by simp
  obtain ⟨na, nc, rfl, -⟩ := h1.ns
  obtain ⟨fa, fc, rfl, -⟩ := h1.fs
  obtain ⟨ma, mc, rfl, -⟩ := h2.ns
  obtain ⟨ga, gc, rfl, -⟩ := h2.fs
  unfold pV
  clear hW2 hBa hB2 h1 h2
  go_enter Tryz.func12, Tryz.ntmps12
  go_wp2
  rw [HW.out]
  go_loopw [5] (fun v5 wr => ∃ i : Nat, v5 = .int .i64 (i : Int) ∧ i ≤ P.nodes.length ∧ Hid (Below W2.heap.size W2 wr)) (fun v5 _ => P.nodes.length - (intOf v5).toNat)
  case atStart => exact ⟨0, rfl, Nat.zero_le _, Below.refl _ _⟩
  case round =>
    obtain ⟨i, rfl, hi, HB⟩ := hrel
    obtain ⟨c1, c2, c3, -, c5⟩ := HP.out.1.up HB.out
    obtain ⟨d1, d2, d3, -, d5⟩ := HP.out.2.1.up HB.out
    by_cases hil : i < P.nodes.length
    · have hil' : (i : Int) < (P.nodes.length : Int) := by omega
      have hi0 : (0 : Int) ≤ (i : Int) := by omega
      obtain ⟨x1, x2, x3, e1, -, -, hc1⟩ := c5.ns.at hil
      cases e1
      obtain ⟨y1, y2, y3, e2, -, -, hc2⟩ := d5.ns.at hil
      cases e2
      obtain ⟨m0, m1, m2, m3, m4, m5, m6⟩ := hc1 _ (Below.refl _ _) i hil
      obtain ⟨k0, k1, k2, k3, k4, k5, k6⟩ := hc2 _ (Below.refl _ _) i hil
      clear hc1 hc2 c5 d5
      generalize P.nodes[i] = x at *
      obtain ⟨z0, z1, z2, z3, z4, z5, z6⟩ := x
      simp only at m0 m1 m2 m3 m4 m5 m6 k0 k1 k2 k3 k4 k5 k6
      go_wp2
      go_quiet (fail)
      go_wp2
      go_roundw
      case rel => exact ⟨i + 1, by simp, by omega, below_drewN HB.out _⟩
      case measure => simp [intOf]; omega
    · have hil' : ¬ (i : Int) < (P.nodes.length : Int) := by omega
      have HB1 : Hid (Below W2.heap.size W2 wr) := HB.out
      clear HB c5 d5
      go_wp2
      go_loopw [6] (fun v6 wr => ∃ i : Nat, v6 = .int .i64 (i : Int) ∧ i ≤ P.flows.length ∧ Hid (Below W2.heap.size W2 wr)) (fun v6 _ => P.flows.length - (intOf v6).toNat)
      case atStart => exact ⟨0, rfl, Nat.zero_le _, HB1.out⟩
      case round =>
        obtain ⟨j, rfl, hj, HB⟩ := hrel
        clear c1 c2 c3 d1 d2 d3
        obtain ⟨c1, c2, c3, -, c5⟩ := HP.out.1.up HB.out
        obtain ⟨d1, d2, d3, -, d5⟩ := HP.out.2.1.up HB.out
        by_cases hjl : j < P.flows.length
        · have hjl' : (j : Int) < (P.flows.length : Int) := by omega
          have hj0 : (0 : Int) ≤ (j : Int) := by omega
          obtain ⟨x1, x2, x3, e1, -, -, hc1⟩ := c5.fs.at hjl
          cases e1
          obtain ⟨y1, y2, y3, e2, -, -, hc2⟩ := d5.fs.at hjl
          cases e2
          obtain ⟨m0, m1, m2⟩ := hc1 _ (Below.refl _ _) j hjl
          obtain ⟨k0, k1, k2⟩ := hc2 _ (Below.refl _ _) j hjl
          clear hc1 hc2 c5 d5
          generalize P.flows[j] = x at *
          obtain ⟨z0, z1, z2⟩ := x
          simp only at m0 m1 m2 k0 k1 k2
          go_wp2
          go_quiet (fail)
          go_wp2
          go_roundw
          case rel => exact ⟨j + 1, by simp, by omega, below_drewN HB.out _⟩
          case measure => simp [intOf]; omega
        · have hjl' : ¬ (j : Int) < (P.flows.length : Int) := by omega
          clear c5 d5
          have B9 : Hid (Below w.heap.size w wr) := bel_of HP.out.2.2 HB.out (Nat.le_refl _)
          clear HB
          go_wp2
          go_ret
          exact ⟨rfl, B9.out⟩
end Go.Proofs.YtlmdoiagjepmbaaGreatDoor.m11

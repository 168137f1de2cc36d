/-
  Package model: Outs, Ins, On, Start.
-/
import Derived.Test.YtlmdoiagjepmbaaGreatDoorM11Ru3
namespace Go.Proofs.YtlmdoiagjepmbaaGreatDoor.m11
open Go.Proofs.YtlmdoiagjepmbaaGreatDoor.x10
open Go.RowKit Go.Shelf Go.Sort
open Go.Lib hiding intOf

def ons (P : Pc) (i : Int) : List Int := plc (fun x => x.host == i) P.nodes

set_option maxHeartbeats 400000 in
theorem Outs_any {w : World} {nv fv : Value} {P : Pc} (hp : Po w nv fv P) (hz : Pz P) (i : Int) : Calls Tryz.prog 42 #[pV P.id nv fv, .int .i64 i] w fun e w' => ∃ a c, e = .returned (.slice a (ous P i).length c) ∧ Is w' (.slice a (ous P i).length c) (ous P i) ∧ Below w.heap.size w w' := by
  have hmf : ∀ (fn : Fn) (first cap : Array Value) (w : World), (Instr.makeFunc fn first cap).run Tryz.prog w = .ok (.func fn first cap) w := fun _ _ _ _ => rfl
  obtain ⟨W1, hW1⟩ : ∃ W1, (w.alloc (.cells #[.string (S P.id), nv, fv] 25)).alloc (.cells #[.int .i64 i] 3) = W1 := ⟨_, rfl⟩
  have hB1 : Below w.heap.size w W1 := by rw [← hW1]; exact ((Below.refl _ w).alloc (Nat.le_refl _) _).alloc (by simp) _
  have hc : W1.cell? ⟨w.heap.size + 1, 0, none⟩ = some (.int .i64 i) := by
    rw [← hW1]
    have := World.cell?_alloc_new (w.alloc (.cells #[.string (S P.id), nv, fv] 25)) #[.int .i64 i] 3 0
    rw [World.size_alloc] at this
    exact this
  have hlt : w.heap.size + 1 < W1.heap.size := by rw [← hW1]; simp
  have CC := placesFlow (kf := 83) (caps := #[.pointer (some ⟨w.heap.size + 1, 0, none⟩)]) (fun f => f.src == i) (hp.fs.up hB1) hz.fl (enters_of Tryz.func83 (by kernel_rfl) rfl) (fun x _ W hW => outs1_any x W ((hW.cell (p := ⟨w.heap.size + 1, 0, none⟩) hlt).trans hc) (Nat.lt_of_lt_of_le hlt hW.size))
  have HW : Hid (_ = W1) := hW1
  have HB : Hid (Below w.heap.size w W1) := hB1
  obtain ⟨na, nc, rfl, -⟩ := hp.ns
  obtain ⟨fa, fc, rfl, -⟩ := hp.fs
  have HR : Hid (plc (fun f => f.src == i) P.flows = ous P i) := by show _ = _; rfl
  rw [HR.out] at CC
  unfold pV
  clear hW1 hB1 hc hp hz hlt HR
  generalize ous P i = r at *
  go_enter Tryz.func42, Tryz.ntmps42
  go_wp2_with (go_at_call 82; rw [HW.out]; refine CC.mono ?_; rintro e w1 ⟨ra, rc, rfl, hr, hb1⟩; (have B2 : Hid (Is w1 (.slice ra r.length rc) r ∧ Below w.heap.size w w1) := ⟨hr, bel_of HB.out hb1 (Nat.le_refl _)⟩); clear hb1 hr CC)
  go_ret
  exact ⟨_, _, rfl, B2.out⟩

set_option maxHeartbeats 400000 in
theorem Ins_any {w : World} {nv fv : Value} {P : Pc} (hp : Po w nv fv P) (hz : Pz P) (i : Int) : Calls Tryz.prog 80 #[pV P.id nv fv, .int .i64 i] w fun e w' => ∃ a c, e = .returned (.slice a (ins P i).length c) ∧ Is w' (.slice a (ins P i).length c) (ins P i) ∧ Below w.heap.size w w' := by
  have hmf : ∀ (fn : Fn) (first cap : Array Value) (w : World), (Instr.makeFunc fn first cap).run Tryz.prog w = .ok (.func fn first cap) w := fun _ _ _ _ => rfl
  obtain ⟨W1, hW1⟩ : ∃ W1, (w.alloc (.cells #[.string (S P.id), nv, fv] 25)).alloc (.cells #[.int .i64 i] 3) = W1 := ⟨_, rfl⟩
  have hB1 : Below w.heap.size w W1 := by rw [← hW1]; exact ((Below.refl _ w).alloc (Nat.le_refl _) _).alloc (by simp) _
  have hc : W1.cell? ⟨w.heap.size + 1, 0, none⟩ = some (.int .i64 i) := by
    rw [← hW1]
    have := World.cell?_alloc_new (w.alloc (.cells #[.string (S P.id), nv, fv] 25)) #[.int .i64 i] 3 0
    rw [World.size_alloc] at this
    exact this
  have hlt : w.heap.size + 1 < W1.heap.size := by rw [← hW1]; simp
  have CC := placesFlow (kf := 103) (caps := #[.pointer (some ⟨w.heap.size + 1, 0, none⟩)]) (fun f => f.dst == i) (hp.fs.up hB1) hz.fl (enters_of Tryz.func103 (by kernel_rfl) rfl) (fun x _ W hW => ins1_any x W ((hW.cell (p := ⟨w.heap.size + 1, 0, none⟩) hlt).trans hc) (Nat.lt_of_lt_of_le hlt hW.size))
  have HW : Hid (_ = W1) := hW1
  have HB : Hid (Below w.heap.size w W1) := hB1
  obtain ⟨na, nc, rfl, -⟩ := hp.ns
  obtain ⟨fa, fc, rfl, -⟩ := hp.fs
  have HR : Hid (plc (fun f => f.dst == i) P.flows = ins P i) := by show _ = _; rfl
  rw [HR.out] at CC
  unfold pV
  clear hW1 hB1 hc hp hz hlt HR
  generalize ins P i = r at *
  go_enter Tryz.func80, Tryz.ntmps80
  go_wp2_with (go_at_call 82; rw [HW.out]; refine CC.mono ?_; rintro e w1 ⟨ra, rc, rfl, hr, hb1⟩; (have B2 : Hid (Is w1 (.slice ra r.length rc) r ∧ Below w.heap.size w w1) := ⟨hr, bel_of HB.out hb1 (Nat.le_refl _)⟩); clear hb1 hr CC)
  go_ret
  exact ⟨_, _, rfl, B2.out⟩

end Go.Proofs.YtlmdoiagjepmbaaGreatDoor.m11

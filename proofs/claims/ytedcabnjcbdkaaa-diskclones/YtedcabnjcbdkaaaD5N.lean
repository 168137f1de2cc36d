/-
  Contract of wherryref01.Same at the names of two disks that have the same: it answers true.
-/
import Derived.Test.YtedcabnjcbdkaaaD5M
import Derived.Deep.QuietTactic
import Derived.BigQuiet
namespace Go.Proofs.Ytedcabnjcbdkaaa
open Go.RowKit Go.Shelf Go.Sort
open Go.Lib hiding intOf

theorem Below.drewN {B : Nat} {a w : World} (h : Below B a w) (n : Nat) : Below B a (w.drewN n) := by
  induction n generalizing w with
  | zero => exact h
  | succ n ih => exact (ih h).drew
theorem nmsAt (fs : List Fil) (k : Nat) (h : k < fs.length) : (nms fs)[k]? = some (.string fs[k].1) := by
  unfold nms
  rw [List.getElem?_map, List.getElem?_eq_getElem h]
  rfl
set_option maxRecDepth 100000 in
set_option maxHeartbeats 2000000 in
theorem Same_names {va vb : Value} {fs : List Fil} {w : World} {ba bb : Nat} (ha : w.ownsRow ba 9 1 va fs.length (nms fs)) (hb : w.ownsRow bb 9 1 vb fs.length (nms fs)) (hf : fs.length ≤ 256) :
    Calls Try.prog 15 #[va, vb] w fun r w' => r = .returned (.bool true) ∧ Below w.heap.size w w' := by
  obtain ⟨a, ca, rfl, -⟩ := row_slice ha
  obtain ⟨b, cb, rfl, -⟩ := row_slice hb
  have HR : Hid (w.ownsRow ba 9 1 (.slice a fs.length ca) fs.length (nms fs) ∧ w.ownsRow bb 9 1 (.slice b fs.length cb) fs.length (nms fs)) := ⟨ha, hb⟩
  clear ha hb
  have hne : (((fs.length : Nat) : Int) != (fs.length : Int)) = false := by simp
  go_enter Try.func15, Try.ntmps15
  go_wp2_with fail
  go_loopw [5] (fun vi wr => ∃ k : Nat, k ≤ fs.length ∧ vi = .int .i64 (k : Int) ∧ Below w.heap.size w wr)
    (fun vi _ => fs.length - (intOf vi).toNat)
  case atStart => exact ⟨0, Nat.zero_le _, rfl, Below.refl _ _⟩
  case round =>
    obtain ⟨k, hk, rfl, hbel⟩ := hrel
    by_cases hkl : k < fs.length
    · obtain ⟨ga, _, ea, _, la⟩ := HR.out.1.form (by omega)
      obtain ⟨gb, _, eb, _, lb⟩ := HR.out.2.form (by omega)
      cases ea
      cases eb
      have ka := (hbel.cell (p := ⟨ga, k, none⟩) la).trans (row_cell HR.out.1 (nmsAt fs k hkl))
      have kb := (hbel.cell (p := ⟨gb, k, none⟩) lb).trans (row_cell HR.out.2 (nmsAt fs k hkl))
      generalize fs[k].1 = s at ka kb
      go_wp2_with fail
      go_quiet (fail)
      go_wp2_with fail
      exact ⟨⟨k + 1, by omega, by go_num, Below.drewN hbel nq⟩, by simp [intOf]; omega⟩
    · go_wp2
      go_ret
      exact ⟨rfl, hbel⟩
end Go.Proofs.Ytedcabnjcbdkaaa

/-
  The document's disk (wherryref04): New, SetPower, Names.
-/
import Derived.Test.YtedcabnjcbdkaaaD4Sync
namespace Go.Proofs.Ytedcabnjcbdkaaa
open Go.RowKit Go.Shelf Go.Sort
open Go.Lib hiding intOf

set_option maxHeartbeats 1000000 in
theorem dnew_any (w : World) : Calls Try.prog 11 #[] w fun e w' => e = .returned (.pointer (some ⟨w.heap.size, 0, none⟩)) ∧ Dk w' w.heap.size w.heap.size [] (-1) false (.slice none 0 0) ∧ Below w.heap.size w w' := by
  go_enter Try.func11, Try.ntmps11
  go_wp2
  go_ret
  exact ⟨rfl, ⟨heap_alloc_new w _, World.ownsRow_nil _ _ _ _⟩, (Below.refl _ w).alloc (Nat.le_refl _) _⟩

/-- power for so many acts more; below 0: for any number -/
def powSet (a : Int) : Int := if a < 0 then -1 else a
set_option maxHeartbeats 2000000 in
theorem dpower_any {w : World} {db base : Nat} {fs : List Fil} {p : Int} {off : Bool} {sv : Value} (h : Dk w db base fs p off sv) (a : Int) :
    Calls Try.prog 32 #[.pointer (some ⟨db, 0, none⟩), .int .i64 a] w fun e w' => (∃ v, e = .returned v) ∧ Dk w' db base fs (powSet a) off sv ∧ Ch (fun k => k = db) w w' := by
  have c1 := h.c1
  have f1 := h.fro 1
  have D1 := h.set1 a
  have e1 := D1.c1
  have g1 := D1.fro 1
  have H : Hid _ := And.intro h D1
  clear h D1
  by_cases ha : a < 0
  · have hs : powSet a = -1 := if_pos ha
    go_enter Try.func32, Try.ntmps32
    go_wp2
    go_end0
    refine ⟨⟨_, rfl⟩, ?_, ((Ch.refl (fun k => k = db) w).setCell ⟨db, 1, none⟩ _ (fun _ => rfl)).setCell ⟨db, 1, none⟩ _ (fun _ => rfl)⟩
    first | rw [hs] | skip
    exact H.out.2.set1 (-1)
  · have hs : powSet a = a := if_neg ha
    go_enter Try.func32, Try.ntmps32
    go_wp2
    go_end0
    refine ⟨⟨_, rfl⟩, ?_, (Ch.refl (fun k => k = db) w).setCell ⟨db, 1, none⟩ _ (fun _ => rfl)⟩
    first | rw [hs] | skip
    exact H.out.2
end Go.Proofs.Ytedcabnjcbdkaaa

/-
  The document's own Open.
-/
import Derived.Test.YtiaeicfmdnmeeaaH7OpenP
import Derived.BigQuiet
namespace Go.Proofs.Ytiaeicfmdnmeeaa
open Go.RowKit Go.Shelf Go.Sort
open Go.Lib hiding intOf
attribute [local go_sem] Oper.semAt_some

/-- what the document's Open comes to -/
def ROp (w : World) (b : List UInt8) (e : Ending) (w' : World) : Prop :=
  (∃ bs v, b.length ≤ 1048576 ∧ Rn b bs ∧ e = .returned (.tuple #[v, .int .i64 (bs.length : Int), .int .i64 0]) ∧ w'.ownsRow w.heap.size 41 3 v bs.flatten.length (hcs bs.flatten)) ∨
  ((¬ (b.length ≤ 1048576 ∧ ∃ bs, Rn b bs)) ∧ e = .returned (.tuple #[.slice none 0 0, .int .i64 0, .int .i64 3]))

set_option maxHeartbeats 4000000 in
set_option maxRecDepth 100000 in
theorem refOpen_short (b : List UInt8) (hl : b.length ≤ 4611686018427387904) (h : b.length < 4 ∨ 1048576 < b.length) (w : World) :
    Calls Try.prog 9 #[.string (S b)] w fun e w' => Below w.heap.size w w' ∧ ROp w b e w' := by
  have hs := S_size b
  have HN : Hid (¬ (b.length ≤ 1048576 ∧ ∃ bs, Rn b bs)) := by
    rintro ⟨h1, bs, h2⟩
    have := (tail_rn h2 h1).1
    omega
  have hor : b.length < 4 ∨ (¬ b.length < 4 ∧ 1048576 < b.length) := by omega
  rcases hor with h1 | ⟨h1, h2⟩
  · have h1' : (b.length : Int) < 4 := by omega
    go_enter Try.func9, Try.ntmps9
    go_wp2
    exact bodyPost_ret (v := .tuple #[.slice none 0 0, .int .i64 0, .int .i64 3]) (by simp [results, Try.results9, go_sem]) rfl ⟨Below.refl _ _, .inr ⟨HN.out, rfl⟩⟩
  · have h1' : ¬ (b.length : Int) < 4 := by omega
    have h2' : (1048576 : Int) < (b.length : Int) := by omega
    have h2d : decide ((1048576 : Int) < (b.length : Int)) = true := decide_eq_true h2'
    go_enter Try.func9, Try.ntmps9
    go_wp2
    exact bodyPost_ret (v := .tuple #[.slice none 0 0, .int .i64 0, .int .i64 3]) (by simp [results, Try.results9, go_sem]) rfl ⟨Below.refl _ _, .inr ⟨HN.out, rfl⟩⟩
end Go.Proofs.Ytiaeicfmdnmeeaa

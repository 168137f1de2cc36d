/-
  The head of all statements of layer 5, shown: the document's examples come out true, and nothing that was there before the call is changed.
-/
import Derived.Test.YtbnfmaooailfeaaF5Take
import Derived.Test.YtbnfmaooailfeaaF5Back
namespace Go.Proofs.Ytbnfmaooailfeaa
open Go.RowKit

theorem ex_sum : sumOf [49, 50, 51, 52, 53, 54, 55, 56, 57] = 3421780262 := by decide +kernel
theorem shSum (w : World) : Calls Try.prog 12 #[.string ⟨#[49, 50, 51, 52, 53, 54, 55, 56, 57]⟩] w fun e w' => e = .returned (.int .u32 3421780262) ∧ Below w.heap.size w w' := by
  have h := Sum_any [49, 50, 51, 52, 53, 54, 55, 56, 57] (by simp) w
  rw [ex_sum] at h
  exact h
theorem shPut (w : World) : Calls Try.prog 10 #[.int .u8 1, .string ⟨#[]⟩] w fun e w' => e = .returned (.tuple #[.string (S (frm 1 [])), .int .i64 0]) ∧ Below w.heap.size w w' := Put_any 1 [] (by simp) w
theorem shFrm : (S (frm 1 [])).size = 6 := by
  rw [S_size, frm_length]
  unfold txt
  rw [Lib.uvarint_small (by simp)]
  rfl
theorem shTake (w : World) : Calls Try.prog 14 #[.string (S (frm 1 []))] w fun e w' => e = .returned (.tuple #[.int .u8 1, .string ⟨#[]⟩, .int .i64 6, .int .i64 0]) ∧ Below w.heap.size w w' := by
  have hl : (frm 1 []).length = 6 := by have := shFrm; rwa [S_size] at this
  have h := Take_any (frm 1 []) (by omega) w
  rw [tak_none 1 [] (by simp), hl] at h
  exact h
theorem shNone (w : World) : Calls Try.prog 14 #[.string ⟨#[]⟩] w fun e w' => e = .returned (.tuple #[.int .u8 0, .string ⟨#[]⟩, .int .i64 0, .int .i64 2]) ∧ Below w.heap.size w w' := by
  have h := Take_any [] (by simp) w
  exact h

set_option maxHeartbeats 4000000 in
set_option maxRecDepth 100000 in
theorem shown_any (w : World) : Calls Try.prog 9 #[] w fun e w' => e = .returned (.bool true) ∧ Below w.heap.size w w' := by
  have h6 := shFrm
  go_enter Try.func9, Try.ntmps9
  go_wp2_with (first
    | (go_at_call 12; refine (shSum _).mono ?_; rintro e w1 ⟨rfl, h1⟩)
    | (go_at_call 10; refine (shPut _).mono ?_; rintro e w2 ⟨rfl, h2⟩)
    | (go_at_call_of 14 (Value.string (S (frm 1 []))); refine (shTake _).mono ?_; rintro e w3 ⟨rfl, h3⟩)
    | (go_at_call 14; refine (shNone _).mono ?_; rintro e w4 ⟨rfl, h4⟩))
  go_ret
  exact ⟨rfl, bel_of (bel_of (bel_of (bel_of (Below.refl _ _) h1 (Nat.le_refl _)) h2 (Nat.le_refl _)) h3 (Nat.le_refl _)) h4 (Nat.le_refl _)⟩
end Go.Proofs.Ytbnfmaooailfeaa

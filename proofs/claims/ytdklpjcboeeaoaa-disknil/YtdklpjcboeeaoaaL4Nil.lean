/-
  Package disk: a disk that is nil.
-/
import Derived.Test.YtdklpjcboeeaoaaL4Shown
namespace Go.Proofs.Ytdklpjcboeeaoaa
open Go.RowKit Go.Shelf Go.Sort
open Go.Lib hiding intOf

set_option maxHeartbeats 1000000 in
theorem Append_nil (k s : ByteArray) (w : World) : Calls Try.prog 19 #[.pointer none, .string k, .string s] w fun e w' => e = .returned (.int .i64 1) ∧ w' = w := by
  go_enter Try.func19, Try.ntmps19
  go_wp2
  go_ret
  exact ⟨rfl, rfl⟩
set_option maxHeartbeats 1000000 in
theorem Sync_nil (k : ByteArray) (w : World) : Calls Try.prog 20 #[.pointer none, .string k] w fun e w' => e = .returned (.int .i64 1) ∧ w' = w := by
  have hF := find_nil k w
  go_enter Try.func20, Try.ntmps20
  go_wp2_with (go_at_call 38; refine hF.mono ?_; rintro e w1 ⟨rfl, rfl⟩)
  go_ret
  exact ⟨rfl, rfl⟩
set_option maxHeartbeats 1000000 in
theorem Cut_nil (k : ByteArray) (n : Int) (w : World) : Calls Try.prog 24 #[.pointer none, .string k, .int .i64 n] w fun e w' => e = .returned (.int .i64 1) ∧ w' = w := by
  have hF := find_nil k w
  go_enter Try.func24, Try.ntmps24
  go_wp2_with (go_at_call 38; refine hF.mono ?_; rintro e w1 ⟨rfl, rfl⟩)
  go_ret
  exact ⟨rfl, rfl⟩
set_option maxHeartbeats 1000000 in
theorem Delete_nil (k : ByteArray) (w : World) : Calls Try.prog 25 #[.pointer none, .string k] w fun e w' => e = .returned (.int .i64 1) ∧ w' = w := by
  have hF := find_nil k w
  go_enter Try.func25, Try.ntmps25
  go_wp2_with (go_at_call 38; refine hF.mono ?_; rintro e w1 ⟨rfl, rfl⟩)
  go_ret
  exact ⟨rfl, rfl⟩
set_option maxHeartbeats 1000000 in
theorem Read_nil (k : ByteArray) (w : World) : Calls Try.prog 22 #[.pointer none, .string k] w fun e w' => e = .returned (.tuple #[.string ⟨#[]⟩, .int .i64 1]) ∧ w' = w := by
  have hF := find_nil k w
  go_enter Try.func22, Try.ntmps22
  go_wp2_with (go_at_call 38; refine hF.mono ?_; rintro e w1 ⟨rfl, rfl⟩)
  go_ret2
  exact ⟨rfl, rfl⟩
set_option maxHeartbeats 1000000 in
theorem Clone_nil (w : World) : Calls Try.prog 12 #[.pointer none] w fun e w' => e = .returned (.pointer none) ∧ w' = w := by
  go_enter Try.func12, Try.ntmps12
  go_wp2
  go_ret
  exact ⟨rfl, rfl⟩
end Go.Proofs.Ytdklpjcboeeaoaa

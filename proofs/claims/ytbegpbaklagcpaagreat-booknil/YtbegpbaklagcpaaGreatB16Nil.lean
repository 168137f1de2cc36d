/-
  Package book's calls of a work that is nil.
-/
import Derived.Test.YtbegpbaklagcpaaGreatB16Fre
namespace Go.Proofs.YtbegpbaklagcpaaGreat.f13
open Go.RowKit Go.Shelf Go.Sort
open Go.Lib hiding intOf

set_option maxHeartbeats 2000000 in
set_option maxRecDepth 100000 in
theorem act_nil (a b : ByteArray) (m n : Int) (w : World) : Calls Tryz.prog 13 #[.pointer none, .string a, .string b, .int .i64 m, .int .i64 n] w fun e w' => e = .returned (.tuple #[.slice none 0 0, .int .i64 1]) ∧ Below w.heap.size w w' := by
  have c5 : (((w.alloc (.cells #[.pointer none] 38)).alloc (.cells #[.string b] 9)).alloc (.cells #[.int .i64 m] 2)).cell? ⟨w.heap.size, 0, none⟩ = some (.pointer none) := by go_simp
  obtain ⟨W3, hW3⟩ : ∃ W3, ((w.alloc (.cells #[.pointer none] 38)).alloc (.cells #[.string b] 9)).alloc (.cells #[.int .i64 m] 2) = W3 := ⟨_, rfl⟩
  have hb3 : Below w.heap.size w W3 := by rw [← hW3]; exact (((Below.refl _ w).alloc (Nat.le_refl _) _).alloc (by simp) _).alloc (by simp; omega) _
  rw [hW3] at c5
  have HB : Hid (Below w.heap.size w W3) := hb3
  clear hb3
  go_enter Tryz.func13, Tryz.ntmps13
  go_wp2
  refine bodyPost_ret (results_tmp2 rfl _ _ _) rfl ?_
  first
  | exact ⟨rfl, HB.out⟩
  | (rw [hW3]; exact ⟨rfl, HB.out⟩)
set_option maxHeartbeats 2000000 in
theorem fail_nil (key : Nat) (n : Int) (w : World) : Calls Tryz.prog 16 #[.pointer none, .int .u64 (key : Int), .int .i64 n] w fun e w' => e = .returned (.int .i64 1) ∧ Below w.heap.size w w' := by
  go_enter Tryz.func16, Tryz.ntmps16
  go_wp2
  go_ret
  exact ⟨rfl, Below.refl _ _⟩
set_option maxHeartbeats 2000000 in
theorem late_nil (key : Nat) (w : World) : Calls Tryz.prog 18 #[.pointer none, .int .u64 (key : Int)] w fun e w' => e = .returned (.int .i64 1) ∧ Below w.heap.size w w' := by
  go_enter Tryz.func18, Tryz.ntmps18
  go_wp2
  go_ret
  exact ⟨rfl, Below.refl _ _⟩
end Go.Proofs.YtbegpbaklagcpaaGreat.f13

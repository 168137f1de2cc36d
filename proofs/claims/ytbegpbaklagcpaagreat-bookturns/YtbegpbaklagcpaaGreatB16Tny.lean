/-
  BookTurns where nothing is asked; and for every number, every slice and every time.
-/
import Derived.Test.YtbegpbaklagcpaaGreatB16Tnx
namespace Go.Proofs.YtbegpbaklagcpaaGreat.f13
open Go.RowKit Go.Shelf Go.Sort
open Go.Lib hiding intOf
open Go.Proofs.YtbegpbaklagcpaaGreat
set_option maxHeartbeats 2000000 in
set_option maxRecDepth 100000 in
theorem turns_out1 {w : World} {r wt : Int} (v : Value) (h1 : r < 1) :
    Calls Tryz.prog 7 #[.int .i64 r, v, .int .i64 wt] w fun e w' => e = .returned (.bool true) ∧ Below w.heap.size w w' := by
  go_enter Tryz.func7, Tryz.ntmps7
  go_wp2_with (go_at_call 9; refine (shown_any w).mono ?_; rintro e w1 ⟨rfl, hb1⟩; (have B1 : Hid (Below w.heap.size w w1) := hb1); clear hb1)
  go_ret
  exact ⟨rfl, B1.out⟩
set_option maxHeartbeats 2000000 in
set_option maxRecDepth 100000 in
theorem turns_out2 {w : World} {r wt : Int} (v : Value) (h1 : ¬ r < 1) (h2 : 9 < r) :
    Calls Tryz.prog 7 #[.int .i64 r, v, .int .i64 wt] w fun e w' => e = .returned (.bool true) ∧ Below w.heap.size w w' := by
  go_enter Tryz.func7, Tryz.ntmps7
  go_wp2_with (go_at_call 9; refine (shown_any w).mono ?_; rintro e w1 ⟨rfl, hb1⟩; (have B1 : Hid (Below w.heap.size w w1) := hb1); clear hb1)
  go_ret
  exact ⟨rfl, B1.out⟩
set_option maxHeartbeats 2000000 in
set_option maxRecDepth 100000 in
theorem turns_out3 {w : World} {r wt : Int} (v : Value) (h1 : ¬ r < 1) (h2 : ¬ 9 < r) (h3 : wt < 1) :
    Calls Tryz.prog 7 #[.int .i64 r, v, .int .i64 wt] w fun e w' => e = .returned (.bool true) ∧ Below w.heap.size w w' := by
  go_enter Tryz.func7, Tryz.ntmps7
  go_wp2_with (go_at_call 9; refine (shown_any w).mono ?_; rintro e w1 ⟨rfl, hb1⟩; (have B1 : Hid (Below w.heap.size w w1) := hb1); clear hb1)
  go_ret
  exact ⟨rfl, B1.out⟩
set_option maxHeartbeats 2000000 in
set_option maxRecDepth 100000 in
theorem turns_out4 {w : World} {r wt : Int} (v : Value) (h1 : ¬ r < 1) (h2 : ¬ 9 < r) (h3 : ¬ wt < 1) (h4 : 1000000 < wt) :
    Calls Tryz.prog 7 #[.int .i64 r, v, .int .i64 wt] w fun e w' => e = .returned (.bool true) ∧ Below w.heap.size w w' := by
  go_enter Tryz.func7, Tryz.ntmps7
  go_wp2_with (go_at_call 9; refine (shown_any w).mono ?_; rintro e w1 ⟨rfl, hb1⟩; (have B1 : Hid (Below w.heap.size w w1) := hb1); clear hb1)
  go_ret
  exact ⟨rfl, B1.out⟩
theorem turns_any {w : World} {r wt : Int} {v : Value} {ls : List Bo} (hv : Rr 1 Bo.c w v ls) :
    Calls Tryz.prog 7 #[.int .i64 r, v, .int .i64 wt] w fun e w' => e = .returned (.bool true) ∧ Below w.heap.size w w' := by
  by_cases h1 : r < 1
  · exact turns_out1 v h1
  by_cases h2 : 9 < r
  · exact turns_out2 v h1 h2
  by_cases h3 : wt < 1
  · exact turns_out3 v h1 h2 h3
  by_cases h4 : 1000000 < wt
  · exact turns_out4 v h1 h2 h3 h4
  exact turns_main hv (by omega) (by omega) (by omega) (by omega)
end Go.Proofs.YtbegpbaklagcpaaGreat.f13

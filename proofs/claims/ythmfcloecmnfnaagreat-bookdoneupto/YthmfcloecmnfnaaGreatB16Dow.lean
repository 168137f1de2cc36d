/-
  BookDone, walked.
-/
import Derived.Test.YthmfcloecmnfnaaGreatB16Dnp
import Derived.Test.YthmfcloecmnfnaaGreatB16Shn
namespace Go.Proofs.YthmfcloecmnfnaaGreat.f13
open Go.RowKit Go.Shelf Go.Sort
open Go.Lib hiding intOf

set_option maxHeartbeats 8000000 in
set_option maxRecDepth 100000 in
theorem done_main {w : World} {s : St} (hs : Sv w s) (now more : Int) (ht : s.timers.length ≤ 1048576) (hj : s.jobs.length ≤ 1048576) (hm : s.msgs.length ≤ 1048576) :
    Calls Tryz.prog 5 #[.agg s.c.toArray, .int .i64 now, .int .i64 more] w fun e w' => e = .returned (.bool true) ∧ Below w.heap.size w w' := by
  have HS : Hid (Sv w s) := hs
  have HD : Hid (∀ W, Below w.heap.size w W → ∀ nw : Int, Calls Tryz.prog 7 #[.agg s.c.toArray, .int .i64 nw] W fun e w' => ∃ v, e = .returned v ∧ w'.ownsRow W.heap.size 63 13 v (dueL s nw).length ((dueL s nw).flatMap Rc.cs) ∧ Below W.heap.size W w') := fun W hW nw => Due_any (hs.up hW) nw ht hj hm
  obtain ⟨A, hA⟩ : ∃ A, dueL s now = A := ⟨_, rfl⟩
  obtain ⟨B, hB⟩ : ∃ B, dueL s (now + more) = B := ⟨_, rfl⟩
  have HN : Hid (s.timers.length ≤ 1048576 ∧ s.jobs.length ≤ 1048576 ∧ s.msgs.length ≤ 1048576 ∧ A.length ≤ 3145728 ∧ B.length ≤ s.timers.length + s.jobs.length + s.msgs.length) := ⟨ht, hj, hm, by rw [← hA]; have := due_len s now; omega, by rw [← hB]; exact due_len s _⟩
  have HG0 : Hid (0 ≤ more → Gr A B 0 0) := fun h => Gr.start (by rw [← hA, ← hB]; exact due_sub (by omega))
  have CA := fun W hW => HD.out W hW now
  have CB := fun W hW => HD.out W hW (now + more)
  rw [hA] at CA
  rw [hB] at CB
  clear HD hA hB ht hj hm
  have hsl := Sv.slices hs
  clear hs
  obtain ⟨⟨saDe, snDe, scDe, shDe⟩, ⟨saIn, snIn, scIn, shIn⟩, ⟨saTk, snTk, scTk, shTk⟩, ⟨saJb, snJb, scJb, shJb⟩, ⟨saTm, snTm, scTm, shTm⟩, ⟨saSb, snSb, scSb, shSb⟩, ⟨saKp, snKp, scKp, shKp⟩, ⟨saLs, snLs, scLs, shLs⟩, ⟨saMs, snMs, scMs, shMs⟩⟩ := hsl
  obtain ⟨spos, sdone, smade, svDe, slDe, svIn, slIn, svTk, slTk, svJb, slJb, svTm, slTm, svSb, slSb, svKp, slKp, svLs, slLs, svMs, slMs⟩ := s
  simp only at shDe shIn shTk shJb shTm shSb shKp shLs shMs
  subst shDe shIn shTk shJb shTm shSb shKp shLs shMs
  have eT : snTm = slTm.length := by
    obtain ⟨_, _, hv, -⟩ := id HS.out.rTm
    injection hv
  have eJ : snJb = slJb.length := by
    obtain ⟨_, _, hv, -⟩ := id HS.out.rJb
    injection hv
  have eM : snMs = slMs.length := by
    obtain ⟨_, _, hv, -⟩ := id HS.out.rMs
    injection hv
  subst eT eJ eM
  simp only [St.c] at CA CB ⊢
  have HCA : Hid _ := CA
  have HCB : Hid _ := CB
  clear CA CB HS
  by_cases g1 : more < 0
  · clear HCA HCB
    go_enter Tryz.func5, Tryz.ntmps5
    go_wp2_with (go_at_call 6; refine (shown_any _).mono ?_; rintro e w1 ⟨rfl, hb1⟩; (have hob1 : w1.heap[w.heap.size]? = some (.cells #[.int .u64 (spos : Int), .int .u64 (sdone : Int), .int .u64 (smade : Int), .slice saDe snDe scDe, .slice saIn snIn scIn, .slice saTk snTk scTk, .slice saJb slJb.length scJb, .slice saTm slTm.length scTm, .slice saSb snSb scSb, .slice saKp snKp scKp, .slice saLs snLs scLs, .slice saMs slMs.length scMs] 33 (0, 0)) := (hb1.block _ (by simp)).trans (heap_alloc_new w _)); (have HB1 : Hid (Below w.heap.size w w1 ∧ w.heap.size < w1.heap.size ∧ w1.heap[w.heap.size]? = some (.cells #[.int .u64 (spos : Int), .int .u64 (sdone : Int), .int .u64 (smade : Int), .slice saDe snDe scDe, .slice saIn snIn scIn, .slice saTk snTk scTk, .slice saJb slJb.length scJb, .slice saTm slTm.length scTm, .slice saSb snSb scSb, .slice saKp snKp scKp, .slice saLs snLs scLs, .slice saMs slMs.length scMs] 33 (0, 0))) := ⟨((Below.refl _ w).alloc (Nat.le_refl _) _).trans (hb1.mono (by simp)), by have := hb1.size; rw [World.size_alloc] at this; omega, hob1⟩); (have x0 : w1.cell? ⟨w.heap.size, 0, none⟩ = some (.int .u64 (spos : Int)) := by simp [World.cell?, hob1]); (have x1 : w1.cell? ⟨w.heap.size, 1, none⟩ = some (.int .u64 (sdone : Int)) := by simp [World.cell?, hob1]); (have x2 : w1.cell? ⟨w.heap.size, 2, none⟩ = some (.int .u64 (smade : Int)) := by simp [World.cell?, hob1]); (have x3 : w1.cell? ⟨w.heap.size, 3, none⟩ = some (.slice saDe snDe scDe) := by simp [World.cell?, hob1]); (have x4 : w1.cell? ⟨w.heap.size, 4, none⟩ = some (.slice saIn snIn scIn) := by simp [World.cell?, hob1]); (have x5 : w1.cell? ⟨w.heap.size, 5, none⟩ = some (.slice saTk snTk scTk) := by simp [World.cell?, hob1]); (have x6 : w1.cell? ⟨w.heap.size, 6, none⟩ = some (.slice saJb slJb.length scJb) := by simp [World.cell?, hob1]); (have x7 : w1.cell? ⟨w.heap.size, 7, none⟩ = some (.slice saTm slTm.length scTm) := by simp [World.cell?, hob1]); (have x8 : w1.cell? ⟨w.heap.size, 8, none⟩ = some (.slice saSb snSb scSb) := by simp [World.cell?, hob1]); (have x9 : w1.cell? ⟨w.heap.size, 9, none⟩ = some (.slice saKp snKp scKp) := by simp [World.cell?, hob1]); (have x10 : w1.cell? ⟨w.heap.size, 10, none⟩ = some (.slice saLs snLs scLs) := by simp [World.cell?, hob1]); (have x11 : w1.cell? ⟨w.heap.size, 11, none⟩ = some (.slice saMs slMs.length scMs) := by simp [World.cell?, hob1]); clear hb1 hob1)
    go_wp2_with fail
    go_ret
    exact ⟨rfl, HB1.out.1⟩
  by_cases g2 : 1000000 < more
  · clear HCA HCB
    go_enter Tryz.func5, Tryz.ntmps5
    go_wp2_with (go_at_call 6; refine (shown_any _).mono ?_; rintro e w1 ⟨rfl, hb1⟩; (have hob1 : w1.heap[w.heap.size]? = some (.cells #[.int .u64 (spos : Int), .int .u64 (sdone : Int), .int .u64 (smade : Int), .slice saDe snDe scDe, .slice saIn snIn scIn, .slice saTk snTk scTk, .slice saJb slJb.length scJb, .slice saTm slTm.length scTm, .slice saSb snSb scSb, .slice saKp snKp scKp, .slice saLs snLs scLs, .slice saMs slMs.length scMs] 33 (0, 0)) := (hb1.block _ (by simp)).trans (heap_alloc_new w _)); (have HB1 : Hid (Below w.heap.size w w1 ∧ w.heap.size < w1.heap.size ∧ w1.heap[w.heap.size]? = some (.cells #[.int .u64 (spos : Int), .int .u64 (sdone : Int), .int .u64 (smade : Int), .slice saDe snDe scDe, .slice saIn snIn scIn, .slice saTk snTk scTk, .slice saJb slJb.length scJb, .slice saTm slTm.length scTm, .slice saSb snSb scSb, .slice saKp snKp scKp, .slice saLs snLs scLs, .slice saMs slMs.length scMs] 33 (0, 0))) := ⟨((Below.refl _ w).alloc (Nat.le_refl _) _).trans (hb1.mono (by simp)), by have := hb1.size; rw [World.size_alloc] at this; omega, hob1⟩); (have x0 : w1.cell? ⟨w.heap.size, 0, none⟩ = some (.int .u64 (spos : Int)) := by simp [World.cell?, hob1]); (have x1 : w1.cell? ⟨w.heap.size, 1, none⟩ = some (.int .u64 (sdone : Int)) := by simp [World.cell?, hob1]); (have x2 : w1.cell? ⟨w.heap.size, 2, none⟩ = some (.int .u64 (smade : Int)) := by simp [World.cell?, hob1]); (have x3 : w1.cell? ⟨w.heap.size, 3, none⟩ = some (.slice saDe snDe scDe) := by simp [World.cell?, hob1]); (have x4 : w1.cell? ⟨w.heap.size, 4, none⟩ = some (.slice saIn snIn scIn) := by simp [World.cell?, hob1]); (have x5 : w1.cell? ⟨w.heap.size, 5, none⟩ = some (.slice saTk snTk scTk) := by simp [World.cell?, hob1]); (have x6 : w1.cell? ⟨w.heap.size, 6, none⟩ = some (.slice saJb slJb.length scJb) := by simp [World.cell?, hob1]); (have x7 : w1.cell? ⟨w.heap.size, 7, none⟩ = some (.slice saTm slTm.length scTm) := by simp [World.cell?, hob1]); (have x8 : w1.cell? ⟨w.heap.size, 8, none⟩ = some (.slice saSb snSb scSb) := by simp [World.cell?, hob1]); (have x9 : w1.cell? ⟨w.heap.size, 9, none⟩ = some (.slice saKp snKp scKp) := by simp [World.cell?, hob1]); (have x10 : w1.cell? ⟨w.heap.size, 10, none⟩ = some (.slice saLs snLs scLs) := by simp [World.cell?, hob1]); (have x11 : w1.cell? ⟨w.heap.size, 11, none⟩ = some (.slice saMs slMs.length scMs) := by simp [World.cell?, hob1]); clear hb1 hob1)
    go_wp2_with fail
    go_ret
    exact ⟨rfl, HB1.out.1⟩
  by_cases g3 : now < -1000000
  · clear HCA HCB
    go_enter Tryz.func5, Tryz.ntmps5
    go_wp2_with (go_at_call 6; refine (shown_any _).mono ?_; rintro e w1 ⟨rfl, hb1⟩; (have hob1 : w1.heap[w.heap.size]? = some (.cells #[.int .u64 (spos : Int), .int .u64 (sdone : Int), .int .u64 (smade : Int), .slice saDe snDe scDe, .slice saIn snIn scIn, .slice saTk snTk scTk, .slice saJb slJb.length scJb, .slice saTm slTm.length scTm, .slice saSb snSb scSb, .slice saKp snKp scKp, .slice saLs snLs scLs, .slice saMs slMs.length scMs] 33 (0, 0)) := (hb1.block _ (by simp)).trans (heap_alloc_new w _)); (have HB1 : Hid (Below w.heap.size w w1 ∧ w.heap.size < w1.heap.size ∧ w1.heap[w.heap.size]? = some (.cells #[.int .u64 (spos : Int), .int .u64 (sdone : Int), .int .u64 (smade : Int), .slice saDe snDe scDe, .slice saIn snIn scIn, .slice saTk snTk scTk, .slice saJb slJb.length scJb, .slice saTm slTm.length scTm, .slice saSb snSb scSb, .slice saKp snKp scKp, .slice saLs snLs scLs, .slice saMs slMs.length scMs] 33 (0, 0))) := ⟨((Below.refl _ w).alloc (Nat.le_refl _) _).trans (hb1.mono (by simp)), by have := hb1.size; rw [World.size_alloc] at this; omega, hob1⟩); (have x0 : w1.cell? ⟨w.heap.size, 0, none⟩ = some (.int .u64 (spos : Int)) := by simp [World.cell?, hob1]); (have x1 : w1.cell? ⟨w.heap.size, 1, none⟩ = some (.int .u64 (sdone : Int)) := by simp [World.cell?, hob1]); (have x2 : w1.cell? ⟨w.heap.size, 2, none⟩ = some (.int .u64 (smade : Int)) := by simp [World.cell?, hob1]); (have x3 : w1.cell? ⟨w.heap.size, 3, none⟩ = some (.slice saDe snDe scDe) := by simp [World.cell?, hob1]); (have x4 : w1.cell? ⟨w.heap.size, 4, none⟩ = some (.slice saIn snIn scIn) := by simp [World.cell?, hob1]); (have x5 : w1.cell? ⟨w.heap.size, 5, none⟩ = some (.slice saTk snTk scTk) := by simp [World.cell?, hob1]); (have x6 : w1.cell? ⟨w.heap.size, 6, none⟩ = some (.slice saJb slJb.length scJb) := by simp [World.cell?, hob1]); (have x7 : w1.cell? ⟨w.heap.size, 7, none⟩ = some (.slice saTm slTm.length scTm) := by simp [World.cell?, hob1]); (have x8 : w1.cell? ⟨w.heap.size, 8, none⟩ = some (.slice saSb snSb scSb) := by simp [World.cell?, hob1]); (have x9 : w1.cell? ⟨w.heap.size, 9, none⟩ = some (.slice saKp snKp scKp) := by simp [World.cell?, hob1]); (have x10 : w1.cell? ⟨w.heap.size, 10, none⟩ = some (.slice saLs snLs scLs) := by simp [World.cell?, hob1]); (have x11 : w1.cell? ⟨w.heap.size, 11, none⟩ = some (.slice saMs slMs.length scMs) := by simp [World.cell?, hob1]); clear hb1 hob1)
    go_wp2_with fail
    go_ret
    exact ⟨rfl, HB1.out.1⟩
  by_cases g4 : 1125899906842624 < now
  · clear HCA HCB
    go_enter Tryz.func5, Tryz.ntmps5
    go_wp2_with (go_at_call 6; refine (shown_any _).mono ?_; rintro e w1 ⟨rfl, hb1⟩; (have hob1 : w1.heap[w.heap.size]? = some (.cells #[.int .u64 (spos : Int), .int .u64 (sdone : Int), .int .u64 (smade : Int), .slice saDe snDe scDe, .slice saIn snIn scIn, .slice saTk snTk scTk, .slice saJb slJb.length scJb, .slice saTm slTm.length scTm, .slice saSb snSb scSb, .slice saKp snKp scKp, .slice saLs snLs scLs, .slice saMs slMs.length scMs] 33 (0, 0)) := (hb1.block _ (by simp)).trans (heap_alloc_new w _)); (have HB1 : Hid (Below w.heap.size w w1 ∧ w.heap.size < w1.heap.size ∧ w1.heap[w.heap.size]? = some (.cells #[.int .u64 (spos : Int), .int .u64 (sdone : Int), .int .u64 (smade : Int), .slice saDe snDe scDe, .slice saIn snIn scIn, .slice saTk snTk scTk, .slice saJb slJb.length scJb, .slice saTm slTm.length scTm, .slice saSb snSb scSb, .slice saKp snKp scKp, .slice saLs snLs scLs, .slice saMs slMs.length scMs] 33 (0, 0))) := ⟨((Below.refl _ w).alloc (Nat.le_refl _) _).trans (hb1.mono (by simp)), by have := hb1.size; rw [World.size_alloc] at this; omega, hob1⟩); (have x0 : w1.cell? ⟨w.heap.size, 0, none⟩ = some (.int .u64 (spos : Int)) := by simp [World.cell?, hob1]); (have x1 : w1.cell? ⟨w.heap.size, 1, none⟩ = some (.int .u64 (sdone : Int)) := by simp [World.cell?, hob1]); (have x2 : w1.cell? ⟨w.heap.size, 2, none⟩ = some (.int .u64 (smade : Int)) := by simp [World.cell?, hob1]); (have x3 : w1.cell? ⟨w.heap.size, 3, none⟩ = some (.slice saDe snDe scDe) := by simp [World.cell?, hob1]); (have x4 : w1.cell? ⟨w.heap.size, 4, none⟩ = some (.slice saIn snIn scIn) := by simp [World.cell?, hob1]); (have x5 : w1.cell? ⟨w.heap.size, 5, none⟩ = some (.slice saTk snTk scTk) := by simp [World.cell?, hob1]); (have x6 : w1.cell? ⟨w.heap.size, 6, none⟩ = some (.slice saJb slJb.length scJb) := by simp [World.cell?, hob1]); (have x7 : w1.cell? ⟨w.heap.size, 7, none⟩ = some (.slice saTm slTm.length scTm) := by simp [World.cell?, hob1]); (have x8 : w1.cell? ⟨w.heap.size, 8, none⟩ = some (.slice saSb snSb scSb) := by simp [World.cell?, hob1]); (have x9 : w1.cell? ⟨w.heap.size, 9, none⟩ = some (.slice saKp snKp scKp) := by simp [World.cell?, hob1]); (have x10 : w1.cell? ⟨w.heap.size, 10, none⟩ = some (.slice saLs snLs scLs) := by simp [World.cell?, hob1]); (have x11 : w1.cell? ⟨w.heap.size, 11, none⟩ = some (.slice saMs slMs.length scMs) := by simp [World.cell?, hob1]); clear hb1 hob1)
    go_wp2_with fail
    go_ret
    exact ⟨rfl, HB1.out.1⟩
  have HG1 : Hid (Gr A B 0 0) := HG0.out (by omega)
  have hww : wrap64 (now + more) = now + more := IntWalk.wrap64_in _ ⟨by omega, by omega⟩
  clear HG0
  go_enter Tryz.func5, Tryz.ntmps5
  go_wp2_with (first
    | (go_at_call 6; refine (shown_any _).mono ?_; rintro e w1 ⟨rfl, hb1⟩; (have hob1 : w1.heap[w.heap.size]? = some (.cells #[.int .u64 (spos : Int), .int .u64 (sdone : Int), .int .u64 (smade : Int), .slice saDe snDe scDe, .slice saIn snIn scIn, .slice saTk snTk scTk, .slice saJb slJb.length scJb, .slice saTm slTm.length scTm, .slice saSb snSb scSb, .slice saKp snKp scKp, .slice saLs snLs scLs, .slice saMs slMs.length scMs] 33 (0, 0)) := (hb1.block _ (by simp)).trans (heap_alloc_new w _)); (have HB1 : Hid (Below w.heap.size w w1 ∧ w.heap.size < w1.heap.size ∧ w1.heap[w.heap.size]? = some (.cells #[.int .u64 (spos : Int), .int .u64 (sdone : Int), .int .u64 (smade : Int), .slice saDe snDe scDe, .slice saIn snIn scIn, .slice saTk snTk scTk, .slice saJb slJb.length scJb, .slice saTm slTm.length scTm, .slice saSb snSb scSb, .slice saKp snKp scKp, .slice saLs snLs scLs, .slice saMs slMs.length scMs] 33 (0, 0))) := ⟨((Below.refl _ w).alloc (Nat.le_refl _) _).trans (hb1.mono (by simp)), by have := hb1.size; rw [World.size_alloc] at this; omega, hob1⟩); (have x0 : w1.cell? ⟨w.heap.size, 0, none⟩ = some (.int .u64 (spos : Int)) := by simp [World.cell?, hob1]); (have x1 : w1.cell? ⟨w.heap.size, 1, none⟩ = some (.int .u64 (sdone : Int)) := by simp [World.cell?, hob1]); (have x2 : w1.cell? ⟨w.heap.size, 2, none⟩ = some (.int .u64 (smade : Int)) := by simp [World.cell?, hob1]); (have x3 : w1.cell? ⟨w.heap.size, 3, none⟩ = some (.slice saDe snDe scDe) := by simp [World.cell?, hob1]); (have x4 : w1.cell? ⟨w.heap.size, 4, none⟩ = some (.slice saIn snIn scIn) := by simp [World.cell?, hob1]); (have x5 : w1.cell? ⟨w.heap.size, 5, none⟩ = some (.slice saTk snTk scTk) := by simp [World.cell?, hob1]); (have x6 : w1.cell? ⟨w.heap.size, 6, none⟩ = some (.slice saJb slJb.length scJb) := by simp [World.cell?, hob1]); (have x7 : w1.cell? ⟨w.heap.size, 7, none⟩ = some (.slice saTm slTm.length scTm) := by simp [World.cell?, hob1]); (have x8 : w1.cell? ⟨w.heap.size, 8, none⟩ = some (.slice saSb snSb scSb) := by simp [World.cell?, hob1]); (have x9 : w1.cell? ⟨w.heap.size, 9, none⟩ = some (.slice saKp snKp scKp) := by simp [World.cell?, hob1]); (have x10 : w1.cell? ⟨w.heap.size, 10, none⟩ = some (.slice saLs snLs scLs) := by simp [World.cell?, hob1]); (have x11 : w1.cell? ⟨w.heap.size, 11, none⟩ = some (.slice saMs slMs.length scMs) := by simp [World.cell?, hob1]); clear hb1 hob1)
    | (go_at_call 7; refine (HCB.out _ HB2.out.1).mono ?_; rintro e w3 ⟨v, rfl, hr, hb⟩; obtain ⟨ba, bcp, rfl, -⟩ := row_slice hr; (have HB : Hid (Rr 13 Rc.cs w3 (.slice ba B.length bcp) B) := Rr.row Rc.k hr); (have hob : w3.heap[w.heap.size]? = some (.cells #[.int .u64 (spos : Int), .int .u64 (sdone : Int), .int .u64 (smade : Int), .slice saDe snDe scDe, .slice saIn snIn scIn, .slice saTk snTk scTk, .slice saJb slJb.length scJb, .slice saTm slTm.length scTm, .slice saSb snSb scSb, .slice saKp snKp scKp, .slice saLs snLs scLs, .slice saMs slMs.length scMs] 33 (0, 0)) := (hb.block _ HB2.out.2.1).trans HB2.out.2.2); (have HB3 : Hid (Below w.heap.size w w3 ∧ w.heap.size < w3.heap.size ∧ w3.heap[w.heap.size]? = some (.cells #[.int .u64 (spos : Int), .int .u64 (sdone : Int), .int .u64 (smade : Int), .slice saDe snDe scDe, .slice saIn snIn scIn, .slice saTk snTk scTk, .slice saJb slJb.length scJb, .slice saTm slTm.length scTm, .slice saSb snSb scSb, .slice saKp snKp scKp, .slice saLs snLs scLs, .slice saMs slMs.length scMs] 33 (0, 0))) := ⟨HB2.out.1.trans (hb.mono (Nat.le_of_lt HB2.out.2.1)), Nat.lt_of_lt_of_le HB2.out.2.1 hb.size, hob⟩); (have HS3 : Hid (Below w2.heap.size w2 w3) := hb); clear x0 x1 x2 x3 x4 x5 x6 x7 x8 x9 x10 x11; (have x0 : w3.cell? ⟨w.heap.size, 0, none⟩ = some (.int .u64 (spos : Int)) := by simp [World.cell?, hob]); (have x1 : w3.cell? ⟨w.heap.size, 1, none⟩ = some (.int .u64 (sdone : Int)) := by simp [World.cell?, hob]); (have x2 : w3.cell? ⟨w.heap.size, 2, none⟩ = some (.int .u64 (smade : Int)) := by simp [World.cell?, hob]); (have x3 : w3.cell? ⟨w.heap.size, 3, none⟩ = some (.slice saDe snDe scDe) := by simp [World.cell?, hob]); (have x4 : w3.cell? ⟨w.heap.size, 4, none⟩ = some (.slice saIn snIn scIn) := by simp [World.cell?, hob]); (have x5 : w3.cell? ⟨w.heap.size, 5, none⟩ = some (.slice saTk snTk scTk) := by simp [World.cell?, hob]); (have x6 : w3.cell? ⟨w.heap.size, 6, none⟩ = some (.slice saJb slJb.length scJb) := by simp [World.cell?, hob]); (have x7 : w3.cell? ⟨w.heap.size, 7, none⟩ = some (.slice saTm slTm.length scTm) := by simp [World.cell?, hob]); (have x8 : w3.cell? ⟨w.heap.size, 8, none⟩ = some (.slice saSb snSb scSb) := by simp [World.cell?, hob]); (have x9 : w3.cell? ⟨w.heap.size, 9, none⟩ = some (.slice saKp snKp scKp) := by simp [World.cell?, hob]); (have x10 : w3.cell? ⟨w.heap.size, 10, none⟩ = some (.slice saLs snLs scLs) := by simp [World.cell?, hob]); (have x11 : w3.cell? ⟨w.heap.size, 11, none⟩ = some (.slice saMs slMs.length scMs) := by simp [World.cell?, hob]); clear hb hr hob)
    | (go_at_call 7; refine (HCA.out _ HB1.out.1).mono ?_; rintro e w2 ⟨v, rfl, hr, hb⟩; obtain ⟨aa, ac, rfl, -⟩ := row_slice hr; (have HA : Hid (Rr 13 Rc.cs w2 (.slice aa A.length ac) A) := Rr.row Rc.k hr); (have hob : w2.heap[w.heap.size]? = some (.cells #[.int .u64 (spos : Int), .int .u64 (sdone : Int), .int .u64 (smade : Int), .slice saDe snDe scDe, .slice saIn snIn scIn, .slice saTk snTk scTk, .slice saJb slJb.length scJb, .slice saTm slTm.length scTm, .slice saSb snSb scSb, .slice saKp snKp scKp, .slice saLs snLs scLs, .slice saMs slMs.length scMs] 33 (0, 0)) := (hb.block _ HB1.out.2.1).trans HB1.out.2.2); (have HB2 : Hid (Below w.heap.size w w2 ∧ w.heap.size < w2.heap.size ∧ w2.heap[w.heap.size]? = some (.cells #[.int .u64 (spos : Int), .int .u64 (sdone : Int), .int .u64 (smade : Int), .slice saDe snDe scDe, .slice saIn snIn scIn, .slice saTk snTk scTk, .slice saJb slJb.length scJb, .slice saTm slTm.length scTm, .slice saSb snSb scSb, .slice saKp snKp scKp, .slice saLs snLs scLs, .slice saMs slMs.length scMs] 33 (0, 0))) := ⟨HB1.out.1.trans (hb.mono (Nat.le_of_lt HB1.out.2.1)), Nat.lt_of_lt_of_le HB1.out.2.1 hb.size, hob⟩); (have HS2 : Hid (Below w1.heap.size w1 w2) := hb); clear x0 x1 x2 x3 x4 x5 x6 x7 x8 x9 x10 x11; (have x0 : w2.cell? ⟨w.heap.size, 0, none⟩ = some (.int .u64 (spos : Int)) := by simp [World.cell?, hob]); (have x1 : w2.cell? ⟨w.heap.size, 1, none⟩ = some (.int .u64 (sdone : Int)) := by simp [World.cell?, hob]); (have x2 : w2.cell? ⟨w.heap.size, 2, none⟩ = some (.int .u64 (smade : Int)) := by simp [World.cell?, hob]); (have x3 : w2.cell? ⟨w.heap.size, 3, none⟩ = some (.slice saDe snDe scDe) := by simp [World.cell?, hob]); (have x4 : w2.cell? ⟨w.heap.size, 4, none⟩ = some (.slice saIn snIn scIn) := by simp [World.cell?, hob]); (have x5 : w2.cell? ⟨w.heap.size, 5, none⟩ = some (.slice saTk snTk scTk) := by simp [World.cell?, hob]); (have x6 : w2.cell? ⟨w.heap.size, 6, none⟩ = some (.slice saJb slJb.length scJb) := by simp [World.cell?, hob]); (have x7 : w2.cell? ⟨w.heap.size, 7, none⟩ = some (.slice saTm slTm.length scTm) := by simp [World.cell?, hob]); (have x8 : w2.cell? ⟨w.heap.size, 8, none⟩ = some (.slice saSb snSb scSb) := by simp [World.cell?, hob]); (have x9 : w2.cell? ⟨w.heap.size, 9, none⟩ = some (.slice saKp snKp scKp) := by simp [World.cell?, hob]); (have x10 : w2.cell? ⟨w.heap.size, 10, none⟩ = some (.slice saLs snLs scLs) := by simp [World.cell?, hob]); (have x11 : w2.cell? ⟨w.heap.size, 11, none⟩ = some (.slice saMs slMs.length scMs) := by simp [World.cell?, hob]); clear hb hr hob))
  go_loopw [10, 11] (fun v10 v11 wr => ∃ k i : Nat, v10 = .int .i64 (k : Int) ∧ v11 = .int .i64 (i : Int) ∧ Hid (Below w3.heap.size w3 wr ∧ Gr A B k i)) (fun _ v11 _ => B.length - (intOf v11).toNat)
  case atStart => exact ⟨0, 0, rfl, rfl, Below.refl _ _, HG1.out⟩
  case round =>
    obtain ⟨k, i, rfl, rfl, HR⟩ := hrel
    clear hww g1 g2 g3 g4
    by_cases hi : i < B.length
    · by_cases hk : k < A.length
      · have HAw : Hid (Rr 13 Rc.cs w3 (.slice aa A.length ac) A) := HA.out.up HS3.out
        obtain ⟨bb, bo, bc, hv, -, hbb, hcB⟩ := HB.out.at hi
        obtain ⟨rfl, rfl⟩ : ba = some ⟨bb, bo, none⟩ ∧ bcp = bc := by injection hv with e1 e2 e3; exact ⟨e1, e3⟩
        obtain ⟨ab, ao, acc, hv2, -, hab, hcA⟩ := HAw.out.at hk
        obtain ⟨rfl, rfl⟩ : aa = some ⟨ab, ao, none⟩ ∧ ac = acc := by injection hv2 with e1 e2 e3; exact ⟨e1, e3⟩
        obtain ⟨y, hy⟩ : ∃ y, B[i] = y := ⟨_, rfl⟩
        obtain ⟨x, hx⟩ : ∃ x, A[k] = x := ⟨_, rfl⟩
        have b1 := hcB wr HR.out.1 i hi 1 _ rfl
        have b4 := hcB wr HR.out.1 i hi 4 _ rfl
        have b7 := hcB wr HR.out.1 i hi 7 _ rfl
        have a1 := hcA wr HR.out.1 k hk 1 _ rfl
        have a4 := hcA wr HR.out.1 k hk 4 _ rfl
        have a7 := hcA wr HR.out.1 k hk 7 _ rfl
        simp only [hy] at b1 b4 b7
        simp only [hx] at a1 a4 a7
        have hY : Hid (B[i] = y) := hy
        have hX : Hid (A[k] = x) := hx
        have i1 : (0 : Int) ≤ (i : Int) := by omega
        have i2 : (i : Int) < (B.length : Int) := by omega
        have k1 : (0 : Int) ≤ (k : Int) := by omega
        have k2 : (k : Int) < (A.length : Int) := by omega
        have hwi : wrap64 ((i : Int) + 1) = (i : Int) + 1 := IntWalk.wrap64_in _ ⟨by omega, by have := HN.out; omega⟩
        have hwk : wrap64 ((k : Int) + 1) = (k : Int) + 1 := IntWalk.wrap64_in _ ⟨by omega, by have := HN.out; omega⟩
        clear hcB hcA hv hv2 hy hx hbb hab x0 x1 x2 x3 x4 x5 x6 x7 x8 x9 x10 x11
        cases e1 : (y.kd == x.kd) with
        | false =>
          go_wp2_with fail
          go_quiet (fail)
          go_wp2_with fail
          go_roundw
          case rel => exact ⟨k, i + 1, rfl, by rw [hwi]; rfl, Below.drN HR.out.1 _, HR.out.2.miss hk hi (by rw [hY.out, hX.out]; exact tr_ne1 e1)⟩
          case measure => rw [hwi]; exact due_less hi
        | true =>
          cases e2 : (((y.k1 : Nat) : Int) == ((x.k1 : Nat) : Int)) with
          | false =>
            go_wp2_with fail
            go_quiet (fail)
            go_wp2_with fail
            go_roundw
            case rel => exact ⟨k, i + 1, rfl, by rw [hwi]; rfl, Below.drN HR.out.1 _, HR.out.2.miss hk hi (by rw [hY.out, hX.out]; exact tr_ne2 e2)⟩
            case measure => rw [hwi]; exact due_less hi
          | true =>
            cases e3 : (y.n == x.n) with
            | false =>
              go_wp2_with fail
              go_quiet (fail)
              go_wp2_with fail
              go_roundw
              case rel => exact ⟨k, i + 1, rfl, by rw [hwi]; rfl, Below.drN HR.out.1 _, HR.out.2.miss hk hi (by rw [hY.out, hX.out]; exact tr_ne3 e3)⟩
              case measure => rw [hwi]; exact due_less hi
            | true =>
              go_wp2_with fail
              go_quiet (fail)
              go_wp2_with fail
              go_roundw
              case rel => exact ⟨k + 1, i + 1, by rw [hwk]; rfl, by rw [hwi]; rfl, Below.drN HR.out.1 _, HR.out.2.hit hk hi (by rw [hY.out, hX.out]; exact tr_eq e1 e2 e3)⟩
              case measure => rw [hwi]; exact due_less hi
      · obtain rfl : k = A.length := by have := HR.out.2.1; omega
        have hob : wr.heap[w.heap.size]? = some (.cells #[.int .u64 (spos : Int), .int .u64 (sdone : Int), .int .u64 (smade : Int), .slice saDe snDe scDe, .slice saIn snIn scIn, .slice saTk snTk scTk, .slice saJb slJb.length scJb, .slice saTm slTm.length scTm, .slice saSb snSb scSb, .slice saKp snKp scKp, .slice saLs snLs scLs, .slice saMs slMs.length scMs] 33 (0, 0)) := (HR.out.1.block _ HB3.out.2.1).trans HB3.out.2.2
        have m6 : wr.cell? ⟨w.heap.size, 6, none⟩ = some (.slice saJb slJb.length scJb) := by simp [World.cell?, hob]
        have m7 : wr.cell? ⟨w.heap.size, 7, none⟩ = some (.slice saTm slTm.length scTm) := by simp [World.cell?, hob]
        have m11 : wr.cell? ⟨w.heap.size, 11, none⟩ = some (.slice saMs slMs.length scMs) := by simp [World.cell?, hob]
        have HF : Hid (Below w.heap.size w wr) := HB3.out.1.trans (HR.out.1.mono (Nat.le_of_lt HB3.out.2.1))
        have hlen : (B.length : Int) ≤ (slTm.length : Int) + (slJb.length : Int) + (slMs.length : Int) := by have := HN.out.2.2.2.2; omega
        have hw1 : wrap64 ((slTm.length : Int) + (slJb.length : Int)) = (slTm.length : Int) + (slJb.length : Int) := IntWalk.wrap64_in _ ⟨by omega, by have := HN.out.1; have := HN.out.2.1; omega⟩
        have hw2 : wrap64 ((slTm.length : Int) + (slJb.length : Int) + (slMs.length : Int)) = (slTm.length : Int) + (slJb.length : Int) + (slMs.length : Int) := IntWalk.wrap64_in _ ⟨by omega, by have := HN.out.1; have := HN.out.2.1; have := HN.out.2.2.1; omega⟩
        clear hob x0 x1 x2 x3 x4 x5 x6 x7 x8 x9 x10 x11
        go_wp2_with fail
        go_ret
        exact ⟨rfl, HF.out⟩
    · obtain rfl : i = B.length := by have := HR.out.2.2.1; omega
      obtain rfl : k = A.length := HR.out.2.fin
      have hob : wr.heap[w.heap.size]? = some (.cells #[.int .u64 (spos : Int), .int .u64 (sdone : Int), .int .u64 (smade : Int), .slice saDe snDe scDe, .slice saIn snIn scIn, .slice saTk snTk scTk, .slice saJb slJb.length scJb, .slice saTm slTm.length scTm, .slice saSb snSb scSb, .slice saKp snKp scKp, .slice saLs snLs scLs, .slice saMs slMs.length scMs] 33 (0, 0)) := (HR.out.1.block _ HB3.out.2.1).trans HB3.out.2.2
      have m6 : wr.cell? ⟨w.heap.size, 6, none⟩ = some (.slice saJb slJb.length scJb) := by simp [World.cell?, hob]
      have m7 : wr.cell? ⟨w.heap.size, 7, none⟩ = some (.slice saTm slTm.length scTm) := by simp [World.cell?, hob]
      have m11 : wr.cell? ⟨w.heap.size, 11, none⟩ = some (.slice saMs slMs.length scMs) := by simp [World.cell?, hob]
      have HF : Hid (Below w.heap.size w wr) := HB3.out.1.trans (HR.out.1.mono (Nat.le_of_lt HB3.out.2.1))
      have hlen : (B.length : Int) ≤ (slTm.length : Int) + (slJb.length : Int) + (slMs.length : Int) := by have := HN.out.2.2.2.2; omega
      have hw1 : wrap64 ((slTm.length : Int) + (slJb.length : Int)) = (slTm.length : Int) + (slJb.length : Int) := IntWalk.wrap64_in _ ⟨by omega, by have := HN.out.1; have := HN.out.2.1; omega⟩
      have hw2 : wrap64 ((slTm.length : Int) + (slJb.length : Int) + (slMs.length : Int)) = (slTm.length : Int) + (slJb.length : Int) + (slMs.length : Int) := IntWalk.wrap64_in _ ⟨by omega, by have := HN.out.1; have := HN.out.2.1; have := HN.out.2.2.1; omega⟩
      clear hob x0 x1 x2 x3 x4 x5 x6 x7 x8 x9 x10 x11
      go_wp2_with fail
      go_ret
      exact ⟨rfl, HF.out⟩
end Go.Proofs.YthmfcloecmnfnaaGreat.f13

/-
  Package book's Late, Fail.
-/
import Derived.Test.YthmfcloecmnfnaaGreatB16Bck
namespace Go.Proofs.YthmfcloecmnfnaaGreat.f13
open Go.RowKit Go.Shelf Go.Sort
open Go.Lib hiding intOf

theorem bel_drewN {w W : World} {B : Nat} (h : Below B w W) (m : Nat) : Below B w (W.drewN m) := ⟨h.os, h.tape, h.output, h.size, h.block⟩
set_option maxHeartbeats 2000000 in
set_option maxRecDepth 100000 in
theorem late_no {B : Nat} {w : World} {g : Nat} {k : Wo} (key : Nat) {j0 j1 : Nat} {j2 j4 : List UInt8} {j3 j5 : Int} {er : Int} (h : Wk B w g k) (hz : Sz k.s) (hT : tkn k.s.jobs key = (⟨j0, j1, j2, j3, j4, j5⟩, er)) (he : ¬ er = 0) :
    Calls Tryz.prog 17 #[.pointer (some ⟨g, 0, none⟩), .int .u64 (key : Int)] w fun e w' => e = .returned (.int .i64 er) ∧ Below w.heap.size w w' := by
  have CT := taken_any key h hz
  rw [hT] at CT
  simp only [Jb.c] at CT
  have he2 : (er == 0) = false := by simp [he]
  have he3 : (er != 0) = true := by simp [he]
  clear h hz hT
  go_enter Tryz.func17, Tryz.ntmps17
  go_wp2_with (go_at_call 29; refine CT.mono ?_; rintro e w1 ⟨rfl, hb1⟩; (have B1 : Hid (Below w.heap.size w w1) := hb1); clear hb1 CT)
  go_ret
  exact ⟨rfl, B1.out.alloc B1.out.size _⟩
set_option maxHeartbeats 2000000 in
set_option maxRecDepth 100000 in
theorem late_soon {B : Nat} {w : World} {g : Nat} {k : Wo} (key : Nat) {j0 j1 : Nat} {j2 j4 : List UInt8} {j3 j5 : Int} (h : Wk B w g k) (hz : Sz k.s) (hT : tkn k.s.jobs key = (⟨j0, j1, j2, j3, j4, j5⟩, 0)) (ht : k.nw < j5) :
    Calls Tryz.prog 17 #[.pointer (some ⟨g, 0, none⟩), .int .u64 (key : Int)] w fun e w' => e = .returned (.int .i64 12) ∧ Below w.heap.size w w' := by
  have CT := taken_any key h hz
  rw [hT] at CT
  simp only [Jb.c] at CT
  have CN : Hid (∀ W, Below w.heap.size w W → Calls Tryz.prog 26 #[.pointer (some ⟨g, 0, none⟩)] W fun e w' => e = .returned (.int .i64 k.nw) ∧ w' = W) := fun W hW => Now_any (h.up hW)
  generalize k.nw = nw at *
  clear h hz hT
  go_enter Tryz.func17, Tryz.ntmps17
  go_wp2_with (go_at_call 29; refine CT.mono ?_; rintro e w1 ⟨rfl, hb1⟩; (have B1 : Hid (Below w.heap.size w w1) := hb1); clear hb1 CT)
  have hb2 : Below w.heap.size w (w1.alloc (.cells #[.int .u64 (j0 : Int), .int .u64 (j1 : Int), .string (S j2), .int .i64 j3, .string (S j4), .int .i64 j5] 46)) := B1.out.alloc B1.out.size _
  have CN2 : ∀ m, _ := fun m => CN.out _ (bel_drewN hb2 m)
  have hc5 : (w1.alloc (.cells #[.int .u64 (j0 : Int), .int .u64 (j1 : Int), .string (S j2), .int .i64 j3, .string (S j4), .int .i64 j5] 46)).cell? ⟨w1.heap.size, 5, none⟩ = some (.int .i64 j5) := by rw [World.cell?_alloc_new]; rfl
  have HB2 : Hid _ := hb2
  clear hb2
  go_quiet ((go_at_call 26; refine Calls.quiet_of_same (CN2 _)))
  go_wp2
  go_ret
  exact ⟨rfl, by first | exact HB2.out | exact bel_drewN HB2.out _⟩
set_option maxHeartbeats 2000000 in
set_option maxRecDepth 100000 in
theorem late_yes {B : Nat} {w : World} {g : Nat} {k : Wo} (key : Nat) {j0 j1 : Nat} {j2 j4 : List UInt8} {j3 j5 : Int} (h : Wk B w g k) (hB : B ≤ w.heap.size) (hz : Sz k.s) (hel : ((k.el.length + 1) + (k.el.length + 1) / 4 + 192) * 144 ≤ 281474976710656) (hT : tkn k.s.jobs key = (⟨j0, j1, j2, j3, j4, j5⟩, 0)) (ht : ¬ k.nw < j5) :
    Calls Tryz.prog 17 #[.pointer (some ⟨g, 0, none⟩), .int .u64 (key : Int)] w fun e w' => e = .returned (.int .i64 0) ∧ Emd B w g k (eBack { k.s.e with pos := up1 k.s.pos, done := max k.s.done k.ps } ⟨0, 8, 0, 0, j0, 0, 0, j3, 0, [], [], [], .slice none 0 0, []⟩) ⟨0, 8, 0, 0, j0, 0, 0, j3, 0, [], [], [], .slice none 0 0, []⟩ w' := by
  have CT := taken_any key h hz
  rw [hT] at CT
  simp only [Jb.c] at CT
  have CN : Hid (∀ W, Below w.heap.size w W → Calls Tryz.prog 26 #[.pointer (some ⟨g, 0, none⟩)] W fun e w' => e = .returned (.int .i64 k.nw) ∧ w' = W) := fun W hW => Now_any (h.up hW)
  have CB : Hid (∀ W, Below w.heap.size w W → Calls Tryz.prog 30 #[.pointer (some ⟨g, 0, none⟩), .agg (Jb.c ⟨j0, j1, j2, j3, j4, j5⟩).toArray, .int .i64 j3] W fun e w' => e = .returned (.tuple #[]) ∧ Emd B w g k (eBack { k.s.e with pos := up1 k.s.pos, done := max k.s.done k.ps } ⟨0, 8, 0, 0, j0, 0, 0, j3, 0, [], [], [], .slice none 0 0, []⟩) ⟨0, 8, 0, 0, j0, 0, 0, j3, 0, [], [], [], .slice none 0 0, []⟩ w') := fun W hW => (back_any ⟨j0, j1, j2, j3, j4, j5⟩ j3 (h.up hW) (Nat.le_trans hB hW.size) hz hel).mono (fun e w' hh => ⟨hh.1, Emd.of h hW hh.2⟩)
  generalize hE : Emd B w g k (eBack { k.s.e with pos := up1 k.s.pos, done := max k.s.done k.ps } ⟨0, 8, 0, 0, j0, 0, 0, j3, 0, [], [], [], .slice none 0 0, []⟩) ⟨0, 8, 0, 0, j0, 0, 0, j3, 0, [], [], [], .slice none 0 0, []⟩ = P at *
  simp only [Jb.c] at CB
  generalize k.nw = nw at *
  clear h hz hT hel hE hB
  go_enter Tryz.func17, Tryz.ntmps17
  go_wp2_with (go_at_call 29; refine CT.mono ?_; rintro e w1 ⟨rfl, hb1⟩; (have B1 : Hid (Below w.heap.size w w1) := hb1); clear hb1 CT)
  have hb2 : Below w.heap.size w (w1.alloc (.cells #[.int .u64 (j0 : Int), .int .u64 (j1 : Int), .string (S j2), .int .i64 j3, .string (S j4), .int .i64 j5] 46)) := B1.out.alloc B1.out.size _
  have CN2 : ∀ m, _ := fun m => CN.out _ (bel_drewN hb2 m)
  have z0 : (w1.alloc (.cells #[.int .u64 (j0 : Int), .int .u64 (j1 : Int), .string (S j2), .int .i64 j3, .string (S j4), .int .i64 j5] 46)).cell? ⟨w1.heap.size, 0, none⟩ = some (.int .u64 (j0 : Int)) := by rw [World.cell?_alloc_new]; rfl
  have z1 : (w1.alloc (.cells #[.int .u64 (j0 : Int), .int .u64 (j1 : Int), .string (S j2), .int .i64 j3, .string (S j4), .int .i64 j5] 46)).cell? ⟨w1.heap.size, 1, none⟩ = some (.int .u64 (j1 : Int)) := by rw [World.cell?_alloc_new]; rfl
  have z2 : (w1.alloc (.cells #[.int .u64 (j0 : Int), .int .u64 (j1 : Int), .string (S j2), .int .i64 j3, .string (S j4), .int .i64 j5] 46)).cell? ⟨w1.heap.size, 2, none⟩ = some (.string (S j2)) := by rw [World.cell?_alloc_new]; rfl
  have z3 : (w1.alloc (.cells #[.int .u64 (j0 : Int), .int .u64 (j1 : Int), .string (S j2), .int .i64 j3, .string (S j4), .int .i64 j5] 46)).cell? ⟨w1.heap.size, 3, none⟩ = some (.int .i64 j3) := by rw [World.cell?_alloc_new]; rfl
  have z4 : (w1.alloc (.cells #[.int .u64 (j0 : Int), .int .u64 (j1 : Int), .string (S j2), .int .i64 j3, .string (S j4), .int .i64 j5] 46)).cell? ⟨w1.heap.size, 4, none⟩ = some (.string (S j4)) := by rw [World.cell?_alloc_new]; rfl
  have z5 : (w1.alloc (.cells #[.int .u64 (j0 : Int), .int .u64 (j1 : Int), .string (S j2), .int .i64 j3, .string (S j4), .int .i64 j5] 46)).cell? ⟨w1.heap.size, 5, none⟩ = some (.int .i64 j5) := by rw [World.cell?_alloc_new]; rfl
  have CB2 := CB.out _ hb2
  have CB3 : ∀ m, _ := fun m => CB.out _ (bel_drewN hb2 m)
  clear hb2 CB CN
  go_quiet ((go_at_call 26; refine Calls.quiet_of_same (CN2 _)))
  go_wp2_with (go_at_call 30; (first | refine CB2.mono ?_ | refine (CB3 _).mono ?_); rintro e w3 ⟨rfl, hP⟩; (have HP : Hid (P w3) := hP); clear hP)
  go_ret
  exact ⟨rfl, HP.out⟩
/-- what Late comes to -/
def lateE (k : Wo) (key : Nat) : Int := if (tkn k.s.jobs key).2 = 0 then (if k.nw < (tkn k.s.jobs key).1.unt then 12 else 0) else (tkn k.s.jobs key).2
def lateR (k : Wo) (key : Nat) : Rc := ⟨0, 8, 0, 0, (tkn k.s.jobs key).1.key, 0, 0, (tkn k.s.jobs key).1.retr, 0, [], [], [], .slice none 0 0, []⟩
theorem Late_any {B : Nat} {w : World} {g : Nat} {k : Wo} (key : Nat) (h : Wk B w g k) (hB : B ≤ w.heap.size) (hz : Sz k.s) (hel : ((k.el.length + 1) + (k.el.length + 1) / 4 + 192) * 144 ≤ 281474976710656) :
    Calls Tryz.prog 17 #[.pointer (some ⟨g, 0, none⟩), .int .u64 (key : Int)] w fun e w' => e = .returned (.int .i64 (lateE k key)) ∧ ((¬ lateE k key = 0 ∧ Below w.heap.size w w') ∨ (lateE k key = 0 ∧ Emd B w g k (eBack { k.s.e with pos := up1 k.s.pos, done := max k.s.done k.ps } (lateR k key)) (lateR k key) w')) := by
  unfold lateE lateR
  rcases hT : tkn k.s.jobs key with ⟨⟨j0, j1, j2, j3, j4, j5⟩, er⟩
  simp only
  by_cases he : er = 0
  · subst he
    by_cases ht : k.nw < j5
    · rw [if_pos rfl, if_pos ht]
      exact (late_soon key h hz hT ht).mono (fun e w' hh => ⟨hh.1, .inl ⟨by omega, hh.2⟩⟩)
    · rw [if_pos rfl, if_neg ht]
      exact (late_yes key h hB hz hel hT ht).mono (fun e w' hh => ⟨hh.1, .inr ⟨rfl, hh.2⟩⟩)
  · rw [if_neg he]
    exact (late_no key h hz hT he).mono (fun e w' hh => ⟨hh.1, .inl ⟨he, hh.2⟩⟩)
end Go.Proofs.YthmfcloecmnfnaaGreat.f13

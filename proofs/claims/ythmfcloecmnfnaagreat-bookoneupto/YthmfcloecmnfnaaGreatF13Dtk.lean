/-
  The document's Token and Job.
-/
import Derived.Test.YthmfcloecmnfnaaGreatF13Dof
import Derived.Test.YthmfcloecmnfnaaGreatGJob
import Derived.Test.YthmfcloecmnfnaaGreatF13Tk2
namespace Go.Proofs.YthmfcloecmnfnaaGreat.f13
open Go.RowKit Go.Shelf Go.Sort
open Go.Lib hiding intOf

set_option maxHeartbeats 2000000 in
set_option maxRecDepth 100000 in
theorem dJob_any {w : World} {s : St} (key : Nat) (h : Sv w s) (hn : s.jobs.length ≤ 4611686018427387904) :
    Calls Tryz.prog 15 #[.agg s.c.toArray, .int .u64 (key : Int)] w fun e w' => e = .returned (.tuple #[.agg (Jb.c (fstJb (fun x => x.kk == key) s.jobs).1).toArray, .bool (fstJb (fun x => x.kk == key) s.jobs).2]) ∧ Below w.heap.size w w' := by
  have h0 := h
  obtain ⟨pos, done, made, vDe, procs, vIn, insts, vTk, tokens, vJb, jobs, vTm, timers, vSb, subs, vKp, kept, vLs, listed, vMs, msgs⟩ := s
  obtain ⟨aDe, cDe, hs, -⟩ := id h.rDe
  simp only at hs
  subst hs
  obtain ⟨aIn, cIn, hs, -⟩ := id h.rIn
  simp only at hs
  subst hs
  obtain ⟨aTk, cTk, hs, -⟩ := id h.rTk
  simp only at hs
  subst hs
  obtain ⟨aJb, cJb, hs, -⟩ := id h.rJb
  simp only at hs
  subst hs
  obtain ⟨aTm, cTm, hs, -⟩ := id h.rTm
  simp only at hs
  subst hs
  obtain ⟨aSb, cSb, hs, -⟩ := id h.rSb
  simp only at hs
  subst hs
  obtain ⟨aKp, cKp, hs, -⟩ := id h.rKp
  simp only at hs
  subst hs
  obtain ⟨aLs, cLs, hs, -⟩ := id h.rLs
  simp only at hs
  subst hs
  obtain ⟨aMs, cMs, hs, -⟩ := id h.rMs
  simp only at hs
  subst hs
  simp only at hn
  have hb0 : Below w.heap.size w ((w.alloc (.cells #[.int .u64 (pos : Int), .int .u64 (done : Int), .int .u64 (made : Int), .slice aDe procs.length cDe, .slice aIn insts.length cIn, .slice aTk tokens.length cTk, .slice aJb jobs.length cJb, .slice aTm timers.length cTm, .slice aSb subs.length cSb, .slice aKp kept.length cKp, .slice aLs listed.length cLs, .slice aMs msgs.length cMs] 33)).alloc (.cells #[.int .u64 0, .int .u64 0, .string ⟨#[]⟩, .int .i64 0, .string ⟨#[]⟩, .int .i64 0] 46)) := ((Below.refl _ w).alloc (Nat.le_refl _) _).alloc (by simp) _
  have CI := djobOf_any key (h0.up hb0) hn
  have HV : Hid (Rr 6 Jb.c w (.slice aJb jobs.length cJb) jobs) := h.rJb
  have HS : Hid (∀ W, Below ((w.alloc (.cells #[.int .u64 (pos : Int), .int .u64 (done : Int), .int .u64 (made : Int), .slice aDe procs.length cDe, .slice aIn insts.length cIn, .slice aTk tokens.length cTk, .slice aJb jobs.length cJb, .slice aTm timers.length cTm, .slice aSb subs.length cSb, .slice aKp kept.length cKp, .slice aLs listed.length cLs, .slice aMs msgs.length cMs] 33)).alloc (.cells #[.int .u64 0, .int .u64 0, .string ⟨#[]⟩, .int .i64 0, .string ⟨#[]⟩, .int .i64 0] 46)).heap.size ((w.alloc (.cells #[.int .u64 (pos : Int), .int .u64 (done : Int), .int .u64 (made : Int), .slice aDe procs.length cDe, .slice aIn insts.length cIn, .slice aTk tokens.length cTk, .slice aJb jobs.length cJb, .slice aTm timers.length cTm, .slice aSb subs.length cSb, .slice aKp kept.length cKp, .slice aLs listed.length cLs, .slice aMs msgs.length cMs] 33)).alloc (.cells #[.int .u64 0, .int .u64 0, .string ⟨#[]⟩, .int .i64 0, .string ⟨#[]⟩, .int .i64 0] 46)) W → W.cell? ⟨w.heap.size, 6, none⟩ = some (.slice aJb jobs.length cJb) ∧ W.heap[w.heap.size + 1]? = some (.cells #[.int .u64 0, .int .u64 0, .string ⟨#[]⟩, .int .i64 0, .string ⟨#[]⟩, .int .i64 0] 46 (0, 0)) ∧ Below w.heap.size w W ∧ w.heap.size + 1 < W.heap.size) := by
    intro W hW
    have e0 : ((w.alloc (.cells #[.int .u64 (pos : Int), .int .u64 (done : Int), .int .u64 (made : Int), .slice aDe procs.length cDe, .slice aIn insts.length cIn, .slice aTk tokens.length cTk, .slice aJb jobs.length cJb, .slice aTm timers.length cTm, .slice aSb subs.length cSb, .slice aKp kept.length cKp, .slice aLs listed.length cLs, .slice aMs msgs.length cMs] 33)).alloc (.cells #[.int .u64 0, .int .u64 0, .string ⟨#[]⟩, .int .i64 0, .string ⟨#[]⟩, .int .i64 0] 46)).heap.size = w.heap.size + 2 := by simp
    have hWs := hW.size
    rw [e0] at hW hWs
    refine ⟨(hW.cell (p := ⟨w.heap.size, 6, none⟩) (by simp only; omega)).trans (by go_simp), (hW.block _ (by omega)).trans ?_, hb0.trans (hW.mono (by omega)), by omega⟩
    have := heap_alloc_new (w.alloc (.cells #[.int .u64 (pos : Int), .int .u64 (done : Int), .int .u64 (made : Int), .slice aDe procs.length cDe, .slice aIn insts.length cIn, .slice aTk tokens.length cTk, .slice aJb jobs.length cJb, .slice aTm timers.length cTm, .slice aSb subs.length cSb, .slice aKp kept.length cKp, .slice aLs listed.length cLs, .slice aMs msgs.length cMs] 33)) (.cells #[.int .u64 0, .int .u64 0, .string ⟨#[]⟩, .int .i64 0, .string ⟨#[]⟩, .int .i64 0] 46)
    rw [World.size_alloc] at this
    exact this
  simp only [St.c] at CI ⊢
  clear h h0 hb0
  cases hF : jobs.findIdx? (fun x => x.kk == key) with
  | none =>
    have e0 : fix (fun x => x.kk == key) jobs = -1 := by unfold fix; rw [hF]
    have HE : Hid (fstJb (fun x => x.kk == key) jobs = (⟨0, 0, [], 0, [], 0⟩, false)) := by show _ = _; unfold fstJb; rw [find_no hF]
    rw [e0] at CI
    have hneg : (-1 : Int) < 0 := by omega
    clear hF e0 HV
    go_enter Tryz.func15, Tryz.ntmps15
    go_wp2_with (go_at_call 28; refine CI.mono ?_; rintro e w1 ⟨rfl, b1⟩; obtain ⟨sm, hob, hbw, hl1⟩ := HS.out w1 b1; (have HO : Hid _ := hob); (have B1 : Hid (Below w.heap.size w w1) := hbw); (have m0 : w1.cell? ⟨w.heap.size + 1, 0, none⟩ = some (.int .u64 0) := by simp [World.cell?, hob]); (have f0 : w1.frozen? ⟨w.heap.size + 1, 0, none⟩ = false := by simp [World.frozen?, hob]); (have m1 : w1.cell? ⟨w.heap.size + 1, 1, none⟩ = some (.int .u64 0) := by simp [World.cell?, hob]); (have f1 : w1.frozen? ⟨w.heap.size + 1, 1, none⟩ = false := by simp [World.frozen?, hob]); (have m2 : w1.cell? ⟨w.heap.size + 1, 2, none⟩ = some (.string ⟨#[]⟩) := by simp [World.cell?, hob]); (have f2 : w1.frozen? ⟨w.heap.size + 1, 2, none⟩ = false := by simp [World.frozen?, hob]); (have m3 : w1.cell? ⟨w.heap.size + 1, 3, none⟩ = some (.int .i64 0) := by simp [World.cell?, hob]); (have f3 : w1.frozen? ⟨w.heap.size + 1, 3, none⟩ = false := by simp [World.frozen?, hob]); (have m4 : w1.cell? ⟨w.heap.size + 1, 4, none⟩ = some (.string ⟨#[]⟩) := by simp [World.cell?, hob]); (have f4 : w1.frozen? ⟨w.heap.size + 1, 4, none⟩ = false := by simp [World.frozen?, hob]); (have m5 : w1.cell? ⟨w.heap.size + 1, 5, none⟩ = some (.int .i64 0) := by simp [World.cell?, hob]); (have f5 : w1.frozen? ⟨w.heap.size + 1, 5, none⟩ = false := by simp [World.frozen?, hob]); clear b1 CI hob hbw)
    rw [HE.out]
    have hfin : Below w.heap.size w (setJb w1 (w.heap.size + 1) (.int .u64 0) (.int .u64 0) (.string ⟨#[]⟩) (.int .i64 0) (.string ⟨#[]⟩) (.int .i64 0)) := B1.out.trans ((setJb_ch w1 (w.heap.size + 1) (.int .u64 0) (.int .u64 0) (.string ⟨#[]⟩) (.int .i64 0) (.string ⟨#[]⟩) (.int .i64 0)).below B1.out.size (fun g hg e => by omega))
    refine bodyPost_ret (ret_two rfl _ _ (w.heap.size + 1) 46 #[.int .u64 0, .int .u64 0, .string ⟨#[]⟩, .int .i64 0, .string ⟨#[]⟩, .int .i64 0] (0, 0) _ rfl (setJb_obj (W := w1) (.int .u64 0) (.int .u64 0) (.string ⟨#[]⟩) (.int .i64 0) (.string ⟨#[]⟩) (.int .i64 0) HO.out) Tryz.underlying46 rfl sizeJb) rfl ?_
    exact ⟨rfl, hfin⟩
  | some i =>
    have e0 : fix (fun x => x.kk == key) jobs = (i : Int) := by unfold fix; rw [hF]
    obtain ⟨hi, hfi⟩ := find_of hF
    have HE : Hid (fstJb (fun x => x.kk == key) jobs = (jobs[i], true)) := by show _ = _; unfold fstJb; rw [hfi]
    rw [e0] at CI
    have hi0 : ¬ (i : Int) < 0 := by omega
    have hi1 : (0 : Int) ≤ (i : Int) := by omega
    have hil : (i : Int) < (jobs.length : Int) := by omega
    obtain ⟨b', off, cap', hsl, -, hbl, hcell⟩ := HV.out.at hi
    obtain ⟨rfl, rfl⟩ : aJb = some ⟨b', off, none⟩ ∧ cJb = cap' := by injection hsl with e1 _ e2; exact ⟨e1, e2⟩
    have HC : Hid (∀ w', Below w.heap.size w w' → w'.cell? ⟨b', off + i * 6 + 0, none⟩ = some (.int .u64 (jobs[i].key : Int)) ∧ w'.cell? ⟨b', off + i * 6 + 1, none⟩ = some (.int .u64 (jobs[i].token : Int)) ∧ w'.cell? ⟨b', off + i * 6 + 2, none⟩ = some (.string (S jobs[i].typ)) ∧ w'.cell? ⟨b', off + i * 6 + 3, none⟩ = some (.int .i64 jobs[i].retr) ∧ w'.cell? ⟨b', off + i * 6 + 4, none⟩ = some (.string (S jobs[i].wkr)) ∧ w'.cell? ⟨b', off + i * 6 + 5, none⟩ = some (.int .i64 jobs[i].unt)) := fun w' hw' => ⟨hcell w' hw' i hi 0 _ rfl, hcell w' hw' i hi 1 _ rfl, hcell w' hw' i hi 2 _ rfl, hcell w' hw' i hi 3 _ rfl, hcell w' hw' i hi 4 _ rfl, hcell w' hw' i hi 5 _ rfl⟩
    rw [HE.out]
    clear hF e0 hcell hfi HE hsl HV
    generalize jobs[i] = x at *
    obtain ⟨x0, x1, x2, x3, x4, x5⟩ := x
    simp only [Jb.c] at HC ⊢
    go_enter Tryz.func15, Tryz.ntmps15
    go_wp2_with (go_at_call 28; refine CI.mono ?_; rintro e w1 ⟨rfl, b1⟩; obtain ⟨sm, hob, hbw, hl1⟩ := HS.out w1 b1; (have HO : Hid _ := hob); (have B1 : Hid (Below w.heap.size w w1) := hbw); (have m0 : w1.cell? ⟨w.heap.size + 1, 0, none⟩ = some (.int .u64 0) := by simp [World.cell?, hob]); (have f0 : w1.frozen? ⟨w.heap.size + 1, 0, none⟩ = false := by simp [World.frozen?, hob]); (have m1 : w1.cell? ⟨w.heap.size + 1, 1, none⟩ = some (.int .u64 0) := by simp [World.cell?, hob]); (have f1 : w1.frozen? ⟨w.heap.size + 1, 1, none⟩ = false := by simp [World.frozen?, hob]); (have m2 : w1.cell? ⟨w.heap.size + 1, 2, none⟩ = some (.string ⟨#[]⟩) := by simp [World.cell?, hob]); (have f2 : w1.frozen? ⟨w.heap.size + 1, 2, none⟩ = false := by simp [World.frozen?, hob]); (have m3 : w1.cell? ⟨w.heap.size + 1, 3, none⟩ = some (.int .i64 0) := by simp [World.cell?, hob]); (have f3 : w1.frozen? ⟨w.heap.size + 1, 3, none⟩ = false := by simp [World.frozen?, hob]); (have m4 : w1.cell? ⟨w.heap.size + 1, 4, none⟩ = some (.string ⟨#[]⟩) := by simp [World.cell?, hob]); (have f4 : w1.frozen? ⟨w.heap.size + 1, 4, none⟩ = false := by simp [World.frozen?, hob]); (have m5 : w1.cell? ⟨w.heap.size + 1, 5, none⟩ = some (.int .i64 0) := by simp [World.cell?, hob]); (have f5 : w1.frozen? ⟨w.heap.size + 1, 5, none⟩ = false := by simp [World.frozen?, hob]); obtain ⟨x0c, x1c, x2c, x3c, x4c, x5c⟩ := HC.out w1 B1.out; simp only [Nat.add_zero] at x0c; clear b1 CI hob hbw)
    have hfin : Below w.heap.size w (setJb w1 (w.heap.size + 1) (.int .u64 (x0 : Int)) (.int .u64 (x1 : Int)) (.string (S x2)) (.int .i64 x3) (.string (S x4)) (.int .i64 x5)) := B1.out.trans ((setJb_ch w1 (w.heap.size + 1) (.int .u64 (x0 : Int)) (.int .u64 (x1 : Int)) (.string (S x2)) (.int .i64 x3) (.string (S x4)) (.int .i64 x5)).below B1.out.size (fun g hg e => by omega))
    refine bodyPost_ret (ret_two rfl _ _ (w.heap.size + 1) 46 #[.int .u64 (x0 : Int), .int .u64 (x1 : Int), .string (S x2), .int .i64 x3, .string (S x4), .int .i64 x5] (0, 0) _ rfl (setJb_obj (W := w1) (.int .u64 (x0 : Int)) (.int .u64 (x1 : Int)) (.string (S x2)) (.int .i64 x3) (.string (S x4)) (.int .i64 x5) HO.out) Tryz.underlying46 rfl sizeJb) rfl ?_
    exact ⟨rfl, hfin⟩
end Go.Proofs.YthmfcloecmnfnaaGreat.f13

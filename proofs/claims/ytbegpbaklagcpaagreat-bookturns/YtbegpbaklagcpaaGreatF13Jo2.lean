/-
  Package fold's Job.
-/
import Derived.Test.YtbegpbaklagcpaaGreatF13Jo1
namespace Go.Proofs.YtbegpbaklagcpaaGreat.f13
open Go.RowKit Go.Shelf Go.Sort
open Go.Lib hiding intOf

set_option maxHeartbeats 2000000 in
set_option maxRecDepth 100000 in
theorem Job_any {w : World} {s : St} (key : Nat) (h : Sv w s) (hn : s.jobs.length ≤ 4611686018427387904) :
    Calls Tryz.prog 67 #[.agg s.c.toArray, .int .u64 (key : Int)] w fun e w' => e = .returned (.tuple #[.agg (Jb.c (fstJb (fun x => x.kk == key) s.jobs).1).toArray, .bool (fstJb (fun x => x.kk == key) s.jobs).2]) ∧ Below w.heap.size w w' := by
  obtain ⟨pos, done, made, vDe, procs, vIn, insts, vTk, tokens, vJb, jobs, vTm, timers, vSb, subs, vKp, kept, vLs, listed, vMs, msgs⟩ := s
  obtain ⟨aDe, cDe, hs, -⟩ := id h.rDe
  simp only at hs
  subst hs
  obtain ⟨aIn, cIn, hs, -⟩ := id h.rIn
  simp only at hs
  subst hs
  obtain ⟨aTk, cTk, hs, -⟩ := id h.rTk
  simp only at hs
  subst hs
  obtain ⟨aJb, cJb, hs, -⟩ := id h.rJb
  simp only at hs
  subst hs
  obtain ⟨aTm, cTm, hs, -⟩ := id h.rTm
  simp only at hs
  subst hs
  obtain ⟨aSb, cSb, hs, -⟩ := id h.rSb
  simp only at hs
  subst hs
  obtain ⟨aKp, cKp, hs, -⟩ := id h.rKp
  simp only at hs
  subst hs
  obtain ⟨aLs, cLs, hs, -⟩ := id h.rLs
  simp only at hs
  subst hs
  obtain ⟨aMs, cMs, hs, -⟩ := id h.rMs
  simp only at hs
  subst hs
  simp only [St.c] at hn ⊢
  have hb0 : Below w.heap.size w ((w.alloc (.cells #[.int .u64 (pos : Int), .int .u64 (done : Int), .int .u64 (made : Int), .slice aDe procs.length cDe, .slice aIn insts.length cIn, .slice aTk tokens.length cTk, .slice aJb jobs.length cJb, .slice aTm timers.length cTm, .slice aSb subs.length cSb, .slice aKp kept.length cKp, .slice aLs listed.length cLs, .slice aMs msgs.length cMs] 33)).alloc (.cells #[.int .u64 0, .int .u64 0, .string ⟨#[]⟩, .int .i64 0, .string ⟨#[]⟩, .int .i64 0] 70)) := ((Below.refl _ w).alloc (Nat.le_refl _) _).alloc (by simp) _
  have hrt := h.rJb
  simp only at hrt
  have ekO : Ent0 114 := enters_of Tryz.func114 (by kernel_rfl) rfl
  have CF : Hid (∀ W caps, Below w.heap.size w W → (∀ x : Jb, Say (fun _ => False) W 114 caps #[.agg (Jb.c x).toArray] (x.kk == key)) → Calls Tryz.prog 74 #[.slice aJb jobs.length cJb, .func (.func 114) #[] caps] W fun e w' => e = .returned (.tuple #[.agg (Jb.c (fstJb (fun x => x.kk == key) jobs).1).toArray, .bool (fstJb (fun x => x.kk == key) jobs).2]) ∧ Below W.heap.size W w') := fun W caps hW hs => firstJb_any (X := fun _ => False) (fun x => x.kk == key) (hrt.up hW) hn ekO (fun x _ => hs x)
  have CO := fun W => ofJb_any key W
  have HS : Hid (∀ W, Below ((w.alloc (.cells #[.int .u64 (pos : Int), .int .u64 (done : Int), .int .u64 (made : Int), .slice aDe procs.length cDe, .slice aIn insts.length cIn, .slice aTk tokens.length cTk, .slice aJb jobs.length cJb, .slice aTm timers.length cTm, .slice aSb subs.length cSb, .slice aKp kept.length cKp, .slice aLs listed.length cLs, .slice aMs msgs.length cMs] 33)).alloc (.cells #[.int .u64 0, .int .u64 0, .string ⟨#[]⟩, .int .i64 0, .string ⟨#[]⟩, .int .i64 0] 70)).heap.size ((w.alloc (.cells #[.int .u64 (pos : Int), .int .u64 (done : Int), .int .u64 (made : Int), .slice aDe procs.length cDe, .slice aIn insts.length cIn, .slice aTk tokens.length cTk, .slice aJb jobs.length cJb, .slice aTm timers.length cTm, .slice aSb subs.length cSb, .slice aKp kept.length cKp, .slice aLs listed.length cLs, .slice aMs msgs.length cMs] 33)).alloc (.cells #[.int .u64 0, .int .u64 0, .string ⟨#[]⟩, .int .i64 0, .string ⟨#[]⟩, .int .i64 0] 70)) W → W.cell? ⟨w.heap.size, 6, none⟩ = some (.slice aJb jobs.length cJb) ∧ W.heap[w.heap.size + 1]? = some (.cells #[.int .u64 0, .int .u64 0, .string ⟨#[]⟩, .int .i64 0, .string ⟨#[]⟩, .int .i64 0] 70 (0, 0)) ∧ Below w.heap.size w W ∧ w.heap.size + 1 < W.heap.size) := by
    intro W hW
    have e0 : ((w.alloc (.cells #[.int .u64 (pos : Int), .int .u64 (done : Int), .int .u64 (made : Int), .slice aDe procs.length cDe, .slice aIn insts.length cIn, .slice aTk tokens.length cTk, .slice aJb jobs.length cJb, .slice aTm timers.length cTm, .slice aSb subs.length cSb, .slice aKp kept.length cKp, .slice aLs listed.length cLs, .slice aMs msgs.length cMs] 33)).alloc (.cells #[.int .u64 0, .int .u64 0, .string ⟨#[]⟩, .int .i64 0, .string ⟨#[]⟩, .int .i64 0] 70)).heap.size = w.heap.size + 2 := by simp
    have hWs := hW.size
    rw [e0] at hW hWs
    refine ⟨(hW.cell (p := ⟨w.heap.size, 6, none⟩) (by simp only; omega)).trans (by go_simp), (hW.block _ (by omega)).trans ?_, hb0.trans (hW.mono (by omega)), by omega⟩
    have := heap_alloc_new (w.alloc (.cells #[.int .u64 (pos : Int), .int .u64 (done : Int), .int .u64 (made : Int), .slice aDe procs.length cDe, .slice aIn insts.length cIn, .slice aTk tokens.length cTk, .slice aJb jobs.length cJb, .slice aTm timers.length cTm, .slice aSb subs.length cSb, .slice aKp kept.length cKp, .slice aLs listed.length cLs, .slice aMs msgs.length cMs] 33)) (.cells #[.int .u64 0, .int .u64 0, .string ⟨#[]⟩, .int .i64 0, .string ⟨#[]⟩, .int .i64 0] 70)
    rw [World.size_alloc] at this
    exact this
  simp only [kU] at CO
  generalize fstJb (fun x => x.kk == key) jobs = p at *
  obtain ⟨⟨x0, x1, x2, x3, x4, x5⟩, b⟩ := p
  simp only [Jb.c] at CF ⊢
  obtain ⟨m5, -⟩ := HS.out _ (Below.refl _ _)
  clear h hb0 hrt ekO
  go_enter Tryz.func67, Tryz.ntmps67
  go_wp2
  generalize ((w.alloc (.cells #[.int .u64 (pos : Int), .int .u64 (done : Int), .int .u64 (made : Int), .slice aDe procs.length cDe, .slice aIn insts.length cIn, .slice aTk tokens.length cTk, .slice aJb jobs.length cJb, .slice aTm timers.length cTm, .slice aSb subs.length cSb, .slice aKp kept.length cKp, .slice aLs listed.length cLs, .slice aMs msgs.length cMs] 33)).alloc (.cells #[.int .u64 0, .int .u64 0, .string ⟨#[]⟩, .int .i64 0, .string ⟨#[]⟩, .int .i64 0] 70)) = W1 at *
  go_region_with (first
    | (go_at_call 75; refine (CO _).mono ?_; rintro e w1 ⟨caps, rfl, hsay, hb1⟩; (have hX : Below W1.heap.size W1 w1 := (Below.refl _ W1).drew.trans (hb1.mono (Nat.le_refl _))); obtain ⟨n5, -, hbw, -⟩ := HS.out w1 hX; (have CA := CF.out w1 caps hbw (fun x => hsay (fun _ => False) (fun _ e => e.elim) x)); (have BX : Hid (Below W1.heap.size W1 w1) := hX); clear hsay hb1 CO CF hbw hX)
    | (go_at_call 74; refine CA.mono ?_; rintro e w2 ⟨rfl, hb2⟩; obtain ⟨-, hob, hbw2, hl2⟩ := HS.out w2 (bel_of BX.out hb2 (Nat.le_refl _)); (have f0 : w2.frozen? ⟨w.heap.size + 1, 0, none⟩ = false := by simp [World.frozen?, hob]); (have o0 : w2.cell? ⟨w.heap.size + 1, 0, none⟩ = some (.int .u64 0) := by simp [World.cell?, hob]); (have f1 : w2.frozen? ⟨w.heap.size + 1, 1, none⟩ = false := by simp [World.frozen?, hob]); (have o1 : w2.cell? ⟨w.heap.size + 1, 1, none⟩ = some (.int .u64 0) := by simp [World.cell?, hob]); (have f2 : w2.frozen? ⟨w.heap.size + 1, 2, none⟩ = false := by simp [World.frozen?, hob]); (have o2 : w2.cell? ⟨w.heap.size + 1, 2, none⟩ = some (.string ⟨#[]⟩) := by simp [World.cell?, hob]); (have f3 : w2.frozen? ⟨w.heap.size + 1, 3, none⟩ = false := by simp [World.frozen?, hob]); (have o3 : w2.cell? ⟨w.heap.size + 1, 3, none⟩ = some (.int .i64 0) := by simp [World.cell?, hob]); (have f4 : w2.frozen? ⟨w.heap.size + 1, 4, none⟩ = false := by simp [World.frozen?, hob]); (have o4 : w2.cell? ⟨w.heap.size + 1, 4, none⟩ = some (.string ⟨#[]⟩) := by simp [World.cell?, hob]); (have f5 : w2.frozen? ⟨w.heap.size + 1, 5, none⟩ = false := by simp [World.frozen?, hob]); (have o5 : w2.cell? ⟨w.heap.size + 1, 5, none⟩ = some (.int .i64 0) := by simp [World.cell?, hob]); (have HO : Hid _ := hob); (have HB : Hid (Below w.heap.size w w2) := hbw2); clear hob hbw2 hb2 CA))
  all_goals
    go_wp2
    have hfin : Below w.heap.size w (setJb w2 (w.heap.size + 1) (.int .u64 (x0 : Int)) (.int .u64 (x1 : Int)) (.string (S x2)) (.int .i64 x3) (.string (S x4)) (.int .i64 x5)) := HB.out.trans ((setJb_ch w2 (w.heap.size + 1) (.int .u64 (x0 : Int)) (.int .u64 (x1 : Int)) (.string (S x2)) (.int .i64 x3) (.string (S x4)) (.int .i64 x5)).below HB.out.size (fun g hg e => by omega))
    refine bodyPost_ret (ret_two rfl _ _ (w.heap.size + 1) 70 #[.int .u64 (x0 : Int), .int .u64 (x1 : Int), .string (S x2), .int .i64 x3, .string (S x4), .int .i64 x5] (0, 0) _ rfl (setJb_obj (W := w2) (.int .u64 (x0 : Int)) (.int .u64 (x1 : Int)) (.string (S x2)) (.int .i64 x3) (.string (S x4)) (.int .i64 x5) HO.out) Tryz.underlying70 rfl sizeJb) rfl ?_
    exact ⟨rfl, hfin⟩
end Go.Proofs.YtbegpbaklagcpaaGreat.f13

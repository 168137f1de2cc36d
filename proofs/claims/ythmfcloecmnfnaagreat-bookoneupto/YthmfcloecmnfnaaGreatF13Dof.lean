/-
  The document's tokenOf, jobOf, instOf, messageOf: the place of the first element of a key.
-/
import Derived.Test.YthmfcloecmnfnaaGreatF13Ix
namespace Go.Proofs.YthmfcloecmnfnaaGreat.f13
open Go.RowKit Go.Shelf Go.Sort
open Go.Lib hiding intOf

set_option maxHeartbeats 2000000 in
set_option maxRecDepth 100000 in
theorem djobOf_any {w : World} {s : St} (key : Nat) (h : Sv w s) (hn : s.jobs.length ≤ 4611686018427387904) :
    Calls Tryz.prog 28 #[.agg s.c.toArray, .int .u64 (key : Int)] w fun e w' => e = .returned (.int .i64 (fix (fun x => x.kk == key) s.jobs)) ∧ Below w.heap.size w w' := by
  obtain ⟨pos, done, made, vDe, procs, vIn, insts, vTk, tokens, vJb, jobs, vTm, timers, vSb, subs, vKp, kept, vLs, listed, vMs, msgs⟩ := s
  obtain ⟨aDe, cDe, hs, -⟩ := id h.rDe
  simp only at hs
  subst hs
  obtain ⟨aIn, cIn, hs, -⟩ := id h.rIn
  simp only at hs
  subst hs
  obtain ⟨aTk, cTk, hs, -⟩ := id h.rTk
  simp only at hs
  subst hs
  obtain ⟨aJb, cJb, hs, -⟩ := id h.rJb
  simp only at hs
  subst hs
  obtain ⟨aTm, cTm, hs, -⟩ := id h.rTm
  simp only at hs
  subst hs
  obtain ⟨aSb, cSb, hs, -⟩ := id h.rSb
  simp only at hs
  subst hs
  obtain ⟨aKp, cKp, hs, -⟩ := id h.rKp
  simp only at hs
  subst hs
  obtain ⟨aLs, cLs, hs, -⟩ := id h.rLs
  simp only at hs
  subst hs
  obtain ⟨aMs, cMs, hs, -⟩ := id h.rMs
  simp only at hs
  subst hs
  simp only [St.c] at hn ⊢
  have hb0 : Below w.heap.size w (w.alloc (.cells #[.int .u64 (pos : Int), .int .u64 (done : Int), .int .u64 (made : Int), .slice aDe procs.length cDe, .slice aIn insts.length cIn, .slice aTk tokens.length cTk, .slice aJb jobs.length cJb, .slice aTm timers.length cTm, .slice aSb subs.length cSb, .slice aKp kept.length cKp, .slice aLs listed.length cLs, .slice aMs msgs.length cMs] 33)) := (Below.refl _ w).alloc (Nat.le_refl _) _
  have HV : Hid (Rr 6 Jb.c (w.alloc (.cells #[.int .u64 (pos : Int), .int .u64 (done : Int), .int .u64 (made : Int), .slice aDe procs.length cDe, .slice aIn insts.length cIn, .slice aTk tokens.length cTk, .slice aJb jobs.length cJb, .slice aTm timers.length cTm, .slice aSb subs.length cSb, .slice aKp kept.length cKp, .slice aLs listed.length cLs, .slice aMs msgs.length cMs] 33)) (.slice aJb jobs.length cJb) jobs) := h.rJb.up hb0
  have HB : Hid (Below w.heap.size w (w.alloc (.cells #[.int .u64 (pos : Int), .int .u64 (done : Int), .int .u64 (made : Int), .slice aDe procs.length cDe, .slice aIn insts.length cIn, .slice aTk tokens.length cTk, .slice aJb jobs.length cJb, .slice aTm timers.length cTm, .slice aSb subs.length cSb, .slice aKp kept.length cKp, .slice aLs listed.length cLs, .slice aMs msgs.length cMs] 33))) := hb0
  have hm : (w.alloc (.cells #[.int .u64 (pos : Int), .int .u64 (done : Int), .int .u64 (made : Int), .slice aDe procs.length cDe, .slice aIn insts.length cIn, .slice aTk tokens.length cTk, .slice aJb jobs.length cJb, .slice aTm timers.length cTm, .slice aSb subs.length cSb, .slice aKp kept.length cKp, .slice aLs listed.length cLs, .slice aMs msgs.length cMs] 33)).cell? ⟨w.heap.size, 6, none⟩ = some (.slice aJb jobs.length cJb) := World.cell?_alloc_new _ _ _ _
  clear h hb0
  go_enter Tryz.func28, Tryz.ntmps28
  go_wp2
  generalize (w.alloc (.cells #[.int .u64 (pos : Int), .int .u64 (done : Int), .int .u64 (made : Int), .slice aDe procs.length cDe, .slice aIn insts.length cIn, .slice aTk tokens.length cTk, .slice aJb jobs.length cJb, .slice aTm timers.length cTm, .slice aSb subs.length cSb, .slice aKp kept.length cKp, .slice aLs listed.length cLs, .slice aMs msgs.length cMs] 33)) = W1 at *
  go_loopw [5] (fun v5 wr => ∃ j : Nat, v5 = .int .i64 (j : Int) ∧ j ≤ jobs.length ∧ wr = W1 ∧ Hid (∀ (i : Nat) (hi : i < j) (hl : i < jobs.length), (jobs[i].kk == key) = false)) (fun v5 _ => jobs.length - (intOf v5).toNat)
  case atStart => exact ⟨0, rfl, Nat.zero_le _, rfl, fun i hi => by omega⟩
  case round =>
    obtain ⟨j, rfl, hj, rfl, HP⟩ := hrel
    by_cases hjl : j < jobs.length
    · have hjl' : (j : Int) < (jobs.length : Int) := by omega
      have hj0 : (0 : Int) ≤ (j : Int) := by omega
      obtain ⟨b', off, cap', hsl, -, hbl, hcell⟩ := HV.out.at hjl
      obtain ⟨rfl, rfl⟩ : aJb = some ⟨b', off, none⟩ ∧ cJb = cap' := by injection hsl with e1 _ e2; exact ⟨e1, e2⟩
      have m0 := hcell wr (Below.refl _ _) j hjl 0 _ rfl
      simp only [Nat.add_zero] at m0
      have HKK : Hid (jobs[j].kk = jobs[j].key) := rfl
      by_cases hx : jobs[j].key = key
      · have HE : Hid (fix (fun x => x.kk == key) jobs = (j : Int)) := by
          show _ = _
          unfold fix
          rw [findIdx_next hjl (fun i hi => HP.out i hi (by omega)) (by show (jobs[j].kk == key) = true; rw [HKK.out, hx]; simp)]
        rw [hx] at m0
        clear hcell hsl HKK hx
        go_wp2
        go_ret
        rw [HE.out]
        exact ⟨rfl, HB.out⟩
      · have HP' : Hid (∀ (i : Nat) (hi : i < j + 1) (hl : i < jobs.length), (jobs[i].kk == key) = false) := fun i hi hl => by
          by_cases e : i = j
          · subst e; show (jobs[i].key == key) = false; simpa using hx
          · exact HP.out i (by omega) hl
        have hx' : ((jobs[j].key : Int) == (key : Int)) = false := beq_eq_false_iff_ne.2 (by omega)
        have hx2 : ¬ (jobs[j].key : Int) = (key : Int) := by omega
        clear hcell hsl HKK hx HP
        generalize jobs[j].key = y at *
        go_wp2
        go_roundw
        case rel => exact ⟨j + 1, by simp, by omega, by trivial, HP'.out⟩
        case measure => simp [intOf]; omega
    · have hjl' : ¬ (j : Int) < (jobs.length : Int) := by omega
      have HE : Hid (fix (fun x => x.kk == key) jobs = -1) := by
        show _ = _
        unfold fix
        rw [findIdx_none (fun i hi => HP.out i (by omega) hi)]
      go_wp2
      go_ret
      rw [HE.out]
      exact ⟨rfl, HB.out⟩

end Go.Proofs.YthmfcloecmnfnaaGreat.f13

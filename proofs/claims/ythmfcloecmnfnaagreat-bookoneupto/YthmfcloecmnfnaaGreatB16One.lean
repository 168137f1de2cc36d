/-
  Law 16's one: does a key stand once among the jobs?
-/
import Derived.Test.YthmfcloecmnfnaaGreatB16Rdy
import Derived.Test.YthmfcloecmnfnaaGreatF13Ix
namespace Go.Proofs.YthmfcloecmnfnaaGreat.f13
open Go.RowKit Go.Shelf Go.Sort
open Go.Lib hiding intOf

/-- how many of the first ones have the key -/
def cntJ (key : Nat) (l : List Jb) (i : Nat) : Nat := ((l.take i).filter (fun x => x.key == key)).length
theorem beq_one (n : Nat) : ((n : Int) == 1) = decide (n = 1) := by
  by_cases h : n = 1
  · subst h; rfl
  · have : ¬ (n : Int) = 1 := by omega
    simp [h, this]
theorem cntJ_le (key : Nat) (l : List Jb) (i : Nat) : cntJ key l i ≤ i := by
  unfold cntJ
  refine Nat.le_trans (List.length_filter_le _ _) ?_
  rw [List.length_take]; omega
theorem cntJ_succ {key : Nat} {l : List Jb} {i : Nat} (h : i < l.length) : cntJ key l (i + 1) = cntJ key l i + if l[i].key = key then 1 else 0 := by
  unfold cntJ
  rw [List.take_succ_eq_append_getElem h, List.filter_append, List.length_append]
  congr 1
  by_cases e : l[i].key = key <;> simp [e]
theorem cntJ_yes {key : Nat} {l : List Jb} {i : Nat} (h : i < l.length) (e : l[i].key = key) : cntJ key l (i + 1) = cntJ key l i + 1 := by rw [cntJ_succ h, if_pos e]
theorem cntJ_no {key : Nat} {l : List Jb} {i : Nat} (h : i < l.length) (e : ¬ l[i].key = key) : cntJ key l (i + 1) = cntJ key l i := by rw [cntJ_succ h, if_neg e]; rfl
set_option maxHeartbeats 2000000 in
set_option maxRecDepth 100000 in
theorem one_any {w : World} {s : St} (key : Nat) (h : Sv w s) (hn : s.jobs.length ≤ 4611686018427387904) :
    Calls Tryz.prog 16 #[.agg s.c.toArray, .int .u64 (key : Int)] w fun e w' => e = .returned (.bool (decide (cntJ key s.jobs s.jobs.length = 1))) ∧ Below w.heap.size w w' := by
  obtain ⟨pos, done, made, vDe, procs, vIn, insts, vTk, tokens, vJb, jobs, vTm, timers, vSb, subs, vKp, kept, vLs, listed, vMs, msgs⟩ := s
  obtain ⟨aDe, cDe, hs, -⟩ := id h.rDe
  simp only at hs
  subst hs
  obtain ⟨aIn, cIn, hs, -⟩ := id h.rIn
  simp only at hs
  subst hs
  obtain ⟨aTk, cTk, hs, -⟩ := id h.rTk
  simp only at hs
  subst hs
  obtain ⟨aJb, cJb, hs, -⟩ := id h.rJb
  simp only at hs
  subst hs
  obtain ⟨aTm, cTm, hs, -⟩ := id h.rTm
  simp only at hs
  subst hs
  obtain ⟨aSb, cSb, hs, -⟩ := id h.rSb
  simp only at hs
  subst hs
  obtain ⟨aKp, cKp, hs, -⟩ := id h.rKp
  simp only at hs
  subst hs
  obtain ⟨aLs, cLs, hs, -⟩ := id h.rLs
  simp only at hs
  subst hs
  obtain ⟨aMs, cMs, hs, -⟩ := id h.rMs
  simp only at hs
  subst hs
  simp only [St.c] at hn ⊢
  have hb0 : Below w.heap.size w (w.alloc (.cells #[.int .u64 (pos : Int), .int .u64 (done : Int), .int .u64 (made : Int), .slice aDe procs.length cDe, .slice aIn insts.length cIn, .slice aTk tokens.length cTk, .slice aJb jobs.length cJb, .slice aTm timers.length cTm, .slice aSb subs.length cSb, .slice aKp kept.length cKp, .slice aLs listed.length cLs, .slice aMs msgs.length cMs] 33)) := (Below.refl _ w).alloc (Nat.le_refl _) _
  have HV : Hid (Rr 6 Jb.c (w.alloc (.cells #[.int .u64 (pos : Int), .int .u64 (done : Int), .int .u64 (made : Int), .slice aDe procs.length cDe, .slice aIn insts.length cIn, .slice aTk tokens.length cTk, .slice aJb jobs.length cJb, .slice aTm timers.length cTm, .slice aSb subs.length cSb, .slice aKp kept.length cKp, .slice aLs listed.length cLs, .slice aMs msgs.length cMs] 33)) (.slice aJb jobs.length cJb) jobs) := h.rJb.up hb0
  have HB : Hid (Below w.heap.size w (w.alloc (.cells #[.int .u64 (pos : Int), .int .u64 (done : Int), .int .u64 (made : Int), .slice aDe procs.length cDe, .slice aIn insts.length cIn, .slice aTk tokens.length cTk, .slice aJb jobs.length cJb, .slice aTm timers.length cTm, .slice aSb subs.length cSb, .slice aKp kept.length cKp, .slice aLs listed.length cLs, .slice aMs msgs.length cMs] 33))) := hb0
  have hm : (w.alloc (.cells #[.int .u64 (pos : Int), .int .u64 (done : Int), .int .u64 (made : Int), .slice aDe procs.length cDe, .slice aIn insts.length cIn, .slice aTk tokens.length cTk, .slice aJb jobs.length cJb, .slice aTm timers.length cTm, .slice aSb subs.length cSb, .slice aKp kept.length cKp, .slice aLs listed.length cLs, .slice aMs msgs.length cMs] 33)).cell? ⟨w.heap.size, 6, none⟩ = some (.slice aJb jobs.length cJb) := World.cell?_alloc_new _ _ _ _
  clear h hb0
  go_enter Tryz.func16, Tryz.ntmps16
  go_wp2
  generalize (w.alloc (.cells #[.int .u64 (pos : Int), .int .u64 (done : Int), .int .u64 (made : Int), .slice aDe procs.length cDe, .slice aIn insts.length cIn, .slice aTk tokens.length cTk, .slice aJb jobs.length cJb, .slice aTm timers.length cTm, .slice aSb subs.length cSb, .slice aKp kept.length cKp, .slice aLs listed.length cLs, .slice aMs msgs.length cMs] 33)) = W1 at *
  go_loopw [5, 6] (fun v5 v6 wr => ∃ j : Nat, v6 = .int .i64 (j : Int) ∧ v5 = .int .i64 (cntJ key jobs j : Int) ∧ j ≤ jobs.length ∧ wr = W1) (fun _ v6 _ => jobs.length - (intOf v6).toNat)
  case atStart => exact ⟨0, rfl, rfl, Nat.zero_le _, rfl⟩
  case round =>
    obtain ⟨j, rfl, rfl, hj, rfl⟩ := hrel
    have hcj := cntJ_le key jobs j
    by_cases hjl : j < jobs.length
    · have hjl' : (j : Int) < (jobs.length : Int) := by omega
      have hj0 : (0 : Int) ≤ (j : Int) := by omega
      obtain ⟨b', off, cap', hsl, -, hbl, hcell⟩ := HV.out.at hjl
      obtain ⟨rfl, rfl⟩ : aJb = some ⟨b', off, none⟩ ∧ cJb = cap' := by injection hsl with e1 _ e2; exact ⟨e1, e2⟩
      have m0 := hcell wr (Below.refl _ _) j hjl 0 _ rfl
      simp only [Nat.add_zero] at m0
      by_cases hx : jobs[j].key = key
      · have HE : Hid (cntJ key jobs (j + 1) = cntJ key jobs j + 1) := cntJ_yes hjl hx
        rw [hx] at m0
        clear hcell hsl hx
        go_wp2
        go_roundw
        case rel => exact ⟨j + 1, by simp, by rw [HE.out]; simp, by omega, by trivial⟩
        case measure => simp [intOf]; omega
      · have HE : Hid (cntJ key jobs (j + 1) = cntJ key jobs j) := cntJ_no hjl hx
        have hx' : ((jobs[j].key : Int) == (key : Int)) = false := beq_eq_false_iff_ne.2 (by omega)
        have hx2 : ¬ (jobs[j].key : Int) = (key : Int) := by omega
        clear hcell hsl hx
        generalize jobs[j].key = y at *
        go_wp2
        go_roundw
        case rel => exact ⟨j + 1, by simp, by rw [HE.out], by omega, by trivial⟩
        case measure => simp [intOf]; omega
    · have hjl' : ¬ (j : Int) < (jobs.length : Int) := by omega
      obtain rfl : j = jobs.length := by omega
      go_wp2
      go_ret
      exact ⟨by rw [beq_one]; rfl, HB.out⟩
end Go.Proofs.YthmfcloecmnfnaaGreat.f13

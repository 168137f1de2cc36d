/-
  The document's Ready: the places.
-/
import Derived.Test.YtajnjeipcbmlhaaGreatB16Rng
import Derived.Test.YtajnjeipcbmlhaaGreatF13Ix
namespace Go.Proofs.YtajnjeipcbmlhaaGreat.f13
open Go.RowKit Go.Shelf Go.Sort
open Go.Lib hiding intOf

theorem infoI : (Tryz.prog.info? 3).map (fun i => (i.zero, i.size, i.bytes)) = some (some (.int .i64 0), 1, 8) := by kernel_rfl
theorem fitsI {n m : Nat} (h : n ≤ m) (h2 : m * 64 ≤ 211106232528000) : (n + n / 4 + 192) * 8 ≤ 281474976710656 := by omega
theorem rdyT_len (kind : List UInt8) (l : List Jb) (i : Nat) : (rdyT kind l i).length ≤ i := by
  unfold rdyT
  refine Nat.le_trans (List.length_filter_le _ _) ?_
  rw [List.length_zipIdx, List.length_take]; omega
set_option maxRecDepth 100000 in
/-- a place more behind those that are there -/
theorem place_run {W : World} {B n m : Nat} {ga : Option Addr} {gc : Nat} {xs : List Value} (i : Int) (h : W.ownsRow B 3 1 (.slice ga n gc) n xs) (hn : n + 1 ≤ m) (hm : m * 64 ≤ 211106232528000) (hB : B ≤ W.heap.size) :
    ∃ a9 c9 w9, (Builtin.append_ #[50, 50] 50 #[.slice ga n gc, .slice (some ⟨W.heap.size, 0, none⟩) 1 1]).run Tryz.prog (W.alloc (.cells #[.int .i64 i] 3)) = .ok (.slice a9 (n + 1) c9) w9 ∧ w9.ownsRow B 3 1 (.slice a9 (n + 1) c9) (n + 1) (xs ++ [.int .i64 i]) ∧ (∀ D, D ≤ B → Below D W w9) := by
  obtain ⟨i9, hi9, hz0, hz1, hz2⟩ := info_parts infoI
  have hW' : Below W.heap.size W (W.alloc (.cells #[.int .i64 i] 3)) := (Below.refl _ W).alloc (Nat.le_refl _) _
  have r1 := (Ch.of_below (X := fun _ => False) hW').row (row_zero h) (fun _ _ e => e)
  obtain ⟨gg, cap, w', hrun, r4, g4, h4, -⟩ := run_append_where (P := Tryz.prog) (W.alloc (.cells #[.int .i64 i] 3)) 50 50 3 i9 _ 1 8 Tryz.underlying50 hi9 hz0 hz1 hz2 rfl (by decide) _ _ _ r1 ⟨W.heap.size, 0, none⟩ 1 1 [.int .i64 i] rfl
      (fun j u hj => by
        rw [Addr.add_lit, Nat.zero_add]
        exact (World.cell?_alloc_new W #[.int .i64 i] _ j).trans (by simpa using hj)) (by intro u hu; simp at hu; subst hu; rfl) (by decide) (by unfold maxLen; omega) (fitsI (m := m) (by omega) hm)
  have hwh : ∀ b, (Value.slice (some ⟨gg, 0, none⟩) (n + 1) cap).ownBlock = some b → (Value.slice ga n gc).ownBlock = some b ∨ W.heap.size ≤ b := fun b hb => by
    obtain rfl : gg = b := by simpa [Value.ownBlock] using hb
    rcases h4 with h4 | h4
    · exact .inl h4
    · right; have := hW'.size; omega
  refine ⟨_, cap, w', hrun, row_base r4 (fun b hb => (hwh b hb).elim (fun e => (h.lt b e).1) (fun e => by omega)), fun D hD => ?_⟩
  exact Ch.below (X := fun b => (Value.slice ga n gc).ownBlock = some b) ((Ch.of_below hW').trans (Ch.of_grown g4 (fun b hb _ => hb))) (by omega) (fun k hk e => by have := (h.lt k e).1; omega)
set_option maxHeartbeats 4000000 in
set_option maxRecDepth 100000 in
theorem dReady_any {w : World} {s : St} (kind : List UInt8) (h : Sv w s) (hn : s.jobs.length * 64 ≤ 211106232528000) :
    Calls Tryz.prog 11 #[.agg s.c.toArray, .string (S kind)] w fun e w' => ∃ gv, e = .returned gv ∧ w'.ownsRow w.heap.size 3 1 gv (rdyT kind s.jobs s.jobs.length).length ((rdyT kind s.jobs s.jobs.length).map (fun p => Value.int .i64 (p.2 : Int))) ∧ Below w.heap.size w w' := by
  obtain ⟨pos, done, made, vDe, procs, vIn, insts, vTk, tokens, vJb, jobs, vTm, timers, vSb, subs, vKp, kept, vLs, listed, vMs, msgs⟩ := s
  obtain ⟨aDe, cDe, hs, -⟩ := id h.rDe
  simp only at hs
  subst hs
  obtain ⟨aIn, cIn, hs, -⟩ := id h.rIn
  simp only at hs
  subst hs
  obtain ⟨aTk, cTk, hs, -⟩ := id h.rTk
  simp only at hs
  subst hs
  obtain ⟨aJb, cJb, hs, -⟩ := id h.rJb
  simp only at hs
  subst hs
  obtain ⟨aTm, cTm, hs, -⟩ := id h.rTm
  simp only at hs
  subst hs
  obtain ⟨aSb, cSb, hs, -⟩ := id h.rSb
  simp only at hs
  subst hs
  obtain ⟨aKp, cKp, hs, -⟩ := id h.rKp
  simp only at hs
  subst hs
  obtain ⟨aLs, cLs, hs, -⟩ := id h.rLs
  simp only at hs
  subst hs
  obtain ⟨aMs, cMs, hs, -⟩ := id h.rMs
  simp only at hs
  subst hs
  simp only [St.c] at hn ⊢
  have hb0 : Below w.heap.size w (w.alloc (.cells #[.int .u64 (pos : Int), .int .u64 (done : Int), .int .u64 (made : Int), .slice aDe procs.length cDe, .slice aIn insts.length cIn, .slice aTk tokens.length cTk, .slice aJb jobs.length cJb, .slice aTm timers.length cTm, .slice aSb subs.length cSb, .slice aKp kept.length cKp, .slice aLs listed.length cLs, .slice aMs msgs.length cMs] 33)) := (Below.refl _ w).alloc (Nat.le_refl _) _
  have HV : Hid (Rr 6 Jb.c (w.alloc (.cells #[.int .u64 (pos : Int), .int .u64 (done : Int), .int .u64 (made : Int), .slice aDe procs.length cDe, .slice aIn insts.length cIn, .slice aTk tokens.length cTk, .slice aJb jobs.length cJb, .slice aTm timers.length cTm, .slice aSb subs.length cSb, .slice aKp kept.length cKp, .slice aLs listed.length cLs, .slice aMs msgs.length cMs] 33)) (.slice aJb jobs.length cJb) jobs) := h.rJb.up hb0
  have HB : Hid (Below w.heap.size w (w.alloc (.cells #[.int .u64 (pos : Int), .int .u64 (done : Int), .int .u64 (made : Int), .slice aDe procs.length cDe, .slice aIn insts.length cIn, .slice aTk tokens.length cTk, .slice aJb jobs.length cJb, .slice aTm timers.length cTm, .slice aSb subs.length cSb, .slice aKp kept.length cKp, .slice aLs listed.length cLs, .slice aMs msgs.length cMs] 33))) := hb0
  have hm : (w.alloc (.cells #[.int .u64 (pos : Int), .int .u64 (done : Int), .int .u64 (made : Int), .slice aDe procs.length cDe, .slice aIn insts.length cIn, .slice aTk tokens.length cTk, .slice aJb jobs.length cJb, .slice aTm timers.length cTm, .slice aSb subs.length cSb, .slice aKp kept.length cKp, .slice aLs listed.length cLs, .slice aMs msgs.length cMs] 33)).cell? ⟨w.heap.size, 6, none⟩ = some (.slice aJb jobs.length cJb) := World.cell?_alloc_new _ _ _ _
  clear h hb0
  go_enter Tryz.func11, Tryz.ntmps11
  go_wp2
  generalize hW1 : (w.alloc (.cells #[.int .u64 (pos : Int), .int .u64 (done : Int), .int .u64 (made : Int), .slice aDe procs.length cDe, .slice aIn insts.length cIn, .slice aTk tokens.length cTk, .slice aJb jobs.length cJb, .slice aTm timers.length cTm, .slice aSb subs.length cSb, .slice aKp kept.length cKp, .slice aLs listed.length cLs, .slice aMs msgs.length cMs] 33)) = W1 at *
  have hs1 : W1.heap.size = w.heap.size + 1 := by rw [← hW1]; simp
  have HN : Hid (jobs.length * 64 ≤ 211106232528000) := hn
  have hsb : w.heap.size < W1.heap.size := by omega
  clear hW1
  go_loopw [5, 6] (fun v5 v6 wr => ∃ j : Nat, v6 = .int .i64 (j : Int) ∧ j ≤ jobs.length ∧ Below W1.heap.size W1 wr ∧ (∃ a c, v5 = .slice a (rdyT kind jobs j).length c) ∧ Hid (wr.ownsRow W1.heap.size 3 1 v5 (rdyT kind jobs j).length ((rdyT kind jobs j).map (fun p => Value.int .i64 (p.2 : Int))))) (fun _ v6 _ => jobs.length - (intOf v6).toNat)
  case atStart => exact ⟨0, rfl, Nat.zero_le _, Below.refl _ _, ⟨none, 0, rfl⟩, ⟨rfl, .inl ⟨rfl, rfl⟩⟩⟩
  case round =>
    obtain ⟨j, rfl, hj, hbw, ⟨a, c, rfl⟩, HO⟩ := hrel
    have hm2 : wr.cell? ⟨w.heap.size, 6, none⟩ = some (.slice aJb jobs.length cJb) := (hbw.cell (p := ⟨w.heap.size, 6, none⟩) hsb).trans hm
    by_cases hjl : j < jobs.length
    · have hjl' : (j : Int) < (jobs.length : Int) := by omega
      have hj0 : (0 : Int) ≤ (j : Int) := by omega
      obtain ⟨b', off, cap', hsl, -, hbl, hcell⟩ := HV.out.at hjl
      obtain ⟨rfl, rfl⟩ : aJb = some ⟨b', off, none⟩ ∧ cJb = cap' := by injection hsl with e1 _ e2; exact ⟨e1, e2⟩
      have hc := fun n u hu => hcell wr hbw j hjl n u hu
      have HQ : Hid (rdyq kind jobs[j] = true → rdyT kind jobs (j + 1) = rdyT kind jobs j ++ [(jobs[j], j)]) := fun h => rdyT_yes hjl h
      have HQ0 : Hid (rdyq kind jobs[j] = false → rdyT kind jobs (j + 1) = rdyT kind jobs j) := fun h => rdyT_no hjl h
      clear hcell hsl
      generalize jobs[j] = y at *
      obtain ⟨j0, j1, j2, j3, j4, j5⟩ := y
      simp only [Jb.c] at hc
      have m0 := hc 0 _ rfl
      have m1 := hc 1 _ rfl
      have m2 := hc 2 _ rfl
      have m3 := hc 3 _ rfl
      have m4 := hc 4 _ rfl
      have m5 := hc 5 _ rfl
      simp only [Nat.add_zero] at m0
      have hQ : rdyq kind ⟨j0, j1, j2, j3, j4, j5⟩ = (j2 == kind && (j4.isEmpty && decide (0 < j3))) := rfl
      have HBW : Hid (Below W1.heap.size W1 wr) := hbw
      clear hc hbw
      by_cases k1 : j2 = kind
      · subst k1
        by_cases k2 : j4 = []
        · have kb : ((S j4).toList == []) = true := by rw [k2]; simp [Lib.toList_data, S_data]
          by_cases k3 : 0 < j3
          · have hqq : rdyq j2 ⟨j0, j1, j2, j3, j4, j5⟩ = true := by rw [hQ]; simp [k2, k3]
            have HE := HQ.out hqq
            have hlen := rdyT_len j2 jobs j
            have hbA : Below wr.heap.size wr (wr.alloc (.cells #[.int .u64 (j0 : Int), .int .u64 (j1 : Int), .string (S j2), .int .i64 j3, .string (S j4), .int .i64 j5] 45)) := (Below.refl _ wr).alloc (Nat.le_refl _) _
            have hOA := (Ch.of_below (X := fun _ => False) hbA).row HO.out (fun _ _ e => e)
            obtain ⟨a9, c9, w9, hrun, hrow9, hbel9⟩ := place_run (m := jobs.length) (j : Int) hOA (by omega) HN.out (by have := HBW.out.size; have := hbA.size; omega)
            have HF : Hid (w9.ownsRow W1.heap.size 3 1 (.slice a9 (rdyT j2 jobs (j + 1)).length c9) (rdyT j2 jobs (j + 1)).length ((rdyT j2 jobs (j + 1)).map (fun p => Value.int .i64 (p.2 : Int))) ∧ Below W1.heap.size W1 w9 ∧ (rdyT j2 jobs (j + 1)).length = (rdyT j2 jobs j).length + 1) := by
              rw [HE, List.map_append, List.length_append]
              exact ⟨hrow9, (HBW.out.trans (hbA.mono HBW.out.size)).trans (hbel9 _ (Nat.le_refl _)), rfl⟩
            clear k2
            rw [World.size_alloc] at hrun
            clear hQ HQ HQ0 hqq HE hrow9 hbel9 hOA hbA hlen
            go_wp2_with (at_builtin; refine Lib.wpList_append_run _ rfl _ _ _ _ rfl _ _ rfl rfl _ _ hrun ?_)
            go_roundw
            case rel => exact ⟨j + 1, by simp, by omega, HF.out.2.1, ⟨a9, c9, by rw [HF.out.2.2]⟩, by rw [← HF.out.2.2]; exact HF.out.1⟩
            case measure => simp [intOf]; omega
          · have hqq : rdyq j2 ⟨j0, j1, j2, j3, j4, j5⟩ = false := by rw [hQ]; simp [k3]
            have HE : Hid (rdyT j2 jobs (j + 1) = rdyT j2 jobs j) := HQ0.out hqq
            have k3d : decide (0 < j3) = false := by simp [k3]
            clear k2
            clear hQ HQ hqq
            go_wp2
            go_roundw
            case rel => exact ⟨j + 1, by simp, by omega, (HBW.out.trans (((Below.refl _ wr).alloc (Nat.le_refl _) _).mono HBW.out.size)), ⟨a, c, by rw [HE.out]⟩, by rw [HE.out]; exact (Ch.of_below (X := fun _ => False) ((Below.refl _ wr).alloc (Nat.le_refl _) _)).row HO.out (fun _ _ e => e)⟩
            case measure => simp [intOf]; omega
        · have hqq : rdyq j2 ⟨j0, j1, j2, j3, j4, j5⟩ = false := by rw [hQ]; simp [k2]
          have HE : Hid (rdyT j2 jobs (j + 1) = rdyT j2 jobs j) := HQ0.out hqq
          have kb : ((S j4).toList == []) = false := by rw [beq_eq_false_iff_ne]; intro e; exact k2 (by simpa [Lib.toList_data, S_data] using e)
          have kc : ¬ j4 = [] := k2
          clear hQ HQ hqq
          go_wp2
          go_roundw
          case rel => exact ⟨j + 1, by simp, by omega, (HBW.out.trans (((Below.refl _ wr).alloc (Nat.le_refl _) _).mono HBW.out.size)), ⟨a, c, by rw [HE.out]⟩, by rw [HE.out]; exact (Ch.of_below (X := fun _ => False) ((Below.refl _ wr).alloc (Nat.le_refl _) _)).row HO.out (fun _ _ e => e)⟩
          case measure => simp [intOf]; omega
      · have hqq : rdyq kind ⟨j0, j1, j2, j3, j4, j5⟩ = false := by rw [hQ]; simp [k1]
        have HE : Hid (rdyT kind jobs (j + 1) = rdyT kind jobs j) := HQ0.out hqq
        have kb : ((S j2).toList == (S kind).toList) = false := by rw [beq_eq_false_iff_ne]; intro e; exact k1 (by simpa [Lib.toList_data, S_data] using e)
        clear hQ HQ hqq
        go_wp2
        go_roundw
        case rel => exact ⟨j + 1, by simp, by omega, (HBW.out.trans (((Below.refl _ wr).alloc (Nat.le_refl _) _).mono HBW.out.size)), ⟨a, c, by rw [HE.out]⟩, by rw [HE.out]; exact (Ch.of_below (X := fun _ => False) ((Below.refl _ wr).alloc (Nat.le_refl _) _)).row HO.out (fun _ _ e => e)⟩
        case measure => simp [intOf]; omega
    · have hjl' : ¬ (j : Int) < (jobs.length : Int) := by omega
      obtain rfl : j = jobs.length := by omega
      go_wp2
      go_ret
      exact ⟨_, rfl, row_low HO.out (by omega), HB.out.trans (hbw.mono (by omega))⟩
end Go.Proofs.YtajnjeipcbmlhaaGreat.f13

/-
  Package fold's Apply: of events, whose kind does something.
-/
import Derived.Test.YthmfcloecmnfnaaGreatF13Ap0
import Derived.Test.YthmfcloecmnfnaaGreatF13Map
namespace Go.Proofs.YthmfcloecmnfnaaGreat.f13
open Go.RowKit Go.Shelf Go.Sort
open Go.Lib hiding intOf

/-- where the result's cells lie, behind whatever keeps what is below B -/
theorem rb_kept {w W W' : World} (ho : W.heap[w.heap.size + 1 + 1]? = some (.cells zs.toArray 33 (0, 0))) (hb : Below (w.heap.size + 3) W W') : W'.heap[w.heap.size + 1 + 1]? = some (.cells zs.toArray 33 (0, 0)) ∧ (∀ (k : Nat) (x : Value), zs[k]? = some x → W'.cell? ⟨w.heap.size + 1 + 1, k, none⟩ = some x) ∧ ∀ k : Nat, W'.frozen? ⟨w.heap.size + 1 + 1, k, none⟩ = false := by
  have h1 := (hb.block (w.heap.size + 1 + 1) (by omega)).trans ho
  exact ⟨h1, fun k x hk => by simp [World.cell?, h1, hk], fun k => by simp [World.frozen?, h1]⟩
set_option maxHeartbeats 4000000 in
set_option maxRecDepth 100000 in
theorem Apply_event {w : World} {s : St} {r : Rc} {ps : Nat} (f : Nat) (F : St → Rc → St) (h : Sv w s) (hz : Sz s) (hr : Rr 4 Vr.c w r.vv r.v) (KC : r.cl = 2 ∧ (-9223372036854775808 ≤ r.kd ∧ r.kd ≤ 9223372036854775807)) (hf : effD.atKey (.int .i64 r.kd) (.lit (.int .i64 (-1))) = fD f) (hh : Go.Maps.has effD (.int .i64 r.kd) = true) (ek : Ent0 f)
    (hF : ∀ (B : Nat) (W : World) (sb : Nat) (t : St), Sx B W sb t → B ≤ W.heap.size → t.e = { s.e with pos := ps, done := max s.done r.fr } → Rr 4 Vr.c W r.vv r.v → Calls Tryz.prog f #[.pointer (some ⟨sb, 0, none⟩), .agg r.cs.toArray] W fun e w' => e = .returned (.tuple #[]) ∧ Eff B W sb (F t.e r) w') {T : St} (hT : T = F { s.e with pos := ps, done := max s.done r.fr } r) :
    Calls Tryz.prog 49 #[.agg s.c.toArray, .int .u64 (ps : Int), .agg r.cs.toArray] w (Apd w T) := by
  have HF : Hid _ := hF
  clear hF
  have hr0 := hr
  obtain ⟨ra, rp, hra, -⟩ := id hr
  obtain ⟨r0, r1, r2, r3, r4, r5, r6, r7, r8, r9, r10, r11, rvv, rv⟩ := r
  simp only at hra hr KC
  subst hra
  obtain ⟨pos, done, made, vDe, procs, vIn, insts, vTk, tokens, vJb, jobs, vTm, timers, vSb, subs, vKp, kept, vLs, listed, vMs, msgs⟩ := s
  obtain ⟨aDe, cDe, hs, -⟩ := id h.rDe
  simp only at hs
  subst hs
  obtain ⟨aIn, cIn, hs, -⟩ := id h.rIn
  simp only at hs
  subst hs
  obtain ⟨aTk, cTk, hs, -⟩ := id h.rTk
  simp only at hs
  subst hs
  obtain ⟨aJb, cJb, hs, -⟩ := id h.rJb
  simp only at hs
  subst hs
  obtain ⟨aTm, cTm, hs, -⟩ := id h.rTm
  simp only at hs
  subst hs
  obtain ⟨aSb, cSb, hs, -⟩ := id h.rSb
  simp only at hs
  subst hs
  obtain ⟨aKp, cKp, hs, -⟩ := id h.rKp
  simp only at hs
  subst hs
  obtain ⟨aLs, cLs, hs, -⟩ := id h.rLs
  simp only at hs
  subst hs
  obtain ⟨aMs, cMs, hs, -⟩ := id h.rMs
  simp only at hs
  subst hs
  simp only [Rc.cs, St.c]
  generalize hrn : rv.length = rn at *
  have hb0 : Below w.heap.size w (((w.alloc (.cells #[.int .u64 (pos : Int), .int .u64 (done : Int), .int .u64 (made : Int), .slice aDe procs.length cDe, .slice aIn insts.length cIn, .slice aTk tokens.length cTk, .slice aJb jobs.length cJb, .slice aTm timers.length cTm, .slice aSb subs.length cSb, .slice aKp kept.length cKp, .slice aLs listed.length cLs, .slice aMs msgs.length cMs] 33)).alloc (.cells #[.int .i64 r0, .int .i64 r1, .int .u64 (r2 : Int), .int .i64 r3, .int .u64 (r4 : Int), .int .u64 (r5 : Int), .int .u64 (r6 : Int), .int .i64 r7, .int .i64 r8, .string (S r9), .string (S r10), .string (S r11), .slice ra rn rp] 63)).alloc (.cells #[.int .u64 0, .int .u64 0, .int .u64 0, .slice none 0 0, .slice none 0 0, .slice none 0 0, .slice none 0 0, .slice none 0 0, .slice none 0 0, .slice none 0 0, .slice none 0 0, .slice none 0 0] 33)) := (((Below.refl _ w).alloc (Nat.le_refl _) _).alloc (by simp) _).alloc (by simp; omega) _
  have hsz0 : (((w.alloc (.cells #[.int .u64 (pos : Int), .int .u64 (done : Int), .int .u64 (made : Int), .slice aDe procs.length cDe, .slice aIn insts.length cIn, .slice aTk tokens.length cTk, .slice aJb jobs.length cJb, .slice aTm timers.length cTm, .slice aSb subs.length cSb, .slice aKp kept.length cKp, .slice aLs listed.length cLs, .slice aMs msgs.length cMs] 33)).alloc (.cells #[.int .i64 r0, .int .i64 r1, .int .u64 (r2 : Int), .int .i64 r3, .int .u64 (r4 : Int), .int .u64 (r5 : Int), .int .u64 (r6 : Int), .int .i64 r7, .int .i64 r8, .string (S r9), .string (S r10), .string (S r11), .slice ra rn rp] 63)).alloc (.cells #[.int .u64 0, .int .u64 0, .int .u64 0, .slice none 0 0, .slice none 0 0, .slice none 0 0, .slice none 0 0, .slice none 0 0, .slice none 0 0, .slice none 0 0, .slice none 0 0, .slice none 0 0] 33)).heap.size = w.heap.size + 3 := by simp
  have CC := Clone_any (h.up hb0) hz
  simp only [St.c] at CC
  have HS : Hid (∀ W, Below (((w.alloc (.cells #[.int .u64 (pos : Int), .int .u64 (done : Int), .int .u64 (made : Int), .slice aDe procs.length cDe, .slice aIn insts.length cIn, .slice aTk tokens.length cTk, .slice aJb jobs.length cJb, .slice aTm timers.length cTm, .slice aSb subs.length cSb, .slice aKp kept.length cKp, .slice aLs listed.length cLs, .slice aMs msgs.length cMs] 33)).alloc (.cells #[.int .i64 r0, .int .i64 r1, .int .u64 (r2 : Int), .int .i64 r3, .int .u64 (r4 : Int), .int .u64 (r5 : Int), .int .u64 (r6 : Int), .int .i64 r7, .int .i64 r8, .string (S r9), .string (S r10), .string (S r11), .slice ra rn rp] 63)).alloc (.cells #[.int .u64 0, .int .u64 0, .int .u64 0, .slice none 0 0, .slice none 0 0, .slice none 0 0, .slice none 0 0, .slice none 0 0, .slice none 0 0, .slice none 0 0, .slice none 0 0, .slice none 0 0] 33)).heap.size (((w.alloc (.cells #[.int .u64 (pos : Int), .int .u64 (done : Int), .int .u64 (made : Int), .slice aDe procs.length cDe, .slice aIn insts.length cIn, .slice aTk tokens.length cTk, .slice aJb jobs.length cJb, .slice aTm timers.length cTm, .slice aSb subs.length cSb, .slice aKp kept.length cKp, .slice aLs listed.length cLs, .slice aMs msgs.length cMs] 33)).alloc (.cells #[.int .i64 r0, .int .i64 r1, .int .u64 (r2 : Int), .int .i64 r3, .int .u64 (r4 : Int), .int .u64 (r5 : Int), .int .u64 (r6 : Int), .int .i64 r7, .int .i64 r8, .string (S r9), .string (S r10), .string (S r11), .slice ra rn rp] 63)).alloc (.cells #[.int .u64 0, .int .u64 0, .int .u64 0, .slice none 0 0, .slice none 0 0, .slice none 0 0, .slice none 0 0, .slice none 0 0, .slice none 0 0, .slice none 0 0, .slice none 0 0, .slice none 0 0] 33)) W → (W.cell? ⟨w.heap.size + 1, 0, none⟩ = some (.int .i64 r0) ∧ W.cell? ⟨w.heap.size + 1, 1, none⟩ = some (.int .i64 r1) ∧ W.cell? ⟨w.heap.size + 1, 2, none⟩ = some (.int .u64 (r2 : Int)) ∧ W.cell? ⟨w.heap.size + 1, 3, none⟩ = some (.int .i64 r3) ∧ W.cell? ⟨w.heap.size + 1, 4, none⟩ = some (.int .u64 (r4 : Int)) ∧ W.cell? ⟨w.heap.size + 1, 5, none⟩ = some (.int .u64 (r5 : Int)) ∧ W.cell? ⟨w.heap.size + 1, 6, none⟩ = some (.int .u64 (r6 : Int)) ∧ W.cell? ⟨w.heap.size + 1, 7, none⟩ = some (.int .i64 r7) ∧ W.cell? ⟨w.heap.size + 1, 8, none⟩ = some (.int .i64 r8) ∧ W.cell? ⟨w.heap.size + 1, 9, none⟩ = some (.string (S r9)) ∧ W.cell? ⟨w.heap.size + 1, 10, none⟩ = some (.string (S r10)) ∧ W.cell? ⟨w.heap.size + 1, 11, none⟩ = some (.string (S r11)) ∧ W.cell? ⟨w.heap.size + 1, 12, none⟩ = some (.slice ra rn rp)) ∧ (W.cell? ⟨w.heap.size + 1 + 1, 0, none⟩ = some (.int .u64 0) ∧ W.cell? ⟨w.heap.size + 1 + 1, 1, none⟩ = some (.int .u64 0) ∧ W.cell? ⟨w.heap.size + 1 + 1, 2, none⟩ = some (.int .u64 0) ∧ W.cell? ⟨w.heap.size + 1 + 1, 3, none⟩ = some (.slice none 0 0) ∧ W.cell? ⟨w.heap.size + 1 + 1, 4, none⟩ = some (.slice none 0 0) ∧ W.cell? ⟨w.heap.size + 1 + 1, 5, none⟩ = some (.slice none 0 0) ∧ W.cell? ⟨w.heap.size + 1 + 1, 6, none⟩ = some (.slice none 0 0) ∧ W.cell? ⟨w.heap.size + 1 + 1, 7, none⟩ = some (.slice none 0 0) ∧ W.cell? ⟨w.heap.size + 1 + 1, 8, none⟩ = some (.slice none 0 0) ∧ W.cell? ⟨w.heap.size + 1 + 1, 9, none⟩ = some (.slice none 0 0) ∧ W.cell? ⟨w.heap.size + 1 + 1, 10, none⟩ = some (.slice none 0 0) ∧ W.cell? ⟨w.heap.size + 1 + 1, 11, none⟩ = some (.slice none 0 0) ∧ W.frozen? ⟨w.heap.size + 1 + 1, 0, none⟩ = false ∧ W.frozen? ⟨w.heap.size + 1 + 1, 1, none⟩ = false ∧ W.frozen? ⟨w.heap.size + 1 + 1, 2, none⟩ = false ∧ W.frozen? ⟨w.heap.size + 1 + 1, 3, none⟩ = false ∧ W.frozen? ⟨w.heap.size + 1 + 1, 4, none⟩ = false ∧ W.frozen? ⟨w.heap.size + 1 + 1, 5, none⟩ = false ∧ W.frozen? ⟨w.heap.size + 1 + 1, 6, none⟩ = false ∧ W.frozen? ⟨w.heap.size + 1 + 1, 7, none⟩ = false ∧ W.frozen? ⟨w.heap.size + 1 + 1, 8, none⟩ = false ∧ W.frozen? ⟨w.heap.size + 1 + 1, 9, none⟩ = false ∧ W.frozen? ⟨w.heap.size + 1 + 1, 10, none⟩ = false ∧ W.frozen? ⟨w.heap.size + 1 + 1, 11, none⟩ = false) ∧ W.heap[w.heap.size + 1 + 1]? = some (.cells zs.toArray 33 (0, 0)) ∧ Below w.heap.size w W ∧ w.heap.size < W.heap.size ∧ w.heap.size + 1 < W.heap.size ∧ w.heap.size + 1 + 1 < W.heap.size) := by
    intro W hW
    have hWs := hW.size
    rw [hsz0] at hW hWs
    refine ⟨⟨?_, ?_, ?_, ?_, ?_, ?_, ?_, ?_, ?_, ?_, ?_, ?_, ?_⟩, ⟨?_, ?_, ?_, ?_, ?_, ?_, ?_, ?_, ?_, ?_, ?_, ?_, ?_, ?_, ?_, ?_, ?_, ?_, ?_, ?_, ?_, ?_, ?_, ?_⟩, ?_, hb0.trans (hW.mono (by omega)), by omega, by omega, by omega⟩
    iterate 25 exact (hW.cell (by simp only; omega)).trans (by go_simp)
    iterate 12 exact (hW.frozen (by simp only; omega)).trans (by go_simp)
    · refine (hW.block _ (by omega)).trans ?_
      have := heap_alloc_new ((w.alloc (.cells #[.int .u64 (pos : Int), .int .u64 (done : Int), .int .u64 (made : Int), .slice aDe procs.length cDe, .slice aIn insts.length cIn, .slice aTk tokens.length cTk, .slice aJb jobs.length cJb, .slice aTm timers.length cTm, .slice aSb subs.length cSb, .slice aKp kept.length cKp, .slice aLs listed.length cLs, .slice aMs msgs.length cMs] 33)).alloc (.cells #[.int .i64 r0, .int .i64 r1, .int .u64 (r2 : Int), .int .i64 r3, .int .u64 (r4 : Int), .int .u64 (r5 : Int), .int .u64 (r6 : Int), .int .i64 r7, .int .i64 r8, .string (S r9), .string (S r10), .string (S r11), .slice ra rn rp] 63)) (.cells zs.toArray 33)
      simp only [World.size_alloc] at this
      exact this
  obtain ⟨rfl, hkr⟩ := KC
  have HT : Hid _ := hT
  have HR : Hid _ := hr0
  simp only [Rc.cs] at HF
  have CE := effects_any
  unfold Ent0 at ek
  clear h hz hr hr0 hb0 hT
  go_enter Tryz.func49, Tryz.ntmps49
  go_wp2_with (first
    | (go_at_call 23; refine CC.mono ?_; rintro e w1 ⟨s9, rfl, hO, hE, hb1⟩; obtain ⟨p9, d9, m9, vDe, lDe, vIn, lIn, vTk, lTk, vJb, lJb, vTm, lTm, vSb, lSb, vKp, lKp, vLs, lLs, vMs, lMs⟩ := s9; obtain ⟨⟨bDe, nDe, dDe, hsDe⟩, ⟨bIn, nIn, dIn, hsIn⟩, ⟨bTk, nTk, dTk, hsTk⟩, ⟨bJb, nJb, dJb, hsJb⟩, ⟨bTm, nTm, dTm, hsTm⟩, ⟨bSb, nSb, dSb, hsSb⟩, ⟨bKp, nKp, dKp, hsKp⟩, ⟨bLs, nLs, dLs, hsLs⟩, ⟨bMs, nMs, dMs, hsMs⟩⟩ := St.slices hO; simp only at hsDe hsIn hsTk hsJb hsTm hsSb hsKp hsLs hsMs; subst hsDe hsIn hsTk hsJb hsTm hsSb hsKp hsLs hsMs; obtain ⟨⟨q0, q1, q2, q3, q4, q5, q6, q7, q8, q9, q10, q11, q12⟩, ⟨z0, z1, z2, z3, z4, z5, z6, z7, z8, z9, z10, z11, g0, g1, g2, g3, g4, g5, g6, g7, g8, g9, g10, g11⟩, ho, hbw, y0, y1, y2⟩ := HS.out w1 hb1; (have e1 : p9 = pos := congrArg St.pos hE); (have e2 : d9 = done := congrArg St.done hE); subst e1 e2; rw [hsz0] at hO hb1; (have HO : Hid _ := hO); (have HE : Hid _ := hE); (have HB : Hid (Below w.heap.size w w1) := hbw); (have HZ : Hid _ := ho); clear hO hE hbw ho hb1 CC HS; (have hmx : max (d9 : Int) (r2 : Int) = ((max d9 r2 : Nat) : Int) := by omega)))

  have hS0 : Sx (w.heap.size + 3) (w1.alloc (.cells #[.int .u64 (ps : Int), .int .u64 ((max d9 r2 : Nat) : Int), .int .u64 (m9 : Int), .slice bDe nDe dDe, .slice bIn nIn dIn, .slice bTk nTk dTk, .slice bJb nJb dJb, .slice bTm nTm dTm, .slice bSb nSb dSb, .slice bKp nKp dKp, .slice bLs nLs dLs, .slice bMs nMs dMs] 33)) w1.heap.size ⟨ps, (max d9 r2), m9, .slice bDe nDe dDe, lDe, .slice bIn nIn dIn, lIn, .slice bTk nTk dTk, lTk, .slice bJb nJb dJb, lJb, .slice bTm nTm dTm, lTm, .slice bSb nSb dSb, lSb, .slice bKp nKp dKp, lKp, .slice bLs nLs dLs, lLs, .slice bMs nMs dMs, lMs⟩ := bx.new (cs := [.int .u64 (ps : Int), .int .u64 ((max d9 r2 : Nat) : Int), .int .u64 (m9 : Int), .slice bDe nDe dDe, .slice bIn nIn dIn, .slice bTk nTk dTk, .slice bJb nJb dJb, .slice bTm nTm dTm, .slice bSb nSb dSb, .slice bKp nKp dKp, .slice bLs nLs dLs, .slice bMs nMs dMs]) HO.out (by omega) rfl
  have HU : Hid (∀ U, Below (w1.alloc (.cells #[.int .u64 (ps : Int), .int .u64 ((max d9 r2 : Nat) : Int), .int .u64 (m9 : Int), .slice bDe nDe dDe, .slice bIn nIn dIn, .slice bTk nTk dTk, .slice bJb nJb dJb, .slice bTm nTm dTm, .slice bSb nSb dSb, .slice bKp nKp dKp, .slice bLs nLs dLs, .slice bMs nMs dMs] 33)).heap.size (w1.alloc (.cells #[.int .u64 (ps : Int), .int .u64 ((max d9 r2 : Nat) : Int), .int .u64 (m9 : Int), .slice bDe nDe dDe, .slice bIn nIn dIn, .slice bTk nTk dTk, .slice bJb nJb dJb, .slice bTm nTm dTm, .slice bSb nSb dSb, .slice bKp nKp dKp, .slice bLs nLs dLs, .slice bMs nMs dMs] 33)) U → Calls Tryz.prog f #[.pointer (some ⟨w1.heap.size, 0, none⟩), .agg #[.int .i64 2, .int .i64 r1, .int .u64 (r2 : Int), .int .i64 r3, .int .u64 (r4 : Int), .int .u64 (r5 : Int), .int .u64 (r6 : Int), .int .i64 r7, .int .i64 r8, .string (S r9), .string (S r10), .string (S r11), .slice ra rn rp] ] U fun e w' => e = .returned (.tuple #[]) ∧ Eff (w.heap.size + 3) U w1.heap.size T w') := by
    intro U hU
    have hb2 : Below w.heap.size w U := bel_of (HB.out.trans ((Below.refl _ w1).alloc HB.out.size _)) hU (Nat.le_refl _)
    have hUs := hU.size
    rw [World.size_alloc] at hUs
    have hst : St.e ⟨ps, (max d9 r2), m9, .slice bDe nDe dDe, lDe, .slice bIn nIn dIn, lIn, .slice bTk nTk dTk, lTk, .slice bJb nJb dJb, lJb, .slice bTm nTm dTm, lTm, .slice bSb nSb dSb, lSb, .slice bKp nKp dKp, lKp, .slice bLs nLs dLs, lLs, .slice bMs nMs dMs, lMs⟩ = { (St.e ⟨p9, d9, made, .slice aDe procs.length cDe, procs, .slice aIn insts.length cIn, insts, .slice aTk tokens.length cTk, tokens, .slice aJb jobs.length cJb, jobs, .slice aTm timers.length cTm, timers, .slice aSb subs.length cSb, subs, .slice aKp kept.length cKp, kept, .slice aLs listed.length cLs, listed, .slice aMs msgs.length cMs, msgs⟩) with pos := ps, done := max d9 r2 } := by rw [← HE.out]; rfl
    have := HF.out (w.heap.size + 3) U w1.heap.size ⟨ps, (max d9 r2), m9, .slice bDe nDe dDe, lDe, .slice bIn nIn dIn, lIn, .slice bTk nTk dTk, lTk, .slice bJb nJb dJb, lJb, .slice bTm nTm dTm, lTm, .slice bSb nSb dSb, lSb, .slice bKp nKp dKp, lKp, .slice bLs nLs dLs, lLs, .slice bMs nMs dMs, lMs⟩ (hS0.up hU) (by omega) hst ((show Rr 4 Vr.c w (.slice ra rn rp) rv from HR.out).up hb2)
    rw [hst] at this
    rw [HT.out]
    exact this
  have HC : Hid (∀ U, Below (w1.alloc (.cells #[.int .u64 (ps : Int), .int .u64 ((max d9 r2 : Nat) : Int), .int .u64 (m9 : Int), .slice bDe nDe dDe, .slice bIn nIn dIn, .slice bTk nTk dTk, .slice bJb nJb dJb, .slice bTm nTm dTm, .slice bSb nSb dSb, .slice bKp nKp dKp, .slice bLs nLs dLs, .slice bMs nMs dMs] 33)).heap.size (w1.alloc (.cells #[.int .u64 (ps : Int), .int .u64 ((max d9 r2 : Nat) : Int), .int .u64 (m9 : Int), .slice bDe nDe dDe, .slice bIn nIn dIn, .slice bTk nTk dTk, .slice bJb nJb dJb, .slice bTm nTm dTm, .slice bSb nSb dSb, .slice bKp nKp dKp, .slice bLs nLs dLs, .slice bMs nMs dMs] 33)) U → U.cell? ⟨w.heap.size + 1, 0, none⟩ = some (.int .i64 2) ∧ U.cell? ⟨w.heap.size + 1, 1, none⟩ = some (.int .i64 r1) ∧ U.cell? ⟨w.heap.size + 1, 2, none⟩ = some (.int .u64 (r2 : Int)) ∧ U.cell? ⟨w.heap.size + 1, 3, none⟩ = some (.int .i64 r3) ∧ U.cell? ⟨w.heap.size + 1, 4, none⟩ = some (.int .u64 (r4 : Int)) ∧ U.cell? ⟨w.heap.size + 1, 5, none⟩ = some (.int .u64 (r5 : Int)) ∧ U.cell? ⟨w.heap.size + 1, 6, none⟩ = some (.int .u64 (r6 : Int)) ∧ U.cell? ⟨w.heap.size + 1, 7, none⟩ = some (.int .i64 r7) ∧ U.cell? ⟨w.heap.size + 1, 8, none⟩ = some (.int .i64 r8) ∧ U.cell? ⟨w.heap.size + 1, 9, none⟩ = some (.string (S r9)) ∧ U.cell? ⟨w.heap.size + 1, 10, none⟩ = some (.string (S r10)) ∧ U.cell? ⟨w.heap.size + 1, 11, none⟩ = some (.string (S r11)) ∧ U.cell? ⟨w.heap.size + 1, 12, none⟩ = some (.slice ra rn rp)) := by
    intro U hU
    have hU2 : Below w1.heap.size w1 U := bel_of ((Below.refl _ w1).alloc (Nat.le_refl _) _) hU (Nat.le_refl _)
    exact ⟨(hU2.cell (p := ⟨w.heap.size + 1, 0, none⟩) y1).trans q0, (hU2.cell (p := ⟨w.heap.size + 1, 1, none⟩) y1).trans q1, (hU2.cell (p := ⟨w.heap.size + 1, 2, none⟩) y1).trans q2, (hU2.cell (p := ⟨w.heap.size + 1, 3, none⟩) y1).trans q3, (hU2.cell (p := ⟨w.heap.size + 1, 4, none⟩) y1).trans q4, (hU2.cell (p := ⟨w.heap.size + 1, 5, none⟩) y1).trans q5, (hU2.cell (p := ⟨w.heap.size + 1, 6, none⟩) y1).trans q6, (hU2.cell (p := ⟨w.heap.size + 1, 7, none⟩) y1).trans q7, (hU2.cell (p := ⟨w.heap.size + 1, 8, none⟩) y1).trans q8, (hU2.cell (p := ⟨w.heap.size + 1, 9, none⟩) y1).trans q9, (hU2.cell (p := ⟨w.heap.size + 1, 10, none⟩) y1).trans q10, (hU2.cell (p := ⟨w.heap.size + 1, 11, none⟩) y1).trans q11, (hU2.cell (p := ⟨w.heap.size + 1, 12, none⟩) y1).trans q12⟩
  have HV : Hid (∀ U, Below (w1.alloc (.cells #[.int .u64 (ps : Int), .int .u64 ((max d9 r2 : Nat) : Int), .int .u64 (m9 : Int), .slice bDe nDe dDe, .slice bIn nIn dIn, .slice bTk nTk dTk, .slice bJb nJb dJb, .slice bTm nTm dTm, .slice bSb nSb dSb, .slice bKp nKp dKp, .slice bLs nLs dLs, .slice bMs nMs dMs] 33)).heap.size (w1.alloc (.cells #[.int .u64 (ps : Int), .int .u64 ((max d9 r2 : Nat) : Int), .int .u64 (m9 : Int), .slice bDe nDe dDe, .slice bIn nIn dIn, .slice bTk nTk dTk, .slice bJb nJb dJb, .slice bTm nTm dTm, .slice bSb nSb dSb, .slice bKp nKp dKp, .slice bLs nLs dLs, .slice bMs nMs dMs] 33)) U → U.heap[w.heap.size + 1 + 1]? = some (.cells zs.toArray 33 (0, 0)) ∧ Below w.heap.size w U) := by
    intro U hU
    have hU2 : Below w1.heap.size w1 U := bel_of ((Below.refl _ w1).alloc (Nat.le_refl _) _) hU (Nat.le_refl _)
    exact ⟨(hU2.block _ y2).trans HZ.out, bel_of HB.out hU2 (Nat.le_refl _)⟩
  obtain ⟨j0, j1, j2, j3, j4, j5, j6, j7, j8, j9, j10, j11, j12⟩ := HC.out _ (Below.refl _ _)
  clear q0 q1 q2 q3 q4 q5 q6 q7 q8 q9 q10 q11 q12 z0 g0 z1 g1 z2 g2 z3 g3 z4 g4 z5 g5 z6 g6 z7 g7 z8 g8 z9 g9 z10 g10 z11 g11 hS0 HF HR
  generalize (w1.alloc (.cells #[.int .u64 (ps : Int), .int .u64 ((max d9 r2 : Nat) : Int), .int .u64 (m9 : Int), .slice bDe nDe dDe, .slice bIn nIn dIn, .slice bTk nTk dTk, .slice bJb nJb dJb, .slice bTm nTm dTm, .slice bSb nSb dSb, .slice bKp nKp dKp, .slice bLs nLs dLs, .slice bMs nMs dMs] 33)) = W2 at *
  go_region_held3 (fun W => W.cell? ⟨w.heap.size + 1, 1, none⟩ = some (.int .i64 r1))
    (first | go_keep | exact (HC.out _ (Below.refl _ _)).2.1 | exact (HC.out _ (Below.refl _ _).drew).2.1 | exact (HC.out _ hX).2.1)
    (first | (go_at_call 54; refine (CE _).mono ?_; rintro e u1 ⟨mb, rfl, hmap, hml, hX0⟩; (have hX : Below W2.heap.size W2 u1 := (Below.refl _ W2).drew.trans (hX0.mono (Nat.le_refl _))); (have hlook := hmap.look hkr f hf hh); (have BX : Hid (Below W2.heap.size W2 u1) := hX); clear hX0 hmap hml))
  all_goals
    have CU := HU.out u1 BX.out
    obtain ⟨i0, i1, i2, i3, i4, i5, i6, i7, i8, i9, i10, i11, i12⟩ := HC.out u1 BX.out
    clear HU HC CE hlook hX j0 j1 j2 j3 j4 j5 j6 j7 j8 j9 j10 j11 j12
    go_wp2
    refine CU.mono ?_
    rintro e w5 ⟨rfl, t, hSt, hte, hb5⟩
    obtain ⟨hz5, hc5, hf5⟩ := rb_kept (HV.out u1 BX.out).1 hb5
    have hb6 : Below w.heap.size w w5 := (HV.out u1 BX.out).2.trans (hb5.mono (by omega))
    have hOt := Own.sub hSt (List.sublist_cons_self _ _)
    have hne : w.heap.size + 1 + 1 ≠ w1.heap.size := by omega
    have hlt5 : w.heap.size + 1 + 1 < w5.heap.size := (Array.getElem?_eq_some_iff.1 hz5).1
    obtain ⟨⟨bDe, nDe, dDe, hsDe⟩, ⟨bIn, nIn, dIn, hsIn⟩, ⟨bTk, nTk, dTk, hsTk⟩, ⟨bJb, nJb, dJb, hsJb⟩, ⟨bTm, nTm, dTm, hsTm⟩, ⟨bSb, nSb, dSb, hsSb⟩, ⟨bKp, nKp, dKp, hsKp⟩, ⟨bLs, nLs, dLs, hsLs⟩, ⟨bMs, nMs, dMs, hsMs⟩⟩ := St.slices hOt
    obtain ⟨p7, d7, m7, vDe, lDe, vIn, lIn, vTk, lTk, vJb, lJb, vTm, lTm, vSb, lSb, vKp, lKp, vLs, lLs, vMs, lMs⟩ := t
    simp only at hsDe hsIn hsTk hsJb hsTm hsSb hsKp hsLs hsMs
    subst hsDe hsIn hsTk hsJb hsTm hsSb hsKp hsLs hsMs
    have k0 := hSt.cell (j := 0) rfl
    have z0 := hc5 0 _ rfl
    have g0 := hf5 0
    have k1 := hSt.cell (j := 1) rfl
    have z1 := hc5 1 _ rfl
    have g1 := hf5 1
    have k2 := hSt.cell (j := 2) rfl
    have z2 := hc5 2 _ rfl
    have g2 := hf5 2
    have k3 := hSt.cell (j := 3) rfl
    have z3 := hc5 3 _ rfl
    have g3 := hf5 3
    have k4 := hSt.cell (j := 4) rfl
    have z4 := hc5 4 _ rfl
    have g4 := hf5 4
    have k5 := hSt.cell (j := 5) rfl
    have z5 := hc5 5 _ rfl
    have g5 := hf5 5
    have k6 := hSt.cell (j := 6) rfl
    have z6 := hc5 6 _ rfl
    have g6 := hf5 6
    have k7 := hSt.cell (j := 7) rfl
    have z7 := hc5 7 _ rfl
    have g7 := hf5 7
    have k8 := hSt.cell (j := 8) rfl
    have z8 := hc5 8 _ rfl
    have g8 := hf5 8
    have k9 := hSt.cell (j := 9) rfl
    have z9 := hc5 9 _ rfl
    have g9 := hf5 9
    have k10 := hSt.cell (j := 10) rfl
    have z10 := hc5 10 _ rfl
    have g10 := hf5 10
    have k11 := hSt.cell (j := 11) rfl
    have z11 := hc5 11 _ rfl
    have g11 := hf5 11
    have HA : Hid _ := Apd.of (w := w) hOt hte rfl hb6 hz5
    clear CU hSt hte hb5 hb6 hOt hc5 hf5 hz5 HV HT HE HO HB HZ BX
    go_wp2
    obtain ⟨hg, hA⟩ := HA.out
    refine bodyPost_ret (results_cell_row rfl _ _ (w.heap.size + 1 + 1) 33 _ (0, 0) _ rfl hg Tryz.underlying33 rfl size12) rfl ?_
    exact hA
end Go.Proofs.YthmfcloecmnfnaaGreat.f13

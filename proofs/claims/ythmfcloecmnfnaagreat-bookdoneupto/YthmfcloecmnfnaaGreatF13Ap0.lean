/-
  Package fold's Apply: of records that are no events.
-/
import Derived.Test.YthmfcloecmnfnaaGreatGLef
namespace Go.Proofs.YthmfcloecmnfnaaGreat.f13
open Go.RowKit Go.Shelf Go.Sort
open Go.Lib hiding intOf

/-- a state whose parts are slices -/
theorem St.slices {B : Nat} {w : World} {s : St} (h : Own B w s.rows) : (∃ a n c, s.vDe = .slice a n c) ∧ (∃ a n c, s.vIn = .slice a n c) ∧ (∃ a n c, s.vTk = .slice a n c) ∧ (∃ a n c, s.vJb = .slice a n c) ∧ (∃ a n c, s.vTm = .slice a n c) ∧ (∃ a n c, s.vSb = .slice a n c) ∧ (∃ a n c, s.vKp = .slice a n c) ∧ (∃ a n c, s.vLs = .slice a n c) ∧ (∃ a n c, s.vMs = .slice a n c) := by
  have hs := Own.sv h
  refine ⟨?_, ?_, ?_, ?_, ?_, ?_, ?_, ?_, ?_⟩
  · obtain ⟨a, c, e, -⟩ := hs.rDe; exact ⟨a, _, c, e⟩
  · obtain ⟨a, c, e, -⟩ := hs.rIn; exact ⟨a, _, c, e⟩
  · obtain ⟨a, c, e, -⟩ := hs.rTk; exact ⟨a, _, c, e⟩
  · obtain ⟨a, c, e, -⟩ := hs.rJb; exact ⟨a, _, c, e⟩
  · obtain ⟨a, c, e, -⟩ := hs.rTm; exact ⟨a, _, c, e⟩
  · obtain ⟨a, c, e, -⟩ := hs.rSb; exact ⟨a, _, c, e⟩
  · obtain ⟨a, c, e, -⟩ := hs.rKp; exact ⟨a, _, c, e⟩
  · obtain ⟨a, c, e, -⟩ := hs.rLs; exact ⟨a, _, c, e⟩
  · obtain ⟨a, c, e, -⟩ := hs.rMs; exact ⟨a, _, c, e⟩
/-- what Apply hands back -/
def Apd (w : World) (s' : St) (e : Ending) (w' : World) : Prop := ∃ t : St, e = .returned (.agg t.c.toArray) ∧ Own w.heap.size w' t.rows ∧ t.e = s' ∧ Below w.heap.size w w'
/-- the ending: the state is laid into the result's cells -/
theorem Apd.of {B : Nat} {w W : World} {t s' : St} (h1 : Own B W t.rows) (he : t.e = s') (hB : B = w.heap.size + 3) (hb : Below w.heap.size w W) (ho : W.heap[w.heap.size + 1 + 1]? = some (.cells zs.toArray 33 (0, 0))) :
    (set12 W (w.heap.size + 1 + 1) (.int .u64 (t.pos : Int)) (.int .u64 (t.done : Int)) (.int .u64 (t.made : Int)) t.vDe t.vIn t.vTk t.vJb t.vTm t.vSb t.vKp t.vLs t.vMs).heap[w.heap.size + 1 + 1]? = some (.cells t.c.toArray 33 (0, 0)) ∧ Apd w s' (.returned (.agg t.c.toArray)) (set12 W (w.heap.size + 1 + 1) (.int .u64 (t.pos : Int)) (.int .u64 (t.done : Int)) (.int .u64 (t.made : Int)) t.vDe t.vIn t.vTk t.vJb t.vTm t.vSb t.vKp t.vLs t.vMs) := by
  have hlt : w.heap.size + 1 + 1 < W.heap.size := (Array.getElem?_eq_some_iff.1 ho).1
  have h0 : Own (w.heap.size) W (bx (w.heap.size + 1 + 1) zs :: t.rows) := by
    refine ⟨fun r hr => ?_, List.pairwise_cons.2 ⟨fun r hr g hg hg' => ?_, h1.apart⟩⟩
    · rcases List.mem_cons.1 hr with rfl | hr
      · exact ⟨rfl, .inr ⟨_, 1, zs.toArray, rfl, by omega, ho, Nat.le_refl _, by unfold maxLen; omega, rfl, rfl⟩⟩
      · exact (h1.base (by omega)).own r hr
    · have := ((h1.own r hr).lt g hg').1
      simp only [bx, Value.ownBlock, Option.some.injEq] at hg
      omega
  have h1 := bx.put12 h0 (.int .u64 (t.pos : Int)) (.int .u64 (t.done : Int)) (.int .u64 (t.made : Int)) t.vDe t.vIn t.vTk t.vJb t.vTm t.vSb t.vKp t.vLs t.vMs
  exact ⟨bx.obj h1 (List.mem_cons_self ..), t, rfl, h1.sub (List.sublist_cons_self _ _), he, hb.trans ((set12_ch W _ _ _ _ _ _ _ _ _ _ _ _ _).below hb.size (fun k hk e => by omega))⟩

theorem Apd.of2 {B : Nat} {w W : World} {t s' : St} (h1 : Own B W t.rows) (he : t.e = s') (hB : B = w.heap.size + 3) (hb : Below w.heap.size w W) (ho : W.heap[w.heap.size + 1 + 1]? = some (.cells zs.toArray 33 (0, 0))) (x : Obj) :
    ((set12 W (w.heap.size + 1 + 1) (.int .u64 (t.pos : Int)) (.int .u64 (t.done : Int)) (.int .u64 (t.made : Int)) t.vDe t.vIn t.vTk t.vJb t.vTm t.vSb t.vKp t.vLs t.vMs).alloc x).heap[w.heap.size + 1 + 1]? = some (.cells t.c.toArray 33 (0, 0)) ∧ Apd w s' (.returned (.agg t.c.toArray)) ((set12 W (w.heap.size + 1 + 1) (.int .u64 (t.pos : Int)) (.int .u64 (t.done : Int)) (.int .u64 (t.made : Int)) t.vDe t.vIn t.vTk t.vJb t.vTm t.vSb t.vKp t.vLs t.vMs).alloc x) := by
  obtain ⟨hg, t1, e1, o1, k1, b1⟩ := Apd.of h1 he hB hb ho
  have hlt := (Array.getElem?_eq_some_iff.1 hg).1
  have hup := (Below.refl _ (set12 W (w.heap.size + 1 + 1) (.int .u64 (t.pos : Int)) (.int .u64 (t.done : Int)) (.int .u64 (t.made : Int)) t.vDe t.vIn t.vTk t.vJb t.vTm t.vSb t.vKp t.vLs t.vMs)).alloc (Nat.le_refl _) x
  exact ⟨(hup.block _ hlt).trans hg, t1, e1, o1.up hup, k1, b1.trans (hup.mono b1.size)⟩

set_option maxHeartbeats 8000000 in
set_option maxRecDepth 100000 in
theorem Apply_other {w : World} {s : St} {r : Rc} {ps : Nat} (h : Sv w s) (hz : Sz s) (hr : Rr 4 Vr.c w r.vv r.v) (KC : r.cl ≠ 2 ∧ r.cl ≠ 3) {T : St} (hT : T = { s.e with pos := ps, done := s.done }) :
    Calls Tryz.prog 49 #[.agg s.c.toArray, .int .u64 (ps : Int), .agg r.cs.toArray] w (Apd w T) := by
  have hr0 := hr
  obtain ⟨ra, rp, hra, -⟩ := id hr
  obtain ⟨r0, r1, r2, r3, r4, r5, r6, r7, r8, r9, r10, r11, rvv, rv⟩ := r
  simp only at hra hr KC
  subst hra
  obtain ⟨pos, done, made, vDe, procs, vIn, insts, vTk, tokens, vJb, jobs, vTm, timers, vSb, subs, vKp, kept, vLs, listed, vMs, msgs⟩ := s
  obtain ⟨aDe, cDe, hs, -⟩ := id h.rDe
  simp only at hs
  subst hs
  obtain ⟨aIn, cIn, hs, -⟩ := id h.rIn
  simp only at hs
  subst hs
  obtain ⟨aTk, cTk, hs, -⟩ := id h.rTk
  simp only at hs
  subst hs
  obtain ⟨aJb, cJb, hs, -⟩ := id h.rJb
  simp only at hs
  subst hs
  obtain ⟨aTm, cTm, hs, -⟩ := id h.rTm
  simp only at hs
  subst hs
  obtain ⟨aSb, cSb, hs, -⟩ := id h.rSb
  simp only at hs
  subst hs
  obtain ⟨aKp, cKp, hs, -⟩ := id h.rKp
  simp only at hs
  subst hs
  obtain ⟨aLs, cLs, hs, -⟩ := id h.rLs
  simp only at hs
  subst hs
  obtain ⟨aMs, cMs, hs, -⟩ := id h.rMs
  simp only at hs
  subst hs
  simp only [Rc.cs, St.c]
  generalize hrn : rv.length = rn at *
  have hb0 : Below w.heap.size w (((w.alloc (.cells #[.int .u64 (pos : Int), .int .u64 (done : Int), .int .u64 (made : Int), .slice aDe procs.length cDe, .slice aIn insts.length cIn, .slice aTk tokens.length cTk, .slice aJb jobs.length cJb, .slice aTm timers.length cTm, .slice aSb subs.length cSb, .slice aKp kept.length cKp, .slice aLs listed.length cLs, .slice aMs msgs.length cMs] 33)).alloc (.cells #[.int .i64 r0, .int .i64 r1, .int .u64 (r2 : Int), .int .i64 r3, .int .u64 (r4 : Int), .int .u64 (r5 : Int), .int .u64 (r6 : Int), .int .i64 r7, .int .i64 r8, .string (S r9), .string (S r10), .string (S r11), .slice ra rn rp] 63)).alloc (.cells #[.int .u64 0, .int .u64 0, .int .u64 0, .slice none 0 0, .slice none 0 0, .slice none 0 0, .slice none 0 0, .slice none 0 0, .slice none 0 0, .slice none 0 0, .slice none 0 0, .slice none 0 0] 33)) := (((Below.refl _ w).alloc (Nat.le_refl _) _).alloc (by simp) _).alloc (by simp; omega) _
  have hsz0 : (((w.alloc (.cells #[.int .u64 (pos : Int), .int .u64 (done : Int), .int .u64 (made : Int), .slice aDe procs.length cDe, .slice aIn insts.length cIn, .slice aTk tokens.length cTk, .slice aJb jobs.length cJb, .slice aTm timers.length cTm, .slice aSb subs.length cSb, .slice aKp kept.length cKp, .slice aLs listed.length cLs, .slice aMs msgs.length cMs] 33)).alloc (.cells #[.int .i64 r0, .int .i64 r1, .int .u64 (r2 : Int), .int .i64 r3, .int .u64 (r4 : Int), .int .u64 (r5 : Int), .int .u64 (r6 : Int), .int .i64 r7, .int .i64 r8, .string (S r9), .string (S r10), .string (S r11), .slice ra rn rp] 63)).alloc (.cells #[.int .u64 0, .int .u64 0, .int .u64 0, .slice none 0 0, .slice none 0 0, .slice none 0 0, .slice none 0 0, .slice none 0 0, .slice none 0 0, .slice none 0 0, .slice none 0 0, .slice none 0 0] 33)).heap.size = w.heap.size + 3 := by simp
  have CC := Clone_any (h.up hb0) hz
  simp only [St.c] at CC
  have HS : Hid (∀ W, Below (((w.alloc (.cells #[.int .u64 (pos : Int), .int .u64 (done : Int), .int .u64 (made : Int), .slice aDe procs.length cDe, .slice aIn insts.length cIn, .slice aTk tokens.length cTk, .slice aJb jobs.length cJb, .slice aTm timers.length cTm, .slice aSb subs.length cSb, .slice aKp kept.length cKp, .slice aLs listed.length cLs, .slice aMs msgs.length cMs] 33)).alloc (.cells #[.int .i64 r0, .int .i64 r1, .int .u64 (r2 : Int), .int .i64 r3, .int .u64 (r4 : Int), .int .u64 (r5 : Int), .int .u64 (r6 : Int), .int .i64 r7, .int .i64 r8, .string (S r9), .string (S r10), .string (S r11), .slice ra rn rp] 63)).alloc (.cells #[.int .u64 0, .int .u64 0, .int .u64 0, .slice none 0 0, .slice none 0 0, .slice none 0 0, .slice none 0 0, .slice none 0 0, .slice none 0 0, .slice none 0 0, .slice none 0 0, .slice none 0 0] 33)).heap.size (((w.alloc (.cells #[.int .u64 (pos : Int), .int .u64 (done : Int), .int .u64 (made : Int), .slice aDe procs.length cDe, .slice aIn insts.length cIn, .slice aTk tokens.length cTk, .slice aJb jobs.length cJb, .slice aTm timers.length cTm, .slice aSb subs.length cSb, .slice aKp kept.length cKp, .slice aLs listed.length cLs, .slice aMs msgs.length cMs] 33)).alloc (.cells #[.int .i64 r0, .int .i64 r1, .int .u64 (r2 : Int), .int .i64 r3, .int .u64 (r4 : Int), .int .u64 (r5 : Int), .int .u64 (r6 : Int), .int .i64 r7, .int .i64 r8, .string (S r9), .string (S r10), .string (S r11), .slice ra rn rp] 63)).alloc (.cells #[.int .u64 0, .int .u64 0, .int .u64 0, .slice none 0 0, .slice none 0 0, .slice none 0 0, .slice none 0 0, .slice none 0 0, .slice none 0 0, .slice none 0 0, .slice none 0 0, .slice none 0 0] 33)) W → (W.cell? ⟨w.heap.size + 1, 0, none⟩ = some (.int .i64 r0) ∧ W.cell? ⟨w.heap.size + 1, 1, none⟩ = some (.int .i64 r1) ∧ W.cell? ⟨w.heap.size + 1, 2, none⟩ = some (.int .u64 (r2 : Int)) ∧ W.cell? ⟨w.heap.size + 1, 3, none⟩ = some (.int .i64 r3) ∧ W.cell? ⟨w.heap.size + 1, 4, none⟩ = some (.int .u64 (r4 : Int)) ∧ W.cell? ⟨w.heap.size + 1, 5, none⟩ = some (.int .u64 (r5 : Int)) ∧ W.cell? ⟨w.heap.size + 1, 6, none⟩ = some (.int .u64 (r6 : Int)) ∧ W.cell? ⟨w.heap.size + 1, 7, none⟩ = some (.int .i64 r7) ∧ W.cell? ⟨w.heap.size + 1, 8, none⟩ = some (.int .i64 r8) ∧ W.cell? ⟨w.heap.size + 1, 9, none⟩ = some (.string (S r9)) ∧ W.cell? ⟨w.heap.size + 1, 10, none⟩ = some (.string (S r10)) ∧ W.cell? ⟨w.heap.size + 1, 11, none⟩ = some (.string (S r11)) ∧ W.cell? ⟨w.heap.size + 1, 12, none⟩ = some (.slice ra rn rp)) ∧ (W.cell? ⟨w.heap.size + 1 + 1, 0, none⟩ = some (.int .u64 0) ∧ W.cell? ⟨w.heap.size + 1 + 1, 1, none⟩ = some (.int .u64 0) ∧ W.cell? ⟨w.heap.size + 1 + 1, 2, none⟩ = some (.int .u64 0) ∧ W.cell? ⟨w.heap.size + 1 + 1, 3, none⟩ = some (.slice none 0 0) ∧ W.cell? ⟨w.heap.size + 1 + 1, 4, none⟩ = some (.slice none 0 0) ∧ W.cell? ⟨w.heap.size + 1 + 1, 5, none⟩ = some (.slice none 0 0) ∧ W.cell? ⟨w.heap.size + 1 + 1, 6, none⟩ = some (.slice none 0 0) ∧ W.cell? ⟨w.heap.size + 1 + 1, 7, none⟩ = some (.slice none 0 0) ∧ W.cell? ⟨w.heap.size + 1 + 1, 8, none⟩ = some (.slice none 0 0) ∧ W.cell? ⟨w.heap.size + 1 + 1, 9, none⟩ = some (.slice none 0 0) ∧ W.cell? ⟨w.heap.size + 1 + 1, 10, none⟩ = some (.slice none 0 0) ∧ W.cell? ⟨w.heap.size + 1 + 1, 11, none⟩ = some (.slice none 0 0) ∧ W.frozen? ⟨w.heap.size + 1 + 1, 0, none⟩ = false ∧ W.frozen? ⟨w.heap.size + 1 + 1, 1, none⟩ = false ∧ W.frozen? ⟨w.heap.size + 1 + 1, 2, none⟩ = false ∧ W.frozen? ⟨w.heap.size + 1 + 1, 3, none⟩ = false ∧ W.frozen? ⟨w.heap.size + 1 + 1, 4, none⟩ = false ∧ W.frozen? ⟨w.heap.size + 1 + 1, 5, none⟩ = false ∧ W.frozen? ⟨w.heap.size + 1 + 1, 6, none⟩ = false ∧ W.frozen? ⟨w.heap.size + 1 + 1, 7, none⟩ = false ∧ W.frozen? ⟨w.heap.size + 1 + 1, 8, none⟩ = false ∧ W.frozen? ⟨w.heap.size + 1 + 1, 9, none⟩ = false ∧ W.frozen? ⟨w.heap.size + 1 + 1, 10, none⟩ = false ∧ W.frozen? ⟨w.heap.size + 1 + 1, 11, none⟩ = false) ∧ W.heap[w.heap.size + 1 + 1]? = some (.cells zs.toArray 33 (0, 0)) ∧ Below w.heap.size w W ∧ w.heap.size < W.heap.size ∧ w.heap.size + 1 < W.heap.size ∧ w.heap.size + 1 + 1 < W.heap.size) := by
    intro W hW
    have hWs := hW.size
    rw [hsz0] at hW hWs
    refine ⟨⟨?_, ?_, ?_, ?_, ?_, ?_, ?_, ?_, ?_, ?_, ?_, ?_, ?_⟩, ⟨?_, ?_, ?_, ?_, ?_, ?_, ?_, ?_, ?_, ?_, ?_, ?_, ?_, ?_, ?_, ?_, ?_, ?_, ?_, ?_, ?_, ?_, ?_, ?_⟩, ?_, hb0.trans (hW.mono (by omega)), by omega, by omega, by omega⟩
    iterate 25 exact (hW.cell (by simp only; omega)).trans (by go_simp)
    iterate 12 exact (hW.frozen (by simp only; omega)).trans (by go_simp)
    · refine (hW.block _ (by omega)).trans ?_
      have := heap_alloc_new ((w.alloc (.cells #[.int .u64 (pos : Int), .int .u64 (done : Int), .int .u64 (made : Int), .slice aDe procs.length cDe, .slice aIn insts.length cIn, .slice aTk tokens.length cTk, .slice aJb jobs.length cJb, .slice aTm timers.length cTm, .slice aSb subs.length cSb, .slice aKp kept.length cKp, .slice aLs listed.length cLs, .slice aMs msgs.length cMs] 33)).alloc (.cells #[.int .i64 r0, .int .i64 r1, .int .u64 (r2 : Int), .int .i64 r3, .int .u64 (r4 : Int), .int .u64 (r5 : Int), .int .u64 (r6 : Int), .int .i64 r7, .int .i64 r8, .string (S r9), .string (S r10), .string (S r11), .slice ra rn rp] 63)) (.cells zs.toArray 33)
      simp only [World.size_alloc] at this
      exact this
  obtain ⟨k2, k3⟩ := KC
  have k2' : (r0 != 2) = true := by simpa using k2
  have k3' : (r0 != 3) = true := by simpa using k3
  have HT : Hid _ := hT
  clear h hz hr hr0 hb0 hT
  go_enter Tryz.func49, Tryz.ntmps49
  go_wp2_with (go_at_call 23; refine CC.mono ?_; rintro e w1 ⟨s9, rfl, hO, hE, hb1⟩; obtain ⟨p9, d9, m9, vDe, lDe, vIn, lIn, vTk, lTk, vJb, lJb, vTm, lTm, vSb, lSb, vKp, lKp, vLs, lLs, vMs, lMs⟩ := s9; obtain ⟨⟨bDe, nDe, dDe, hsDe⟩, ⟨bIn, nIn, dIn, hsIn⟩, ⟨bTk, nTk, dTk, hsTk⟩, ⟨bJb, nJb, dJb, hsJb⟩, ⟨bTm, nTm, dTm, hsTm⟩, ⟨bSb, nSb, dSb, hsSb⟩, ⟨bKp, nKp, dKp, hsKp⟩, ⟨bLs, nLs, dLs, hsLs⟩, ⟨bMs, nMs, dMs, hsMs⟩⟩ := St.slices hO; simp only at hsDe hsIn hsTk hsJb hsTm hsSb hsKp hsLs hsMs; subst hsDe hsIn hsTk hsJb hsTm hsSb hsKp hsLs hsMs; obtain ⟨⟨q0, q1, q2, q3, q4, q5, q6, q7, q8, q9, q10, q11, q12⟩, ⟨z0, z1, z2, z3, z4, z5, z6, z7, z8, z9, z10, z11, g0, g1, g2, g3, g4, g5, g6, g7, g8, g9, g10, g11⟩, ho, hbw, y0, y1, y2⟩ := HS.out w1 hb1; (have e1 : p9 = pos := congrArg St.pos hE); (have e2 : d9 = done := congrArg St.done hE); subst e1 e2; rw [hsz0] at hO hb1; (have HO : Hid _ := hO); (have HE : Hid _ := hE); (have HB : Hid (Below w.heap.size w w1) := hbw); (have HZ : Hid _ := ho); clear hO hE hbw ho hb1 CC HS)
  have hst : St.e ⟨ps, d9, m9, .slice bDe nDe dDe, lDe, .slice bIn nIn dIn, lIn, .slice bTk nTk dTk, lTk, .slice bJb nJb dJb, lJb, .slice bTm nTm dTm, lTm, .slice bSb nSb dSb, lSb, .slice bKp nKp dKp, lKp, .slice bLs nLs dLs, lLs, .slice bMs nMs dMs, lMs⟩ = T := by rw [HT.out, ← HE.out]; rfl
  obtain ⟨hg, hA⟩ := Apd.of2 (w := w) (W := w1) (t := ⟨ps, d9, m9, .slice bDe nDe dDe, lDe, .slice bIn nIn dIn, lIn, .slice bTk nTk dTk, lTk, .slice bJb nJb dJb, lJb, .slice bTm nTm dTm, lTm, .slice bSb nSb dSb, lSb, .slice bKp nKp dKp, lKp, .slice bLs nLs dLs, lLs, .slice bMs nMs dMs, lMs⟩) HO.out hst rfl HB.out HZ.out (.cells #[.int .u64 (ps : Int), .int .u64 (d9 : Int), .int .u64 (m9 : Int), .slice bDe nDe dDe, .slice bIn nIn dIn, .slice bTk nTk dTk, .slice bJb nJb dJb, .slice bTm nTm dTm, .slice bSb nSb dSb, .slice bKp nKp dKp, .slice bLs nLs dLs, .slice bMs nMs dMs] 33)
  refine bodyPost_ret (results_cell_row rfl _ _ (w.heap.size + 1 + 1) 33 _ (0, 0) _ rfl hg Tryz.underlying33 rfl size12) rfl ?_
  exact hA


set_option maxHeartbeats 4000000 in
set_option maxRecDepth 100000 in
theorem Apply_refusal {w : World} {s : St} {r : Rc} {ps : Nat} (h : Sv w s) (hz : Sz s) (hr : Rr 4 Vr.c w r.vv r.v) (KC : r.cl = 3) {T : St} (hT : T = { s.e with pos := ps, done := max s.done r.fr }) :
    Calls Tryz.prog 49 #[.agg s.c.toArray, .int .u64 (ps : Int), .agg r.cs.toArray] w (Apd w T) := by
  have hr0 := hr
  obtain ⟨ra, rp, hra, -⟩ := id hr
  obtain ⟨r0, r1, r2, r3, r4, r5, r6, r7, r8, r9, r10, r11, rvv, rv⟩ := r
  simp only at hra hr KC
  subst hra
  obtain ⟨pos, done, made, vDe, procs, vIn, insts, vTk, tokens, vJb, jobs, vTm, timers, vSb, subs, vKp, kept, vLs, listed, vMs, msgs⟩ := s
  obtain ⟨aDe, cDe, hs, -⟩ := id h.rDe
  simp only at hs
  subst hs
  obtain ⟨aIn, cIn, hs, -⟩ := id h.rIn
  simp only at hs
  subst hs
  obtain ⟨aTk, cTk, hs, -⟩ := id h.rTk
  simp only at hs
  subst hs
  obtain ⟨aJb, cJb, hs, -⟩ := id h.rJb
  simp only at hs
  subst hs
  obtain ⟨aTm, cTm, hs, -⟩ := id h.rTm
  simp only at hs
  subst hs
  obtain ⟨aSb, cSb, hs, -⟩ := id h.rSb
  simp only at hs
  subst hs
  obtain ⟨aKp, cKp, hs, -⟩ := id h.rKp
  simp only at hs
  subst hs
  obtain ⟨aLs, cLs, hs, -⟩ := id h.rLs
  simp only at hs
  subst hs
  obtain ⟨aMs, cMs, hs, -⟩ := id h.rMs
  simp only at hs
  subst hs
  simp only [Rc.cs, St.c]
  generalize hrn : rv.length = rn at *
  have hb0 : Below w.heap.size w (((w.alloc (.cells #[.int .u64 (pos : Int), .int .u64 (done : Int), .int .u64 (made : Int), .slice aDe procs.length cDe, .slice aIn insts.length cIn, .slice aTk tokens.length cTk, .slice aJb jobs.length cJb, .slice aTm timers.length cTm, .slice aSb subs.length cSb, .slice aKp kept.length cKp, .slice aLs listed.length cLs, .slice aMs msgs.length cMs] 33)).alloc (.cells #[.int .i64 r0, .int .i64 r1, .int .u64 (r2 : Int), .int .i64 r3, .int .u64 (r4 : Int), .int .u64 (r5 : Int), .int .u64 (r6 : Int), .int .i64 r7, .int .i64 r8, .string (S r9), .string (S r10), .string (S r11), .slice ra rn rp] 63)).alloc (.cells #[.int .u64 0, .int .u64 0, .int .u64 0, .slice none 0 0, .slice none 0 0, .slice none 0 0, .slice none 0 0, .slice none 0 0, .slice none 0 0, .slice none 0 0, .slice none 0 0, .slice none 0 0] 33)) := (((Below.refl _ w).alloc (Nat.le_refl _) _).alloc (by simp) _).alloc (by simp; omega) _
  have hsz0 : (((w.alloc (.cells #[.int .u64 (pos : Int), .int .u64 (done : Int), .int .u64 (made : Int), .slice aDe procs.length cDe, .slice aIn insts.length cIn, .slice aTk tokens.length cTk, .slice aJb jobs.length cJb, .slice aTm timers.length cTm, .slice aSb subs.length cSb, .slice aKp kept.length cKp, .slice aLs listed.length cLs, .slice aMs msgs.length cMs] 33)).alloc (.cells #[.int .i64 r0, .int .i64 r1, .int .u64 (r2 : Int), .int .i64 r3, .int .u64 (r4 : Int), .int .u64 (r5 : Int), .int .u64 (r6 : Int), .int .i64 r7, .int .i64 r8, .string (S r9), .string (S r10), .string (S r11), .slice ra rn rp] 63)).alloc (.cells #[.int .u64 0, .int .u64 0, .int .u64 0, .slice none 0 0, .slice none 0 0, .slice none 0 0, .slice none 0 0, .slice none 0 0, .slice none 0 0, .slice none 0 0, .slice none 0 0, .slice none 0 0] 33)).heap.size = w.heap.size + 3 := by simp
  have CC := Clone_any (h.up hb0) hz
  simp only [St.c] at CC
  have HS : Hid (∀ W, Below (((w.alloc (.cells #[.int .u64 (pos : Int), .int .u64 (done : Int), .int .u64 (made : Int), .slice aDe procs.length cDe, .slice aIn insts.length cIn, .slice aTk tokens.length cTk, .slice aJb jobs.length cJb, .slice aTm timers.length cTm, .slice aSb subs.length cSb, .slice aKp kept.length cKp, .slice aLs listed.length cLs, .slice aMs msgs.length cMs] 33)).alloc (.cells #[.int .i64 r0, .int .i64 r1, .int .u64 (r2 : Int), .int .i64 r3, .int .u64 (r4 : Int), .int .u64 (r5 : Int), .int .u64 (r6 : Int), .int .i64 r7, .int .i64 r8, .string (S r9), .string (S r10), .string (S r11), .slice ra rn rp] 63)).alloc (.cells #[.int .u64 0, .int .u64 0, .int .u64 0, .slice none 0 0, .slice none 0 0, .slice none 0 0, .slice none 0 0, .slice none 0 0, .slice none 0 0, .slice none 0 0, .slice none 0 0, .slice none 0 0] 33)).heap.size (((w.alloc (.cells #[.int .u64 (pos : Int), .int .u64 (done : Int), .int .u64 (made : Int), .slice aDe procs.length cDe, .slice aIn insts.length cIn, .slice aTk tokens.length cTk, .slice aJb jobs.length cJb, .slice aTm timers.length cTm, .slice aSb subs.length cSb, .slice aKp kept.length cKp, .slice aLs listed.length cLs, .slice aMs msgs.length cMs] 33)).alloc (.cells #[.int .i64 r0, .int .i64 r1, .int .u64 (r2 : Int), .int .i64 r3, .int .u64 (r4 : Int), .int .u64 (r5 : Int), .int .u64 (r6 : Int), .int .i64 r7, .int .i64 r8, .string (S r9), .string (S r10), .string (S r11), .slice ra rn rp] 63)).alloc (.cells #[.int .u64 0, .int .u64 0, .int .u64 0, .slice none 0 0, .slice none 0 0, .slice none 0 0, .slice none 0 0, .slice none 0 0, .slice none 0 0, .slice none 0 0, .slice none 0 0, .slice none 0 0] 33)) W → (W.cell? ⟨w.heap.size + 1, 0, none⟩ = some (.int .i64 r0) ∧ W.cell? ⟨w.heap.size + 1, 1, none⟩ = some (.int .i64 r1) ∧ W.cell? ⟨w.heap.size + 1, 2, none⟩ = some (.int .u64 (r2 : Int)) ∧ W.cell? ⟨w.heap.size + 1, 3, none⟩ = some (.int .i64 r3) ∧ W.cell? ⟨w.heap.size + 1, 4, none⟩ = some (.int .u64 (r4 : Int)) ∧ W.cell? ⟨w.heap.size + 1, 5, none⟩ = some (.int .u64 (r5 : Int)) ∧ W.cell? ⟨w.heap.size + 1, 6, none⟩ = some (.int .u64 (r6 : Int)) ∧ W.cell? ⟨w.heap.size + 1, 7, none⟩ = some (.int .i64 r7) ∧ W.cell? ⟨w.heap.size + 1, 8, none⟩ = some (.int .i64 r8) ∧ W.cell? ⟨w.heap.size + 1, 9, none⟩ = some (.string (S r9)) ∧ W.cell? ⟨w.heap.size + 1, 10, none⟩ = some (.string (S r10)) ∧ W.cell? ⟨w.heap.size + 1, 11, none⟩ = some (.string (S r11)) ∧ W.cell? ⟨w.heap.size + 1, 12, none⟩ = some (.slice ra rn rp)) ∧ (W.cell? ⟨w.heap.size + 1 + 1, 0, none⟩ = some (.int .u64 0) ∧ W.cell? ⟨w.heap.size + 1 + 1, 1, none⟩ = some (.int .u64 0) ∧ W.cell? ⟨w.heap.size + 1 + 1, 2, none⟩ = some (.int .u64 0) ∧ W.cell? ⟨w.heap.size + 1 + 1, 3, none⟩ = some (.slice none 0 0) ∧ W.cell? ⟨w.heap.size + 1 + 1, 4, none⟩ = some (.slice none 0 0) ∧ W.cell? ⟨w.heap.size + 1 + 1, 5, none⟩ = some (.slice none 0 0) ∧ W.cell? ⟨w.heap.size + 1 + 1, 6, none⟩ = some (.slice none 0 0) ∧ W.cell? ⟨w.heap.size + 1 + 1, 7, none⟩ = some (.slice none 0 0) ∧ W.cell? ⟨w.heap.size + 1 + 1, 8, none⟩ = some (.slice none 0 0) ∧ W.cell? ⟨w.heap.size + 1 + 1, 9, none⟩ = some (.slice none 0 0) ∧ W.cell? ⟨w.heap.size + 1 + 1, 10, none⟩ = some (.slice none 0 0) ∧ W.cell? ⟨w.heap.size + 1 + 1, 11, none⟩ = some (.slice none 0 0) ∧ W.frozen? ⟨w.heap.size + 1 + 1, 0, none⟩ = false ∧ W.frozen? ⟨w.heap.size + 1 + 1, 1, none⟩ = false ∧ W.frozen? ⟨w.heap.size + 1 + 1, 2, none⟩ = false ∧ W.frozen? ⟨w.heap.size + 1 + 1, 3, none⟩ = false ∧ W.frozen? ⟨w.heap.size + 1 + 1, 4, none⟩ = false ∧ W.frozen? ⟨w.heap.size + 1 + 1, 5, none⟩ = false ∧ W.frozen? ⟨w.heap.size + 1 + 1, 6, none⟩ = false ∧ W.frozen? ⟨w.heap.size + 1 + 1, 7, none⟩ = false ∧ W.frozen? ⟨w.heap.size + 1 + 1, 8, none⟩ = false ∧ W.frozen? ⟨w.heap.size + 1 + 1, 9, none⟩ = false ∧ W.frozen? ⟨w.heap.size + 1 + 1, 10, none⟩ = false ∧ W.frozen? ⟨w.heap.size + 1 + 1, 11, none⟩ = false) ∧ W.heap[w.heap.size + 1 + 1]? = some (.cells zs.toArray 33 (0, 0)) ∧ Below w.heap.size w W ∧ w.heap.size < W.heap.size ∧ w.heap.size + 1 < W.heap.size ∧ w.heap.size + 1 + 1 < W.heap.size) := by
    intro W hW
    have hWs := hW.size
    rw [hsz0] at hW hWs
    refine ⟨⟨?_, ?_, ?_, ?_, ?_, ?_, ?_, ?_, ?_, ?_, ?_, ?_, ?_⟩, ⟨?_, ?_, ?_, ?_, ?_, ?_, ?_, ?_, ?_, ?_, ?_, ?_, ?_, ?_, ?_, ?_, ?_, ?_, ?_, ?_, ?_, ?_, ?_, ?_⟩, ?_, hb0.trans (hW.mono (by omega)), by omega, by omega, by omega⟩
    iterate 25 exact (hW.cell (by simp only; omega)).trans (by go_simp)
    iterate 12 exact (hW.frozen (by simp only; omega)).trans (by go_simp)
    · refine (hW.block _ (by omega)).trans ?_
      have := heap_alloc_new ((w.alloc (.cells #[.int .u64 (pos : Int), .int .u64 (done : Int), .int .u64 (made : Int), .slice aDe procs.length cDe, .slice aIn insts.length cIn, .slice aTk tokens.length cTk, .slice aJb jobs.length cJb, .slice aTm timers.length cTm, .slice aSb subs.length cSb, .slice aKp kept.length cKp, .slice aLs listed.length cLs, .slice aMs msgs.length cMs] 33)).alloc (.cells #[.int .i64 r0, .int .i64 r1, .int .u64 (r2 : Int), .int .i64 r3, .int .u64 (r4 : Int), .int .u64 (r5 : Int), .int .u64 (r6 : Int), .int .i64 r7, .int .i64 r8, .string (S r9), .string (S r10), .string (S r11), .slice ra rn rp] 63)) (.cells zs.toArray 33)
      simp only [World.size_alloc] at this
      exact this
  subst KC
  have HT : Hid _ := hT
  clear h hz hr hr0 hb0 hT
  go_enter Tryz.func49, Tryz.ntmps49
  go_wp2_with (go_at_call 23; refine CC.mono ?_; rintro e w1 ⟨s9, rfl, hO, hE, hb1⟩; obtain ⟨p9, d9, m9, vDe, lDe, vIn, lIn, vTk, lTk, vJb, lJb, vTm, lTm, vSb, lSb, vKp, lKp, vLs, lLs, vMs, lMs⟩ := s9; obtain ⟨⟨bDe, nDe, dDe, hsDe⟩, ⟨bIn, nIn, dIn, hsIn⟩, ⟨bTk, nTk, dTk, hsTk⟩, ⟨bJb, nJb, dJb, hsJb⟩, ⟨bTm, nTm, dTm, hsTm⟩, ⟨bSb, nSb, dSb, hsSb⟩, ⟨bKp, nKp, dKp, hsKp⟩, ⟨bLs, nLs, dLs, hsLs⟩, ⟨bMs, nMs, dMs, hsMs⟩⟩ := St.slices hO; simp only at hsDe hsIn hsTk hsJb hsTm hsSb hsKp hsLs hsMs; subst hsDe hsIn hsTk hsJb hsTm hsSb hsKp hsLs hsMs; obtain ⟨⟨q0, q1, q2, q3, q4, q5, q6, q7, q8, q9, q10, q11, q12⟩, ⟨z0, z1, z2, z3, z4, z5, z6, z7, z8, z9, z10, z11, g0, g1, g2, g3, g4, g5, g6, g7, g8, g9, g10, g11⟩, ho, hbw, y0, y1, y2⟩ := HS.out w1 hb1; (have e1 : p9 = pos := congrArg St.pos hE); (have e2 : d9 = done := congrArg St.done hE); subst e1 e2; rw [hsz0] at hO hb1; (have HO : Hid _ := hO); (have HE : Hid _ := hE); (have HB : Hid (Below w.heap.size w w1) := hbw); (have HZ : Hid _ := ho); clear hO hE hbw ho hb1 CC HS)
  have hmx : max (d9 : Int) (r2 : Int) = ((max d9 r2 : Nat) : Int) := by omega
  rw [hmx]
  have hst : St.e ⟨ps, (max d9 r2), m9, .slice bDe nDe dDe, lDe, .slice bIn nIn dIn, lIn, .slice bTk nTk dTk, lTk, .slice bJb nJb dJb, lJb, .slice bTm nTm dTm, lTm, .slice bSb nSb dSb, lSb, .slice bKp nKp dKp, lKp, .slice bLs nLs dLs, lLs, .slice bMs nMs dMs, lMs⟩ = T := by rw [HT.out, ← HE.out]; rfl
  obtain ⟨hg, hA⟩ := Apd.of2 (w := w) (W := w1) (t := ⟨ps, (max d9 r2), m9, .slice bDe nDe dDe, lDe, .slice bIn nIn dIn, lIn, .slice bTk nTk dTk, lTk, .slice bJb nJb dJb, lJb, .slice bTm nTm dTm, lTm, .slice bSb nSb dSb, lSb, .slice bKp nKp dKp, lKp, .slice bLs nLs dLs, lLs, .slice bMs nMs dMs, lMs⟩) HO.out hst rfl HB.out HZ.out (.cells #[.int .u64 (ps : Int), .int .u64 ((max d9 r2 : Nat) : Int), .int .u64 (m9 : Int), .slice bDe nDe dDe, .slice bIn nIn dIn, .slice bTk nTk dTk, .slice bJb nJb dJb, .slice bTm nTm dTm, .slice bSb nSb dSb, .slice bKp nKp dKp, .slice bLs nLs dLs, .slice bMs nMs dMs] 33)
  refine bodyPost_ret (results_cell_row rfl _ _ (w.heap.size + 1 + 1) 33 _ (0, 0) _ rfl hg Tryz.underlying33 rfl size12) rfl ?_
  exact hA

end Go.Proofs.YthmfcloecmnfnaaGreat.f13

/-
  Package fold's Clone: the same state in other memory.
-/
import Derived.Test.YthmfcloecmnfnaaGreatGClo
namespace Go.Proofs.YthmfcloecmnfnaaGreat.f13
open Go.RowKit Go.Shelf Go.Sort
open Go.Lib hiding intOf

/-- a state's cells in a block of their own -/
def bx (sb : Nat) (cs : List Value) : Rw := ⟨33, 12, .slice (some ⟨sb, 0, none⟩) 1 1, 1, cs⟩
theorem bx.cell {B : Nat} {w : World} {sb : Nat} {cs : List Value} {L : List Rw} (h : Own B w L) (hm : bx sb cs ∈ L) {j : Nat} {u : Value} (hj : cs[j]? = some u) : w.cell? ⟨sb, j, none⟩ = some u := row_cell (h.own _ hm) hj
theorem bx.fro {B : Nat} {w : World} {sb : Nat} {cs : List Value} {L : List Rw} (h : Own B w L) (hm : bx sb cs ∈ L) (j : Nat) : w.frozen? ⟨sb, j, none⟩ = false := row_fro (h.own _ hm) j
theorem bx.put {B : Nat} {w : World} {sb : Nat} {cs : List Value} {L : List Rw} (h : Own B w (bx sb cs :: L)) (j : Nat) (u : Value) : Own B (w.setCell ⟨sb, j, none⟩ u) (bx sb (cs.set j u) :: L) :=
  h.turn (r' := bx sb (cs.set j u)) (ch_cell w sb j u) (row_put (h.own _ (List.mem_cons_self ..)) j u) (fun _ hg => .inl hg)
theorem bx.new {B : Nat} {w : World} {L : List Rw} (h : Own B w L) (hB : B ≤ w.heap.size) (cs : List Value) (hl : cs.length = 12) : Own B (w.alloc (.cells cs.toArray 33)) (bx w.heap.size cs :: L) := by
  refine h.add (r := bx w.heap.size cs) ((Below.refl _ w).alloc (Nat.le_refl _) _) ?_ hB
  refine ⟨hl, .inr ⟨w.heap.size, 1, cs.toArray, rfl, Nat.le_refl _, heap_alloc_new w _, Nat.le_refl _, by unfold maxLen; omega, ?_, ?_⟩⟩
  · rw [List.size_toArray]; exact hl
  · show cs.toArray.toList.take (1 * 12) = cs
    rw [List.take_of_length_le (by simp; omega)]
theorem bx.below {B : Nat} {w u : World} {sb : Nat} {cs : List Value} {L : List Rw} (h : Own B w L) (hm : bx sb cs ∈ L) (hb : Below B u w) (hB : B ≤ u.heap.size) (j : Nat) (v : Value) : Below B u (w.setCell ⟨sb, j, none⟩ v) :=
  hb.trans (((Ch.refl (fun b => b = sb) w).setCell ⟨sb, j, none⟩ v (fun _ => rfl)).below (Nat.le_trans hB hb.size) (fun k hk e => by have := ((h.own _ hm).lt sb rfl).1; omega))
def zs : List Value := [.int .u64 0, .int .u64 0, .int .u64 0, .slice none 0 0, .slice none 0 0, .slice none 0 0, .slice none 0 0, .slice none 0 0, .slice none 0 0, .slice none 0 0, .slice none 0 0, .slice none 0 0]
/-- sizes of a state -/
structure Sz (s : St) : Prop where
  nDe : s.procs.length * 32 ≤ 211106232528000
  nIn : s.insts.length * 48 ≤ 211106232528000
  nTk : s.tokens.length * 56 ≤ 211106232528000
  nJb : s.jobs.length * 64 ≤ 211106232528000
  nTm : s.timers.length * 24 ≤ 211106232528000
  nSb : s.subs.length * 64 ≤ 211106232528000
  nKp : s.kept.length * 24 ≤ 211106232528000
  nLs : s.listed.length * 88 ≤ 211106232528000
  nMs : s.msgs.length * 112 ≤ 211106232528000
  mIn : ∀ x ∈ s.insts, x.vars.length * 48 ≤ 211106232528000
  mLs : ∀ x ∈ s.listed, x.vars.length * 48 ≤ 211106232528000
  mMs : ∀ x ∈ s.msgs, x.vars.length * 48 ≤ 211106232528000
  kMs : ∀ x ∈ s.msgs, x.its.length * 8 ≤ 211106232528000

theorem Own.join {B : Nat} {w w' : World} {L M : List Rw} (h : Own B w L) (hb : Below w.heap.size w w') (hm : Own w.heap.size w' M) (hB : B ≤ w.heap.size) : Own B w' (M ++ L) := by
  refine ⟨fun q hq => ?_, List.pairwise_append.2 ⟨hm.apart, h.apart, fun r hr q hq g hg hg' => ?_⟩⟩
  · rcases List.mem_append.1 hq with hq | hq
    · exact (hm.base hB).own q hq
    · exact (h.up hb).own q hq
  · have h1 := ((hm.own r hr).lt g hg).1
    have h2 := ((h.own q hq).lt g hg').2
    omega

theorem Own.single {B : Nat} {w : World} {r : Rw} (h : r.ok B w) : Own B w [r] := ⟨fun q hq => by rw [List.mem_singleton.1 hq]; exact h, List.pairwise_singleton _ _⟩
/-- what a step of Clone leaves -/
structure Stp (B : Nat) (u w1 : World) (sb rb : Nat) (cs : List Value) (R : List Rw) (j : Nat) (v : Value) : Prop where
  own : Own B (w1.setCell ⟨sb, j, none⟩ v) (bx sb (cs.set j v) :: bx rb zs :: R)
  bel : Below B u (w1.setCell ⟨sb, j, none⟩ v)
  c : ∀ (k : Nat) (x : Value), cs[k]? = some x → w1.cell? ⟨sb, k, none⟩ = some x
  f : ∀ k : Nat, w1.frozen? ⟨sb, k, none⟩ = false
  d : ∀ (k : Nat) (x : Value), zs[k]? = some x → w1.cell? ⟨rb, k, none⟩ = some x
  g : ∀ k : Nat, w1.frozen? ⟨rb, k, none⟩ = false
theorem Stp.of {B : Nat} {u w w1 : World} {sb rb : Nat} {cs : List Value} {R M : List Rw} (h : Own B w (bx sb cs :: bx rb zs :: R)) (hu : Below B u w) (hB : B ≤ u.heap.size) (hb : Below w.heap.size w w1) (hm : Own w.heap.size w1 M) (j : Nat) (v : Value) : Stp B u w1 sb rb cs (M ++ R) j v := by
  have hBw : B ≤ w.heap.size := Nat.le_trans hB hu.size
  have h1 := (h.join hb hm hBw).perm (List.perm_middle.trans (List.Perm.cons _ List.perm_middle))
  refine ⟨bx.put h1 j v, bx.below h1 (List.mem_cons_self ..) (hu.trans (hb.mono hBw)) hB j v, fun k x hk => bx.cell h1 (List.mem_cons_self ..) hk, fun k => bx.fro h1 (List.mem_cons_self ..) k, fun k x hk => bx.cell h1 (List.mem_cons_of_mem _ (List.mem_cons_self ..)) hk, fun k => bx.fro h1 (List.mem_cons_of_mem _ (List.mem_cons_self ..)) k⟩
theorem perm_ac {L M : List Rw} (h : ∀ [DecidableEq Rw] (x : Rw), L.count x = M.count x) : L.Perm M := by
  classical
  exact List.perm_iff_count.2 h

/-- all twelve cells of a state are set -/
def set12 (w : World) (rb : Nat) (c0 c1 c2 c3 c4 c5 c6 c7 c8 c9 c10 c11 : Value) : World := ((((((((((((w.setCell ⟨rb, 0, none⟩ c0).setCell ⟨rb, 1, none⟩ c1).setCell ⟨rb, 2, none⟩ c2).setCell ⟨rb, 3, none⟩ c3).setCell ⟨rb, 4, none⟩ c4).setCell ⟨rb, 5, none⟩ c5).setCell ⟨rb, 6, none⟩ c6).setCell ⟨rb, 7, none⟩ c7).setCell ⟨rb, 8, none⟩ c8).setCell ⟨rb, 9, none⟩ c9).setCell ⟨rb, 10, none⟩ c10).setCell ⟨rb, 11, none⟩ c11)
theorem bx.put12 {B : Nat} {w : World} {rb : Nat} {L : List Rw} (h : Own B w (bx rb zs :: L)) (c0 c1 c2 c3 c4 c5 c6 c7 c8 c9 c10 c11 : Value) : Own B (set12 w rb c0 c1 c2 c3 c4 c5 c6 c7 c8 c9 c10 c11) (bx rb [c0, c1, c2, c3, c4, c5, c6, c7, c8, c9, c10, c11] :: L) := (bx.put (bx.put (bx.put (bx.put (bx.put (bx.put (bx.put (bx.put (bx.put (bx.put (bx.put (bx.put h 0 c0) 1 c1) 2 c2) 3 c3) 4 c4) 5 c5) 6 c6) 7 c7) 8 c8) 9 c9) 10 c10) 11 c11)
theorem set12_ch (w : World) (rb : Nat) (c0 c1 c2 c3 c4 c5 c6 c7 c8 c9 c10 c11 : Value) : Ch (fun g => g = rb) w (set12 w rb c0 c1 c2 c3 c4 c5 c6 c7 c8 c9 c10 c11) := (((((((((((((Ch.refl (fun g => g = rb) w).setCell ⟨rb, 0, none⟩ c0 (fun _ => rfl)).setCell ⟨rb, 1, none⟩ c1 (fun _ => rfl)).setCell ⟨rb, 2, none⟩ c2 (fun _ => rfl)).setCell ⟨rb, 3, none⟩ c3 (fun _ => rfl)).setCell ⟨rb, 4, none⟩ c4 (fun _ => rfl)).setCell ⟨rb, 5, none⟩ c5 (fun _ => rfl)).setCell ⟨rb, 6, none⟩ c6 (fun _ => rfl)).setCell ⟨rb, 7, none⟩ c7 (fun _ => rfl)).setCell ⟨rb, 8, none⟩ c8 (fun _ => rfl)).setCell ⟨rb, 9, none⟩ c9 (fun _ => rfl)).setCell ⟨rb, 10, none⟩ c10 (fun _ => rfl)).setCell ⟨rb, 11, none⟩ c11 (fun _ => rfl))
theorem bx.obj {B : Nat} {w : World} {sb : Nat} {cs : List Value} {L : List Rw} (h : Own B w L) (hm : bx sb cs ∈ L) : w.heap[sb]? = some (.cells cs.toArray 33 (0, 0)) := by
  obtain ⟨h1, h2⟩ := h.own _ hm
  rcases h2 with ⟨e, -⟩ | ⟨g, cap, cur, e, hb, hg, hnc, hcm, hcs, htake⟩
  · cases e
  · simp only [bx, Value.slice.injEq, Option.some.injEq, Addr.mk.injEq] at e
    obtain ⟨⟨rfl, -⟩, -, rfl⟩ := e
    rw [hg]
    simp only [bx] at htake hcs
    rw [List.take_of_length_le (by simp [hcs])] at htake
    rw [← htake]
    simp [bx]
theorem size12 : (Tryz.prog.info? 33).map (·.size) = some 12 := by kernel_rfl
/-- what a walk that ends with the state in its result's cells comes to -/
theorem ret12 {B : Nat} {u w : World} {sb rb : Nat} {ds : List Value} {R : List Rw} (h : Own B w (bx sb ds :: bx rb zs :: R)) (hb : Below B u w) (hB : B ≤ u.heap.size) (c0 c1 c2 c3 c4 c5 c6 c7 c8 c9 c10 c11 : Value) : (set12 w rb c0 c1 c2 c3 c4 c5 c6 c7 c8 c9 c10 c11).heap[rb]? = some (.cells #[c0, c1, c2, c3, c4, c5, c6, c7, c8, c9, c10, c11] 33 (0, 0)) ∧ Own B (set12 w rb c0 c1 c2 c3 c4 c5 c6 c7 c8 c9 c10 c11) R ∧ Below B u (set12 w rb c0 c1 c2 c3 c4 c5 c6 c7 c8 c9 c10 c11) := by
  have h1 := bx.put12 (h.perm (List.Perm.swap _ _ _)) c0 c1 c2 c3 c4 c5 c6 c7 c8 c9 c10 c11
  have hr := ((h.own (bx rb zs) (List.mem_cons_of_mem _ (List.mem_cons_self ..))).lt rb rfl).1
  exact ⟨bx.obj h1 (List.mem_cons_self ..), h1.sub ((List.sublist_cons_self _ _).trans (List.sublist_cons_self _ _)), hb.trans ((set12_ch w rb c0 c1 c2 c3 c4 c5 c6 c7 c8 c9 c10 c11).below (Nat.le_trans hB hb.size) (fun k hk e => by omega))⟩

set_option maxHeartbeats 8000000 in
set_option maxRecDepth 100000 in
theorem Clone_any {w : World} {s : St} (h : Sv w s) (hz : Sz s) :
    Calls Tryz.prog 23 #[.agg s.c.toArray] w fun e w' => ∃ s' : St, e = .returned (.agg s'.c.toArray) ∧ Own w.heap.size w' s'.rows ∧ s'.e = s.e ∧ Below w.heap.size w w' := by
  have CDe : Hid (∀ W, Below w.heap.size w W → Calls Tryz.prog 32 #[s.vDe] W fun e w' => ∃ v', e = .returned v' ∧ w'.ownsRow W.heap.size 92 2 v' s.procs.length (s.procs.flatMap De.c) ∧ Below W.heap.size W w') := fun W hW => freshDe_any (h.rDe.up hW) hz.nDe
  have CIn : Hid (∀ W, Below w.heap.size w W → Calls Tryz.prog 33 #[s.vIn, .func (.func 34) #[] #[]] W fun e w' => ∃ v' M, e = .returned v' ∧ M.map In.e = s.insts.map In.e ∧ Own W.heap.size w' (In.rw v' M :: M.map In.r) ∧ Below W.heap.size W w') := fun W hW => withinIn_any (h.rIn.up hW) hz.nIn (fun x hx => (h.iIn x hx).up hW) hz.mIn
  have CTk : Hid (∀ W, Below w.heap.size w W → Calls Tryz.prog 36 #[s.vTk] W fun e w' => ∃ v', e = .returned v' ∧ w'.ownsRow W.heap.size 66 6 v' s.tokens.length (s.tokens.flatMap Tk.c) ∧ Below W.heap.size W w') := fun W hW => freshTk_any (h.rTk.up hW) hz.nTk
  have CJb : Hid (∀ W, Below w.heap.size w W → Calls Tryz.prog 37 #[s.vJb] W fun e w' => ∃ v', e = .returned v' ∧ w'.ownsRow W.heap.size 46 6 v' s.jobs.length (s.jobs.flatMap Jb.c) ∧ Below W.heap.size W w') := fun W hW => freshJb_any (h.rJb.up hW) hz.nJb
  have CTm : Hid (∀ W, Below w.heap.size w W → Calls Tryz.prog 38 #[s.vTm] W fun e w' => ∃ v', e = .returned v' ∧ w'.ownsRow W.heap.size 70 3 v' s.timers.length (s.timers.flatMap Tm.c) ∧ Below W.heap.size W w') := fun W hW => freshTm_any (h.rTm.up hW) hz.nTm
  have CSb : Hid (∀ W, Below w.heap.size w W → Calls Tryz.prog 39 #[s.vSb] W fun e w' => ∃ v', e = .returned v' ∧ w'.ownsRow W.heap.size 107 6 v' s.subs.length (s.subs.flatMap Sb.c) ∧ Below W.heap.size W w') := fun W hW => freshSb_any (h.rSb.up hW) hz.nSb
  have CKp : Hid (∀ W, Below w.heap.size w W → Calls Tryz.prog 40 #[s.vKp] W fun e w' => ∃ v', e = .returned v' ∧ w'.ownsRow W.heap.size 110 3 v' s.kept.length (s.kept.flatMap Kp.c) ∧ Below W.heap.size W w') := fun W hW => freshKp_any (h.rKp.up hW) hz.nKp
  have CLs : Hid (∀ W, Below w.heap.size w W → Calls Tryz.prog 41 #[s.vLs, .func (.func 42) #[] #[]] W fun e w' => ∃ v' M, e = .returned v' ∧ M.map Ls.e = s.listed.map Ls.e ∧ Own W.heap.size w' (Ls.rw v' M :: M.map Ls.r) ∧ Below W.heap.size W w') := fun W hW => withinLs_any (h.rLs.up hW) hz.nLs (fun x hx => (h.iLs x hx).up hW) hz.mLs
  have CMs : Hid (∀ W, Below w.heap.size w W → Calls Tryz.prog 43 #[s.vMs, .func (.func 44) #[] #[]] W fun e w' => ∃ v' M, e = .returned v' ∧ M.map Ms.e = s.msgs.map Ms.e ∧ Own W.heap.size w' (Ms.rw v' M :: (M.map Ms.r ++ M.map Ms.q)) ∧ Below W.heap.size W w') := fun W hW => withinMs_any (h.rMs.up hW) hz.nMs (fun x hx => (h.iMs x hx).up hW) (fun x hx => (h.qMs x hx).up hW) hz.mMs hz.kMs
  obtain ⟨pos, done, made, vDe, procs, vIn, insts, vTk, tokens, vJb, jobs, vTm, timers, vSb, subs, vKp, kept, vLs, listed, vMs, msgs⟩ := s
  simp only at CDe CIn CTk CJb CTm CSb CKp CLs CMs
  obtain ⟨aDe, cDe, hs, -⟩ := id h.rDe
  simp only at hs
  subst hs
  obtain ⟨aIn, cIn, hs, -⟩ := id h.rIn
  simp only at hs
  subst hs
  obtain ⟨aTk, cTk, hs, -⟩ := id h.rTk
  simp only at hs
  subst hs
  obtain ⟨aJb, cJb, hs, -⟩ := id h.rJb
  simp only at hs
  subst hs
  obtain ⟨aTm, cTm, hs, -⟩ := id h.rTm
  simp only at hs
  subst hs
  obtain ⟨aSb, cSb, hs, -⟩ := id h.rSb
  simp only at hs
  subst hs
  obtain ⟨aKp, cKp, hs, -⟩ := id h.rKp
  simp only at hs
  subst hs
  obtain ⟨aLs, cLs, hs, -⟩ := id h.rLs
  simp only at hs
  subst hs
  obtain ⟨aMs, cMs, hs, -⟩ := id h.rMs
  simp only at hs
  subst hs
  clear h hz
  have H0 : Hid (Own w.heap.size ((w.alloc (.cells #[.int .u64 (pos : Int), .int .u64 (done : Int), .int .u64 (made : Int), .slice aDe procs.length cDe, .slice aIn insts.length cIn, .slice aTk tokens.length cTk, .slice aJb jobs.length cJb, .slice aTm timers.length cTm, .slice aSb subs.length cSb, .slice aKp kept.length cKp, .slice aLs listed.length cLs, .slice aMs msgs.length cMs] 33)).alloc (.cells #[.int .u64 0, .int .u64 0, .int .u64 0, .slice none 0 0, .slice none 0 0, .slice none 0 0, .slice none 0 0, .slice none 0 0, .slice none 0 0, .slice none 0 0, .slice none 0 0, .slice none 0 0] 33)) [bx w.heap.size [.int .u64 (pos : Int), .int .u64 (done : Int), .int .u64 (made : Int), .slice aDe procs.length cDe, .slice aIn insts.length cIn, .slice aTk tokens.length cTk, .slice aJb jobs.length cJb, .slice aTm timers.length cTm, .slice aSb subs.length cSb, .slice aKp kept.length cKp, .slice aLs listed.length cLs, .slice aMs msgs.length cMs], bx (w.heap.size + 1) zs] ∧ Below w.heap.size w ((w.alloc (.cells #[.int .u64 (pos : Int), .int .u64 (done : Int), .int .u64 (made : Int), .slice aDe procs.length cDe, .slice aIn insts.length cIn, .slice aTk tokens.length cTk, .slice aJb jobs.length cJb, .slice aTm timers.length cTm, .slice aSb subs.length cSb, .slice aKp kept.length cKp, .slice aLs listed.length cLs, .slice aMs msgs.length cMs] 33)).alloc (.cells #[.int .u64 0, .int .u64 0, .int .u64 0, .slice none 0 0, .slice none 0 0, .slice none 0 0, .slice none 0 0, .slice none 0 0, .slice none 0 0, .slice none 0 0, .slice none 0 0, .slice none 0 0] 33))) := by
    have h1 := bx.new (Own.nil w.heap.size w) (Nat.le_refl _) [.int .u64 (pos : Int), .int .u64 (done : Int), .int .u64 (made : Int), .slice aDe procs.length cDe, .slice aIn insts.length cIn, .slice aTk tokens.length cTk, .slice aJb jobs.length cJb, .slice aTm timers.length cTm, .slice aSb subs.length cSb, .slice aKp kept.length cKp, .slice aLs listed.length cLs, .slice aMs msgs.length cMs] rfl
    have h2 := bx.new h1 (by simp) zs rfl
    rw [World.size_alloc] at h2
    refine ⟨(h2.perm (List.Perm.swap _ _ _)), ?_⟩
    exact ((Below.refl _ w).alloc (Nat.le_refl _) _).alloc (by simp) _
  simp only [St.c]
  go_enter Tryz.func23, Tryz.ntmps23
  go_wp2_with (first
    | (go_at_call 32; refine (CDe.out _ H0.out.2).mono ?_; rintro e w0 ⟨vDe, rfl, rDe, bDew⟩; obtain ⟨bDe, dDe, rfl, -, hcDe, -⟩ := row_slice rDe; (have S0 : Hid (Stp w.heap.size w w0 w.heap.size (w.heap.size + 1) [.int .u64 (pos : Int), .int .u64 (done : Int), .int .u64 (made : Int), .slice aDe procs.length cDe, .slice aIn insts.length cIn, .slice aTk tokens.length cTk, .slice aJb jobs.length cJb, .slice aTm timers.length cTm, .slice aSb subs.length cSb, .slice aKp kept.length cKp, .slice aLs listed.length cLs, .slice aMs msgs.length cMs] ([De.rw (.slice bDe procs.length dDe) procs] ++ []) 3 (.slice bDe procs.length dDe)) := Stp.of H0.out.1 H0.out.2 (Nat.le_refl _) bDew (Own.single (r := De.rw (.slice bDe procs.length dDe) procs) rDe) 3 _); (have q0 := S0.out.c 3 _ rfl); have f0 := S0.out.f 3; have m0 := S0.out.c 4 _ rfl; clear rDe bDew CDe)
    | (go_at_call 33; refine (CIn.out _ S0.out.bel).mono ?_; rintro e w1 ⟨vIn, MIn, rfl, eIn, rIn, bInw⟩; (have lIn : MIn.length = insts.length := by simpa using congrArg List.length eIn); obtain ⟨bIn, dIn, hsIn, -, hcIn, -⟩ := row_slice (rIn.own _ (List.mem_cons_self ..)); simp only [In.rw, lIn] at hsIn; subst hsIn; (have S1 : Hid (Stp w.heap.size w w1 w.heap.size (w.heap.size + 1) [.int .u64 (pos : Int), .int .u64 (done : Int), .int .u64 (made : Int), .slice bDe procs.length dDe, .slice aIn insts.length cIn, .slice aTk tokens.length cTk, .slice aJb jobs.length cJb, .slice aTm timers.length cTm, .slice aSb subs.length cSb, .slice aKp kept.length cKp, .slice aLs listed.length cLs, .slice aMs msgs.length cMs] ((In.rw (.slice bIn insts.length dIn) MIn :: MIn.map In.r) ++ ([De.rw (.slice bDe procs.length dDe) procs] ++ [])) 4 (.slice bIn insts.length dIn)) := Stp.of S0.out.own S0.out.bel (Nat.le_refl _) bInw rIn 4 _); (have q1 := S1.out.c 4 _ rfl); have f1 := S1.out.f 4; have m1 := S1.out.c 5 _ rfl; clear rIn bInw CIn q0 f0 m0)
    | (go_at_call 36; refine (CTk.out _ S1.out.bel).mono ?_; rintro e w2 ⟨vTk, rfl, rTk, bTkw⟩; obtain ⟨bTk, dTk, rfl, -, hcTk, -⟩ := row_slice rTk; (have S2 : Hid (Stp w.heap.size w w2 w.heap.size (w.heap.size + 1) [.int .u64 (pos : Int), .int .u64 (done : Int), .int .u64 (made : Int), .slice bDe procs.length dDe, .slice bIn insts.length dIn, .slice aTk tokens.length cTk, .slice aJb jobs.length cJb, .slice aTm timers.length cTm, .slice aSb subs.length cSb, .slice aKp kept.length cKp, .slice aLs listed.length cLs, .slice aMs msgs.length cMs] ([Tk.rw (.slice bTk tokens.length dTk) tokens] ++ ((In.rw (.slice bIn insts.length dIn) MIn :: MIn.map In.r) ++ ([De.rw (.slice bDe procs.length dDe) procs] ++ []))) 5 (.slice bTk tokens.length dTk)) := Stp.of S1.out.own S1.out.bel (Nat.le_refl _) bTkw (Own.single (r := Tk.rw (.slice bTk tokens.length dTk) tokens) rTk) 5 _); (have q2 := S2.out.c 5 _ rfl); have f2 := S2.out.f 5; have m2 := S2.out.c 6 _ rfl; clear rTk bTkw CTk q1 f1 m1)
    | (go_at_call 37; refine (CJb.out _ S2.out.bel).mono ?_; rintro e w3 ⟨vJb, rfl, rJb, bJbw⟩; obtain ⟨bJb, dJb, rfl, -, hcJb, -⟩ := row_slice rJb; (have S3 : Hid (Stp w.heap.size w w3 w.heap.size (w.heap.size + 1) [.int .u64 (pos : Int), .int .u64 (done : Int), .int .u64 (made : Int), .slice bDe procs.length dDe, .slice bIn insts.length dIn, .slice bTk tokens.length dTk, .slice aJb jobs.length cJb, .slice aTm timers.length cTm, .slice aSb subs.length cSb, .slice aKp kept.length cKp, .slice aLs listed.length cLs, .slice aMs msgs.length cMs] ([Jb.rw (.slice bJb jobs.length dJb) jobs] ++ ([Tk.rw (.slice bTk tokens.length dTk) tokens] ++ ((In.rw (.slice bIn insts.length dIn) MIn :: MIn.map In.r) ++ ([De.rw (.slice bDe procs.length dDe) procs] ++ [])))) 6 (.slice bJb jobs.length dJb)) := Stp.of S2.out.own S2.out.bel (Nat.le_refl _) bJbw (Own.single (r := Jb.rw (.slice bJb jobs.length dJb) jobs) rJb) 6 _); (have q3 := S3.out.c 6 _ rfl); have f3 := S3.out.f 6; have m3 := S3.out.c 7 _ rfl; clear rJb bJbw CJb q2 f2 m2)
    | (go_at_call 38; refine (CTm.out _ S3.out.bel).mono ?_; rintro e w4 ⟨vTm, rfl, rTm, bTmw⟩; obtain ⟨bTm, dTm, rfl, -, hcTm, -⟩ := row_slice rTm; (have S4 : Hid (Stp w.heap.size w w4 w.heap.size (w.heap.size + 1) [.int .u64 (pos : Int), .int .u64 (done : Int), .int .u64 (made : Int), .slice bDe procs.length dDe, .slice bIn insts.length dIn, .slice bTk tokens.length dTk, .slice bJb jobs.length dJb, .slice aTm timers.length cTm, .slice aSb subs.length cSb, .slice aKp kept.length cKp, .slice aLs listed.length cLs, .slice aMs msgs.length cMs] ([Tm.rw (.slice bTm timers.length dTm) timers] ++ ([Jb.rw (.slice bJb jobs.length dJb) jobs] ++ ([Tk.rw (.slice bTk tokens.length dTk) tokens] ++ ((In.rw (.slice bIn insts.length dIn) MIn :: MIn.map In.r) ++ ([De.rw (.slice bDe procs.length dDe) procs] ++ []))))) 7 (.slice bTm timers.length dTm)) := Stp.of S3.out.own S3.out.bel (Nat.le_refl _) bTmw (Own.single (r := Tm.rw (.slice bTm timers.length dTm) timers) rTm) 7 _); (have q4 := S4.out.c 7 _ rfl); have f4 := S4.out.f 7; have m4 := S4.out.c 8 _ rfl; clear rTm bTmw CTm q3 f3 m3)
    | (go_at_call 39; refine (CSb.out _ S4.out.bel).mono ?_; rintro e w5 ⟨vSb, rfl, rSb, bSbw⟩; obtain ⟨bSb, dSb, rfl, -, hcSb, -⟩ := row_slice rSb; (have S5 : Hid (Stp w.heap.size w w5 w.heap.size (w.heap.size + 1) [.int .u64 (pos : Int), .int .u64 (done : Int), .int .u64 (made : Int), .slice bDe procs.length dDe, .slice bIn insts.length dIn, .slice bTk tokens.length dTk, .slice bJb jobs.length dJb, .slice bTm timers.length dTm, .slice aSb subs.length cSb, .slice aKp kept.length cKp, .slice aLs listed.length cLs, .slice aMs msgs.length cMs] ([Sb.rw (.slice bSb subs.length dSb) subs] ++ ([Tm.rw (.slice bTm timers.length dTm) timers] ++ ([Jb.rw (.slice bJb jobs.length dJb) jobs] ++ ([Tk.rw (.slice bTk tokens.length dTk) tokens] ++ ((In.rw (.slice bIn insts.length dIn) MIn :: MIn.map In.r) ++ ([De.rw (.slice bDe procs.length dDe) procs] ++ [])))))) 8 (.slice bSb subs.length dSb)) := Stp.of S4.out.own S4.out.bel (Nat.le_refl _) bSbw (Own.single (r := Sb.rw (.slice bSb subs.length dSb) subs) rSb) 8 _); (have q5 := S5.out.c 8 _ rfl); have f5 := S5.out.f 8; have m5 := S5.out.c 9 _ rfl; clear rSb bSbw CSb q4 f4 m4)
    | (go_at_call 40; refine (CKp.out _ S5.out.bel).mono ?_; rintro e w6 ⟨vKp, rfl, rKp, bKpw⟩; obtain ⟨bKp, dKp, rfl, -, hcKp, -⟩ := row_slice rKp; (have S6 : Hid (Stp w.heap.size w w6 w.heap.size (w.heap.size + 1) [.int .u64 (pos : Int), .int .u64 (done : Int), .int .u64 (made : Int), .slice bDe procs.length dDe, .slice bIn insts.length dIn, .slice bTk tokens.length dTk, .slice bJb jobs.length dJb, .slice bTm timers.length dTm, .slice bSb subs.length dSb, .slice aKp kept.length cKp, .slice aLs listed.length cLs, .slice aMs msgs.length cMs] ([Kp.rw (.slice bKp kept.length dKp) kept] ++ ([Sb.rw (.slice bSb subs.length dSb) subs] ++ ([Tm.rw (.slice bTm timers.length dTm) timers] ++ ([Jb.rw (.slice bJb jobs.length dJb) jobs] ++ ([Tk.rw (.slice bTk tokens.length dTk) tokens] ++ ((In.rw (.slice bIn insts.length dIn) MIn :: MIn.map In.r) ++ ([De.rw (.slice bDe procs.length dDe) procs] ++ []))))))) 9 (.slice bKp kept.length dKp)) := Stp.of S5.out.own S5.out.bel (Nat.le_refl _) bKpw (Own.single (r := Kp.rw (.slice bKp kept.length dKp) kept) rKp) 9 _); (have q6 := S6.out.c 9 _ rfl); have f6 := S6.out.f 9; have m6 := S6.out.c 10 _ rfl; clear rKp bKpw CKp q5 f5 m5)
    | (go_at_call 41; refine (CLs.out _ S6.out.bel).mono ?_; rintro e w7 ⟨vLs, MLs, rfl, eLs, rLs, bLsw⟩; (have lLs : MLs.length = listed.length := by simpa using congrArg List.length eLs); obtain ⟨bLs, dLs, hsLs, -, hcLs, -⟩ := row_slice (rLs.own _ (List.mem_cons_self ..)); simp only [Ls.rw, lLs] at hsLs; subst hsLs; (have S7 : Hid (Stp w.heap.size w w7 w.heap.size (w.heap.size + 1) [.int .u64 (pos : Int), .int .u64 (done : Int), .int .u64 (made : Int), .slice bDe procs.length dDe, .slice bIn insts.length dIn, .slice bTk tokens.length dTk, .slice bJb jobs.length dJb, .slice bTm timers.length dTm, .slice bSb subs.length dSb, .slice bKp kept.length dKp, .slice aLs listed.length cLs, .slice aMs msgs.length cMs] ((Ls.rw (.slice bLs listed.length dLs) MLs :: MLs.map Ls.r) ++ ([Kp.rw (.slice bKp kept.length dKp) kept] ++ ([Sb.rw (.slice bSb subs.length dSb) subs] ++ ([Tm.rw (.slice bTm timers.length dTm) timers] ++ ([Jb.rw (.slice bJb jobs.length dJb) jobs] ++ ([Tk.rw (.slice bTk tokens.length dTk) tokens] ++ ((In.rw (.slice bIn insts.length dIn) MIn :: MIn.map In.r) ++ ([De.rw (.slice bDe procs.length dDe) procs] ++ [])))))))) 10 (.slice bLs listed.length dLs)) := Stp.of S6.out.own S6.out.bel (Nat.le_refl _) bLsw rLs 10 _); (have q7 := S7.out.c 10 _ rfl); have f7 := S7.out.f 10; have m7 := S7.out.c 11 _ rfl; clear rLs bLsw CLs q6 f6 m6)
    | (go_at_call 43; refine (CMs.out _ S7.out.bel).mono ?_; rintro e w8 ⟨vMs, MMs, rfl, eMs, rMs, bMsw⟩; (have lMs : MMs.length = msgs.length := by simpa using congrArg List.length eMs); obtain ⟨bMs, dMs, hsMs, -, hcMs, -⟩ := row_slice (rMs.own _ (List.mem_cons_self ..)); simp only [Ms.rw, lMs] at hsMs; subst hsMs; (have S8 : Hid (Stp w.heap.size w w8 w.heap.size (w.heap.size + 1) [.int .u64 (pos : Int), .int .u64 (done : Int), .int .u64 (made : Int), .slice bDe procs.length dDe, .slice bIn insts.length dIn, .slice bTk tokens.length dTk, .slice bJb jobs.length dJb, .slice bTm timers.length dTm, .slice bSb subs.length dSb, .slice bKp kept.length dKp, .slice bLs listed.length dLs, .slice aMs msgs.length cMs] ((Ms.rw (.slice bMs msgs.length dMs) MMs :: (MMs.map Ms.r ++ MMs.map Ms.q)) ++ ((Ls.rw (.slice bLs listed.length dLs) MLs :: MLs.map Ls.r) ++ ([Kp.rw (.slice bKp kept.length dKp) kept] ++ ([Sb.rw (.slice bSb subs.length dSb) subs] ++ ([Tm.rw (.slice bTm timers.length dTm) timers] ++ ([Jb.rw (.slice bJb jobs.length dJb) jobs] ++ ([Tk.rw (.slice bTk tokens.length dTk) tokens] ++ ((In.rw (.slice bIn insts.length dIn) MIn :: MIn.map In.r) ++ ([De.rw (.slice bDe procs.length dDe) procs] ++ []))))))))) 11 (.slice bMs msgs.length dMs)) := Stp.of S7.out.own S7.out.bel (Nat.le_refl _) bMsw rMs 11 _); (have q8 := S8.out.c 11 _ rfl); have f8 := S8.out.f 11; have x0 := S8.out.c 0 _ rfl; have y0 := S8.out.d 0 _ rfl; have g0 := S8.out.g 0; have x1 := S8.out.c 1 _ rfl; have y1 := S8.out.d 1 _ rfl; have g1 := S8.out.g 1; have x2 := S8.out.c 2 _ rfl; have y2 := S8.out.d 2 _ rfl; have g2 := S8.out.g 2; have x3 := S8.out.c 3 _ rfl; have y3 := S8.out.d 3 _ rfl; have g3 := S8.out.g 3; have x4 := S8.out.c 4 _ rfl; have y4 := S8.out.d 4 _ rfl; have g4 := S8.out.g 4; have x5 := S8.out.c 5 _ rfl; have y5 := S8.out.d 5 _ rfl; have g5 := S8.out.g 5; have x6 := S8.out.c 6 _ rfl; have y6 := S8.out.d 6 _ rfl; have g6 := S8.out.g 6; have x7 := S8.out.c 7 _ rfl; have y7 := S8.out.d 7 _ rfl; have g7 := S8.out.g 7; have x8 := S8.out.c 8 _ rfl; have y8 := S8.out.d 8 _ rfl; have g8 := S8.out.g 8; have x9 := S8.out.c 9 _ rfl; have y9 := S8.out.d 9 _ rfl; have g9 := S8.out.g 9; have x10 := S8.out.c 10 _ rfl; have y10 := S8.out.d 10 _ rfl; have g10 := S8.out.g 10; have x11 := S8.out.c 11 _ rfl; have y11 := S8.out.d 11 _ rfl; have g11 := S8.out.g 11; clear rMs bMsw CMs q7 f7 m7))
  obtain ⟨hg, hO, hB⟩ := ret12 S8.out.own S8.out.bel (Nat.le_refl _) (.int .u64 (pos : Int)) (.int .u64 (done : Int)) (.int .u64 (made : Int)) (.slice bDe procs.length dDe) (.slice bIn insts.length dIn) (.slice bTk tokens.length dTk) (.slice bJb jobs.length dJb) (.slice bTm timers.length dTm) (.slice bSb subs.length dSb) (.slice bKp kept.length dKp) (.slice bLs listed.length dLs) (.slice bMs msgs.length dMs)
  refine bodyPost_ret (results_cell_row rfl _ _ (w.heap.size + 1) 33 _ (0, 0) _ rfl hg Tryz.underlying33 rfl size12) rfl ?_
  refine ⟨⟨pos, done, made, .slice bDe procs.length dDe, procs, .slice bIn insts.length dIn, MIn, .slice bTk tokens.length dTk, tokens, .slice bJb jobs.length dJb, jobs, .slice bTm timers.length dTm, timers, .slice bSb subs.length dSb, subs, .slice bKp kept.length dKp, kept, .slice bLs listed.length dLs, MLs, .slice bMs msgs.length dMs, MMs⟩, rfl, ?_, ?_, hB⟩
  · refine hO.perm (perm_ac fun x => ?_)
    simp only [St.rows, St.main, St.inner, List.count_append, List.count_cons, List.count_nil, Nat.zero_add, Nat.add_zero]
    ac_rfl
  · simp only [St.e, eIn, eLs, eMs]
end Go.Proofs.YthmfcloecmnfnaaGreat.f13

/-
  A job of a key, the document's too.
-/
import Derived.Test.YthmfcloecmnfnaaGreatF13Tok
import Derived.Laws.ResultCell
namespace Go.Proofs.YthmfcloecmnfnaaGreat.f13
open Go.RowKit Go.Shelf Go.Sort
open Go.Lib hiding intOf

def setJb (W : World) (g : Nat) (c0 c1 c2 c3 c4 c5 : Value) : World := ((((((W.setCell ⟨g, 0, none⟩ c0).setCell ⟨g, 1, none⟩ c1).setCell ⟨g, 2, none⟩ c2).setCell ⟨g, 3, none⟩ c3).setCell ⟨g, 4, none⟩ c4).setCell ⟨g, 5, none⟩ c5)
theorem setJb_obj {W : World} {g : Nat} {t : TypeId} {z0 z1 z2 z3 z4 z5 : Value} (c0 c1 c2 c3 c4 c5 : Value) (h : W.heap[g]? = some (.cells #[z0, z1, z2, z3, z4, z5] t (0, 0))) : (setJb W g c0 c1 c2 c3 c4 c5).heap[g]? = some (.cells #[c0, c1, c2, c3, c4, c5] t (0, 0)) := (heap_setCell_same _ g 5 _ _ c5 (heap_setCell_same _ g 4 _ _ c4 (heap_setCell_same _ g 3 _ _ c3 (heap_setCell_same _ g 2 _ _ c2 (heap_setCell_same _ g 1 _ _ c1 (heap_setCell_same _ g 0 _ _ c0 h))))))
theorem setJb_ch (W : World) (g : Nat) (c0 c1 c2 c3 c4 c5 : Value) : Ch (fun b => b = g) W (setJb W g c0 c1 c2 c3 c4 c5) := (((((((Ch.refl (fun b => b = g) W).setCell ⟨g, 0, none⟩ c0 (fun _ => rfl)).setCell ⟨g, 1, none⟩ c1 (fun _ => rfl)).setCell ⟨g, 2, none⟩ c2 (fun _ => rfl)).setCell ⟨g, 3, none⟩ c3 (fun _ => rfl)).setCell ⟨g, 4, none⟩ c4 (fun _ => rfl)).setCell ⟨g, 5, none⟩ c5 (fun _ => rfl))
theorem sizeJb : (Tryz.prog.info? 46).map (·.size) = some 6 := by kernel_rfl

/-- the first one that is so, or none -/
def fstJb (q : Jb → Bool) (l : List Jb) : Jb × Bool := match l.find? q with
  | some x => (x, true)
  | none => (⟨0, 0, [], 0, [], 0⟩, false)
set_option maxHeartbeats 1000000 in
set_option maxRecDepth 100000 in
theorem firstJb_any {X : Nat → Prop} {w : World} {v : Value} {l : List Jb} {kf : Nat} {caps : Array Value} (q : Jb → Bool) (hv : Rr 6 Jb.c w v l) (hn : l.length ≤ 4611686018427387904) (ek : Ent0 kf) (hq : ∀ x ∈ l, Say X w kf caps #[.agg (Jb.c x).toArray] (q x)) :
    Calls Tryz.prog 55 #[v, .func (.func kf) #[] caps] w fun e w' => e = .returned (.tuple #[.agg (Jb.c (fstJb q l).1).toArray, .bool (fstJb q l).2]) ∧ Below w.heap.size w w' := by
  have hb0 : Below w.heap.size w (w.alloc (.cells #[.int .u64 0, .int .u64 0, .string ⟨#[]⟩, .int .i64 0, .string ⟨#[]⟩, .int .i64 0] 46)) := (Below.refl _ w).alloc (Nat.le_refl _) _
  have CI := indexJb_any q (hv.up hb0) hn ek (fun x hx => (hq x hx).ch (Ch.of_below hb0))
  have HV : Hid (Rr 6 Jb.c w v l) := hv
  have HB : Hid (Below w.heap.size w (w.alloc (.cells #[.int .u64 0, .int .u64 0, .string ⟨#[]⟩, .int .i64 0, .string ⟨#[]⟩, .int .i64 0] 46))) := hb0
  obtain ⟨a, cap, rfl, -⟩ := hv
  clear hq ek hb0
  cases hF : l.findIdx? q with
  | none =>
    have e0 : fix q l = -1 := by unfold fix; rw [hF]
    have HE : Hid (fstJb q l = (⟨0, 0, [], 0, [], 0⟩, false)) := by show _ = _; unfold fstJb; rw [find_no hF]
    rw [e0] at CI
    have hneg : ¬ (0 : Int) ≤ -1 := by omega
    clear hF e0
    go_enter Tryz.func55, Tryz.ntmps55
    go_wp2_with (go_at_call 79; refine CI.mono ?_; rintro e w1 ⟨rfl, b1⟩; (have B1 : Hid (Below w.heap.size w w1) := bel_of HB.out b1 (Nat.le_refl _)); (have hob : w1.heap[w.heap.size]? = some (.cells #[.int .u64 0, .int .u64 0, .string ⟨#[]⟩, .int .i64 0, .string ⟨#[]⟩, .int .i64 0] 46 (0, 0)) := (b1.block _ (by simp)).trans (heap_alloc_new w _)); (have HO : Hid _ := hob); (have m0 : w1.cell? ⟨w.heap.size, 0, none⟩ = some (.int .u64 0) := by simp [World.cell?, hob]); (have f0 : w1.frozen? ⟨w.heap.size, 0, none⟩ = false := by simp [World.frozen?, hob]); (have m1 : w1.cell? ⟨w.heap.size, 1, none⟩ = some (.int .u64 0) := by simp [World.cell?, hob]); (have f1 : w1.frozen? ⟨w.heap.size, 1, none⟩ = false := by simp [World.frozen?, hob]); (have m2 : w1.cell? ⟨w.heap.size, 2, none⟩ = some (.string ⟨#[]⟩) := by simp [World.cell?, hob]); (have f2 : w1.frozen? ⟨w.heap.size, 2, none⟩ = false := by simp [World.frozen?, hob]); (have m3 : w1.cell? ⟨w.heap.size, 3, none⟩ = some (.int .i64 0) := by simp [World.cell?, hob]); (have f3 : w1.frozen? ⟨w.heap.size, 3, none⟩ = false := by simp [World.frozen?, hob]); (have m4 : w1.cell? ⟨w.heap.size, 4, none⟩ = some (.string ⟨#[]⟩) := by simp [World.cell?, hob]); (have f4 : w1.frozen? ⟨w.heap.size, 4, none⟩ = false := by simp [World.frozen?, hob]); (have m5 : w1.cell? ⟨w.heap.size, 5, none⟩ = some (.int .i64 0) := by simp [World.cell?, hob]); (have f5 : w1.frozen? ⟨w.heap.size, 5, none⟩ = false := by simp [World.frozen?, hob]); (have hl1 : w.heap.size < w1.heap.size := by (have := b1.size; simp at this; omega)); clear b1 CI hob)
    rw [HE.out]
    have hfin : Below w.heap.size w ((setJb w1 w.heap.size (.int .u64 0) (.int .u64 0) (.string ⟨#[]⟩) (.int .i64 0) (.string ⟨#[]⟩) (.int .i64 0)).alloc (.cells #[.int .u64 0, .int .u64 0, .string ⟨#[]⟩, .int .i64 0, .string ⟨#[]⟩, .int .i64 0] 46)) := B1.out.trans (((setJb_ch w1 w.heap.size (.int .u64 0) (.int .u64 0) (.string ⟨#[]⟩) (.int .i64 0) (.string ⟨#[]⟩) (.int .i64 0)).alloc _).below B1.out.size (fun g hg e => by omega))
    refine bodyPost_ret (ret_two rfl _ _ w.heap.size 46 #[.int .u64 0, .int .u64 0, .string ⟨#[]⟩, .int .i64 0, .string ⟨#[]⟩, .int .i64 0] (0, 0) _ rfl (((Below.refl _ _).alloc (Nat.le_refl _) _ |>.block _ (by simpa using hl1)).trans (setJb_obj (W := w1) (.int .u64 0) (.int .u64 0) (.string ⟨#[]⟩) (.int .i64 0) (.string ⟨#[]⟩) (.int .i64 0) HO.out)) Tryz.underlying46 rfl sizeJb) rfl ?_
    exact ⟨rfl, hfin⟩
  | some i =>
    have e0 : fix q l = (i : Int) := by unfold fix; rw [hF]
    obtain ⟨hi, hfi⟩ := find_of hF
    have HE : Hid (fstJb q l = (l[i], true)) := by show _ = _; unfold fstJb; rw [hfi]
    rw [e0] at CI
    have hi0 : (0 : Int) ≤ (i : Int) := by omega
    have hil : (i : Int) < (l.length : Int) := by omega
    obtain ⟨b', off, cap', hsl, -, hbl, hcell⟩ := HV.out.at hi
    obtain ⟨rfl, rfl⟩ : a = some ⟨b', off, none⟩ ∧ cap = cap' := by injection hsl with e1 _ e2; exact ⟨e1, e2⟩
    have HC : Hid (∀ w', Below w.heap.size w w' → w'.cell? ⟨b', off + i * 6 + 0, none⟩ = some (.int .u64 (l[i].key : Int)) ∧ w'.cell? ⟨b', off + i * 6 + 1, none⟩ = some (.int .u64 (l[i].token : Int)) ∧ w'.cell? ⟨b', off + i * 6 + 2, none⟩ = some (.string (S l[i].typ)) ∧ w'.cell? ⟨b', off + i * 6 + 3, none⟩ = some (.int .i64 l[i].retr) ∧ w'.cell? ⟨b', off + i * 6 + 4, none⟩ = some (.string (S l[i].wkr)) ∧ w'.cell? ⟨b', off + i * 6 + 5, none⟩ = some (.int .i64 l[i].unt)) := fun w' hw' => ⟨hcell w' hw' i hi 0 _ rfl, hcell w' hw' i hi 1 _ rfl, hcell w' hw' i hi 2 _ rfl, hcell w' hw' i hi 3 _ rfl, hcell w' hw' i hi 4 _ rfl, hcell w' hw' i hi 5 _ rfl⟩
    rw [HE.out]
    clear hF e0 hcell hfi HE hsl
    generalize l[i] = x at *
    obtain ⟨x0, x1, x2, x3, x4, x5⟩ := x
    simp only [Jb.c] at HC ⊢
    go_enter Tryz.func55, Tryz.ntmps55
    go_wp2_with (go_at_call 79; refine CI.mono ?_; rintro e w1 ⟨rfl, b1⟩; (have B1 : Hid (Below w.heap.size w w1) := bel_of HB.out b1 (Nat.le_refl _)); (have hob : w1.heap[w.heap.size]? = some (.cells #[.int .u64 0, .int .u64 0, .string ⟨#[]⟩, .int .i64 0, .string ⟨#[]⟩, .int .i64 0] 46 (0, 0)) := (b1.block _ (by simp)).trans (heap_alloc_new w _)); (have HO : Hid _ := hob); (have m0 : w1.cell? ⟨w.heap.size, 0, none⟩ = some (.int .u64 0) := by simp [World.cell?, hob]); (have f0 : w1.frozen? ⟨w.heap.size, 0, none⟩ = false := by simp [World.frozen?, hob]); (have m1 : w1.cell? ⟨w.heap.size, 1, none⟩ = some (.int .u64 0) := by simp [World.cell?, hob]); (have f1 : w1.frozen? ⟨w.heap.size, 1, none⟩ = false := by simp [World.frozen?, hob]); (have m2 : w1.cell? ⟨w.heap.size, 2, none⟩ = some (.string ⟨#[]⟩) := by simp [World.cell?, hob]); (have f2 : w1.frozen? ⟨w.heap.size, 2, none⟩ = false := by simp [World.frozen?, hob]); (have m3 : w1.cell? ⟨w.heap.size, 3, none⟩ = some (.int .i64 0) := by simp [World.cell?, hob]); (have f3 : w1.frozen? ⟨w.heap.size, 3, none⟩ = false := by simp [World.frozen?, hob]); (have m4 : w1.cell? ⟨w.heap.size, 4, none⟩ = some (.string ⟨#[]⟩) := by simp [World.cell?, hob]); (have f4 : w1.frozen? ⟨w.heap.size, 4, none⟩ = false := by simp [World.frozen?, hob]); (have m5 : w1.cell? ⟨w.heap.size, 5, none⟩ = some (.int .i64 0) := by simp [World.cell?, hob]); (have f5 : w1.frozen? ⟨w.heap.size, 5, none⟩ = false := by simp [World.frozen?, hob]); (have hl1 : w.heap.size < w1.heap.size := by (have := b1.size; simp at this; omega)); obtain ⟨x0c, x1c, x2c, x3c, x4c, x5c⟩ := HC.out w1 B1.out; simp only [Nat.add_zero] at x0c; clear b1 CI hob)
    have hfin : Below w.heap.size w (setJb w1 w.heap.size (.int .u64 (x0 : Int)) (.int .u64 (x1 : Int)) (.string (S x2)) (.int .i64 x3) (.string (S x4)) (.int .i64 x5)) := B1.out.trans ((setJb_ch w1 w.heap.size (.int .u64 (x0 : Int)) (.int .u64 (x1 : Int)) (.string (S x2)) (.int .i64 x3) (.string (S x4)) (.int .i64 x5)).below B1.out.size (fun g hg e => by omega))
    refine bodyPost_ret (ret_two rfl _ _ w.heap.size 46 #[.int .u64 (x0 : Int), .int .u64 (x1 : Int), .string (S x2), .int .i64 x3, .string (S x4), .int .i64 x5] (0, 0) _ rfl (setJb_obj (W := w1) (.int .u64 (x0 : Int)) (.int .u64 (x1 : Int)) (.string (S x2)) (.int .i64 x3) (.string (S x4)) (.int .i64 x5) HO.out) Tryz.underlying46 rfl sizeJb) rfl ?_
    exact ⟨rfl, hfin⟩
end Go.Proofs.YthmfcloecmnfnaaGreat.f13
namespace Go.Proofs.YthmfcloecmnfnaaGreat.f13
open Go.RowKit Go.Shelf Go.Sort
open Go.Lib hiding intOf

set_option maxHeartbeats 2000000 in
set_option maxRecDepth 100000 in
theorem Job_any {w : World} {s : St} (key : Nat) (h : Sv w s) (hn : s.jobs.length ≤ 4611686018427387904) :
    Calls Tryz.prog 50 #[.agg s.c.toArray, .int .u64 (key : Int)] w fun e w' => e = .returned (.tuple #[.agg (Jb.c (fstJb (fun x => x.kk == key) s.jobs).1).toArray, .bool (fstJb (fun x => x.kk == key) s.jobs).2]) ∧ Below w.heap.size w w' := by
  obtain ⟨pos, done, made, vDe, procs, vIn, insts, vTk, tokens, vJb, jobs, vTm, timers, vSb, subs, vKp, kept, vLs, listed, vMs, msgs⟩ := s
  obtain ⟨aDe, cDe, hs, -⟩ := id h.rDe
  simp only at hs
  subst hs
  obtain ⟨aIn, cIn, hs, -⟩ := id h.rIn
  simp only at hs
  subst hs
  obtain ⟨aTk, cTk, hs, -⟩ := id h.rTk
  simp only at hs
  subst hs
  obtain ⟨aJb, cJb, hs, -⟩ := id h.rJb
  simp only at hs
  subst hs
  obtain ⟨aTm, cTm, hs, -⟩ := id h.rTm
  simp only at hs
  subst hs
  obtain ⟨aSb, cSb, hs, -⟩ := id h.rSb
  simp only at hs
  subst hs
  obtain ⟨aKp, cKp, hs, -⟩ := id h.rKp
  simp only at hs
  subst hs
  obtain ⟨aLs, cLs, hs, -⟩ := id h.rLs
  simp only at hs
  subst hs
  obtain ⟨aMs, cMs, hs, -⟩ := id h.rMs
  simp only at hs
  subst hs
  simp only [St.c] at hn ⊢
  have hb0 : Below w.heap.size w ((w.alloc (.cells #[.int .u64 (pos : Int), .int .u64 (done : Int), .int .u64 (made : Int), .slice aDe procs.length cDe, .slice aIn insts.length cIn, .slice aTk tokens.length cTk, .slice aJb jobs.length cJb, .slice aTm timers.length cTm, .slice aSb subs.length cSb, .slice aKp kept.length cKp, .slice aLs listed.length cLs, .slice aMs msgs.length cMs] 33)).alloc (.cells #[.int .u64 0, .int .u64 0, .string ⟨#[]⟩, .int .i64 0, .string ⟨#[]⟩, .int .i64 0] 46)) := ((Below.refl _ w).alloc (Nat.le_refl _) _).alloc (by simp) _
  have hrt := h.rJb
  simp only at hrt
  have ekO : Ent0 80 := enters_of Tryz.func80 (by kernel_rfl) rfl
  have CF : Hid (∀ W caps, Below w.heap.size w W → (∀ x : Jb, Say (fun _ => False) W 80 caps #[.agg (Jb.c x).toArray] (x.kk == key)) → Calls Tryz.prog 55 #[.slice aJb jobs.length cJb, .func (.func 80) #[] caps] W fun e w' => e = .returned (.tuple #[.agg (Jb.c (fstJb (fun x => x.kk == key) jobs).1).toArray, .bool (fstJb (fun x => x.kk == key) jobs).2]) ∧ Below W.heap.size W w') := fun W caps hW hs => firstJb_any (X := fun _ => False) (fun x => x.kk == key) (hrt.up hW) hn ekO (fun x _ => hs x)
  have CO := fun W => ofJb_any key W
  have HS : Hid (∀ W, Below ((w.alloc (.cells #[.int .u64 (pos : Int), .int .u64 (done : Int), .int .u64 (made : Int), .slice aDe procs.length cDe, .slice aIn insts.length cIn, .slice aTk tokens.length cTk, .slice aJb jobs.length cJb, .slice aTm timers.length cTm, .slice aSb subs.length cSb, .slice aKp kept.length cKp, .slice aLs listed.length cLs, .slice aMs msgs.length cMs] 33)).alloc (.cells #[.int .u64 0, .int .u64 0, .string ⟨#[]⟩, .int .i64 0, .string ⟨#[]⟩, .int .i64 0] 46)).heap.size ((w.alloc (.cells #[.int .u64 (pos : Int), .int .u64 (done : Int), .int .u64 (made : Int), .slice aDe procs.length cDe, .slice aIn insts.length cIn, .slice aTk tokens.length cTk, .slice aJb jobs.length cJb, .slice aTm timers.length cTm, .slice aSb subs.length cSb, .slice aKp kept.length cKp, .slice aLs listed.length cLs, .slice aMs msgs.length cMs] 33)).alloc (.cells #[.int .u64 0, .int .u64 0, .string ⟨#[]⟩, .int .i64 0, .string ⟨#[]⟩, .int .i64 0] 46)) W → W.cell? ⟨w.heap.size, 6, none⟩ = some (.slice aJb jobs.length cJb) ∧ W.heap[w.heap.size + 1]? = some (.cells #[.int .u64 0, .int .u64 0, .string ⟨#[]⟩, .int .i64 0, .string ⟨#[]⟩, .int .i64 0] 46 (0, 0)) ∧ Below w.heap.size w W ∧ w.heap.size + 1 < W.heap.size) := by
    intro W hW
    have e0 : ((w.alloc (.cells #[.int .u64 (pos : Int), .int .u64 (done : Int), .int .u64 (made : Int), .slice aDe procs.length cDe, .slice aIn insts.length cIn, .slice aTk tokens.length cTk, .slice aJb jobs.length cJb, .slice aTm timers.length cTm, .slice aSb subs.length cSb, .slice aKp kept.length cKp, .slice aLs listed.length cLs, .slice aMs msgs.length cMs] 33)).alloc (.cells #[.int .u64 0, .int .u64 0, .string ⟨#[]⟩, .int .i64 0, .string ⟨#[]⟩, .int .i64 0] 46)).heap.size = w.heap.size + 2 := by simp
    have hWs := hW.size
    rw [e0] at hW hWs
    refine ⟨(hW.cell (p := ⟨w.heap.size, 6, none⟩) (by simp only; omega)).trans (by go_simp), (hW.block _ (by omega)).trans ?_, hb0.trans (hW.mono (by omega)), by omega⟩
    have := heap_alloc_new (w.alloc (.cells #[.int .u64 (pos : Int), .int .u64 (done : Int), .int .u64 (made : Int), .slice aDe procs.length cDe, .slice aIn insts.length cIn, .slice aTk tokens.length cTk, .slice aJb jobs.length cJb, .slice aTm timers.length cTm, .slice aSb subs.length cSb, .slice aKp kept.length cKp, .slice aLs listed.length cLs, .slice aMs msgs.length cMs] 33)) (.cells #[.int .u64 0, .int .u64 0, .string ⟨#[]⟩, .int .i64 0, .string ⟨#[]⟩, .int .i64 0] 46)
    rw [World.size_alloc] at this
    exact this
  simp only [kU] at CO
  generalize fstJb (fun x => x.kk == key) jobs = p at *
  obtain ⟨⟨x0, x1, x2, x3, x4, x5⟩, b⟩ := p
  simp only [Jb.c] at CF ⊢
  obtain ⟨m5, -⟩ := HS.out _ (Below.refl _ _)
  clear h hb0 hrt ekO
  go_enter Tryz.func50, Tryz.ntmps50
  go_wp2
  generalize ((w.alloc (.cells #[.int .u64 (pos : Int), .int .u64 (done : Int), .int .u64 (made : Int), .slice aDe procs.length cDe, .slice aIn insts.length cIn, .slice aTk tokens.length cTk, .slice aJb jobs.length cJb, .slice aTm timers.length cTm, .slice aSb subs.length cSb, .slice aKp kept.length cKp, .slice aLs listed.length cLs, .slice aMs msgs.length cMs] 33)).alloc (.cells #[.int .u64 0, .int .u64 0, .string ⟨#[]⟩, .int .i64 0, .string ⟨#[]⟩, .int .i64 0] 46)) = W1 at *
  go_region_with (first
    | (go_at_call 56; refine (CO _).mono ?_; rintro e w1 ⟨caps, rfl, hsay, hb1⟩; (have hX : Below W1.heap.size W1 w1 := (Below.refl _ W1).drew.trans (hb1.mono (Nat.le_refl _))); obtain ⟨n5, -, hbw, -⟩ := HS.out w1 hX; (have CA := CF.out w1 caps hbw (fun x => hsay (fun _ => False) (fun _ e => e.elim) x)); (have BX : Hid (Below W1.heap.size W1 w1) := hX); clear hsay hb1 CO CF hbw hX)
    | (go_at_call 55; refine CA.mono ?_; rintro e w2 ⟨rfl, hb2⟩; obtain ⟨-, hob, hbw2, hl2⟩ := HS.out w2 (bel_of BX.out hb2 (Nat.le_refl _)); (have f0 : w2.frozen? ⟨w.heap.size + 1, 0, none⟩ = false := by simp [World.frozen?, hob]); (have o0 : w2.cell? ⟨w.heap.size + 1, 0, none⟩ = some (.int .u64 0) := by simp [World.cell?, hob]); (have f1 : w2.frozen? ⟨w.heap.size + 1, 1, none⟩ = false := by simp [World.frozen?, hob]); (have o1 : w2.cell? ⟨w.heap.size + 1, 1, none⟩ = some (.int .u64 0) := by simp [World.cell?, hob]); (have f2 : w2.frozen? ⟨w.heap.size + 1, 2, none⟩ = false := by simp [World.frozen?, hob]); (have o2 : w2.cell? ⟨w.heap.size + 1, 2, none⟩ = some (.string ⟨#[]⟩) := by simp [World.cell?, hob]); (have f3 : w2.frozen? ⟨w.heap.size + 1, 3, none⟩ = false := by simp [World.frozen?, hob]); (have o3 : w2.cell? ⟨w.heap.size + 1, 3, none⟩ = some (.int .i64 0) := by simp [World.cell?, hob]); (have f4 : w2.frozen? ⟨w.heap.size + 1, 4, none⟩ = false := by simp [World.frozen?, hob]); (have o4 : w2.cell? ⟨w.heap.size + 1, 4, none⟩ = some (.string ⟨#[]⟩) := by simp [World.cell?, hob]); (have f5 : w2.frozen? ⟨w.heap.size + 1, 5, none⟩ = false := by simp [World.frozen?, hob]); (have o5 : w2.cell? ⟨w.heap.size + 1, 5, none⟩ = some (.int .i64 0) := by simp [World.cell?, hob]); (have HO : Hid _ := hob); (have HB : Hid (Below w.heap.size w w2) := hbw2); clear hob hbw2 hb2 CA))
  all_goals
    go_wp2
    have hfin : Below w.heap.size w (setJb w2 (w.heap.size + 1) (.int .u64 (x0 : Int)) (.int .u64 (x1 : Int)) (.string (S x2)) (.int .i64 x3) (.string (S x4)) (.int .i64 x5)) := HB.out.trans ((setJb_ch w2 (w.heap.size + 1) (.int .u64 (x0 : Int)) (.int .u64 (x1 : Int)) (.string (S x2)) (.int .i64 x3) (.string (S x4)) (.int .i64 x5)).below HB.out.size (fun g hg e => by omega))
    refine bodyPost_ret (ret_two rfl _ _ (w.heap.size + 1) 46 #[.int .u64 (x0 : Int), .int .u64 (x1 : Int), .string (S x2), .int .i64 x3, .string (S x4), .int .i64 x5] (0, 0) _ rfl (setJb_obj (W := w2) (.int .u64 (x0 : Int)) (.int .u64 (x1 : Int)) (.string (S x2)) (.int .i64 x3) (.string (S x4)) (.int .i64 x5) HO.out) Tryz.underlying46 rfl sizeJb) rfl ?_
    exact ⟨rfl, hfin⟩
end Go.Proofs.YthmfcloecmnfnaaGreat.f13

/-
  Package expr: what a part comes to.
-/
import Derived.Test.YtpbfdaijnndilaaGreatDoorX10Rk
import Derived.Deep.RegionHeld3
import Derived.Deep.CutRange
namespace Go.Proofs.YtpbfdaijnndilaaGreatDoor.x10
open Go.RowKit Go.Shelf Go.Sort
open Go.Lib hiding intOf

/-- the result's box and the part's: what they hold, whatever is made behind them -/
theorem two_boxes (w : World) (p : P10) (W : World) (hW : Below ((w.alloc (.cells #[.int .i64 0, .int .i64 0, .string ⟨#[]⟩] 48)).alloc (.cells (pc p).toArray 68)).heap.size ((w.alloc (.cells #[.int .i64 0, .int .i64 0, .string ⟨#[]⟩] 48)).alloc (.cells (pc p).toArray 68)) W) :
    W.heap[w.heap.size]? = some (.cells #[.int .i64 0, .int .i64 0, .string ⟨#[]⟩] 48 (0, 0)) ∧ W.heap[w.heap.size + 1]? = some (.cells (pc p).toArray 68 (0, 0)) ∧ w.heap.size + 1 < W.heap.size ∧ Below w.heap.size w W := by
  have hb : Below w.heap.size w ((w.alloc (.cells #[.int .i64 0, .int .i64 0, .string ⟨#[]⟩] 48)).alloc (.cells (pc p).toArray 68)) := ((Below.refl _ w).alloc (Nat.le_refl _) _).alloc (by simp) _
  have hs : ((w.alloc (.cells #[.int .i64 0, .int .i64 0, .string ⟨#[]⟩] 48)).alloc (.cells (pc p).toArray 68)).heap.size = w.heap.size + 2 := by simp
  refine ⟨(hW.block _ (by omega)).trans ((Below.heap_alloc _ _ _ (by simp)).trans (heap_alloc_new w _)), (hW.block _ (by omega)).trans ?_, by have := hW.size; omega, bel_of hb hW (Nat.le_refl _)⟩
  have := heap_alloc_new (w.alloc (.cells #[.int .i64 0, .int .i64 0, .string ⟨#[]⟩] 48)) (.cells (pc p).toArray 68)
  rw [World.size_alloc] at this
  exact this
/-- what is so of memory from then on -/
structure Pf (w : World) (W : World) (p : P10) : Prop where
  r0 : W.cell? ⟨w.heap.size, 0, none⟩ = some (.int .i64 0)
  r1 : W.cell? ⟨w.heap.size, 1, none⟩ = some (.int .i64 0)
  r2 : W.cell? ⟨w.heap.size, 2, none⟩ = some (.string ⟨#[]⟩)
  f : ∀ k, W.frozen? ⟨w.heap.size, k, none⟩ = false
  p0 : W.cell? ⟨w.heap.size + 1, 0, none⟩ = some (.int .i64 p.1)
  p1 : W.cell? ⟨w.heap.size + 1, 1, none⟩ = some (.int .i64 p.2.1)
  p2 : W.cell? ⟨w.heap.size + 1, 2, none⟩ = some (.int .i64 p.2.2.1)
  lt : w.heap.size + 1 < W.heap.size
  bel : Below w.heap.size w W
theorem pf_of (w : World) (p : P10) (W : World) (hW : Below ((w.alloc (.cells #[.int .i64 0, .int .i64 0, .string ⟨#[]⟩] 48)).alloc (.cells (pc p).toArray 68)).heap.size ((w.alloc (.cells #[.int .i64 0, .int .i64 0, .string ⟨#[]⟩] 48)).alloc (.cells (pc p).toArray 68)) W) : Pf w W p := by
  obtain ⟨h1, h2, h3, h4⟩ := two_boxes w p W hW
  exact ⟨by simp [World.cell?, h1], by simp [World.cell?, h1], by simp [World.cell?, h1], fun k => by simp [World.frozen?, h1], by simp [World.cell?, h2, pc], by simp [World.cell?, h2, pc], by simp [World.cell?, h2, pc], h3, h4⟩
/-- three cells are stored into the result -/
theorem Pf.end {w W : World} {p : P10} (h : Pf w W p) (u0 u1 u2 : Value) : Below w.heap.size w (((W.setCell ⟨w.heap.size, 0, none⟩ u0).setCell ⟨w.heap.size, 1, none⟩ u1).setCell ⟨w.heap.size, 2, none⟩ u2) := by
  have c := (((Ch.refl (fun k => k = w.heap.size) W).setCell ⟨w.heap.size, 0, none⟩ u0 (fun _ => rfl)).setCell ⟨w.heap.size, 1, none⟩ u1 (fun _ => rfl)).setCell ⟨w.heap.size, 2, none⟩ u2 (fun _ => rfl)
  exact h.bel.trans (below_of_ch c h.bel.size (fun k hk e => by omega))
theorem Em.ch {w w' : World} {mb : Nat} {X : Nat → Prop} (h : Em w mb) (c : Ch X w w') (hX : ¬ X mb) : Em w' mb := by
  obtain ⟨n, es, clock, h1, h2⟩ := h
  exact ⟨n, es, clock, c.obj h1 hX, h2⟩
/-- a value in a box -/
def Vb (W : World) (b : Nat) (v : V9) : Prop := W.cell? ⟨b, 0, none⟩ = some (.int .i64 v.1) ∧ W.cell? ⟨b, 1, none⟩ = some (.int .i64 v.2.1) ∧ W.cell? ⟨b, 2, none⟩ = some (.string (S v.2.2)) ∧ b < W.heap.size
theorem Vb.up {W W' : World} {b : Nat} {v : V9} (h : Vb W b v) (hb : Below W.heap.size W W') : Vb W' b v :=
  ⟨(hb.cell (p := ⟨b, 0, none⟩) h.2.2.2).trans h.1, (hb.cell (p := ⟨b, 1, none⟩) h.2.2.2).trans h.2.1, (hb.cell (p := ⟨b, 2, none⟩) h.2.2.2).trans h.2.2.1, Nat.lt_of_lt_of_le h.2.2.2 hb.size⟩
theorem Vb.new (W : World) (v : V9) : Vb (W.alloc (.cells #[.int .i64 v.1, .int .i64 v.2.1, .string (S v.2.2)] 48)) W.heap.size v := by
  refine ⟨?_, ?_, ?_, by simp⟩
  · exact World.cell?_alloc_new _ _ _ 0
  · exact World.cell?_alloc_new _ _ _ 1
  · exact World.cell?_alloc_new _ _ _ 2

set_option maxHeartbeats 4000000 in
set_option maxRecDepth 100000 in
theorem part_val {w : World} {rb : Nat} {xv vv : Value} {l : List P10} {vs : List Vr} (h : Rk w rb xv vv l vs) {i : Nat} (hi : i < l.length) (ho : l[i].1 = 1) : Calls Tryz.prog 45 #[.pointer (some ⟨rb, 0, none⟩), .int .i64 (i : Int)] w (Vp w (.ok l[i].2.2.2)) := by
  obtain ⟨bq, off, cap, rfl, hbl, -⟩ := h.es.at hi
  have h1 := h.up ((Below.refl _ w).alloc (Nat.le_refl _) (.cells #[.int .i64 0, .int .i64 0, .string ⟨#[]⟩] 48))
  obtain ⟨bq', off', cap', e', -, hc⟩ := h1.es.at hi
  cases e'
  obtain ⟨d0, d1, d2, d3, d4, d5⟩ := hc i hi
  have c0 := h1.c0
  clear h1 hc
  have i1 : (0 : Int) ≤ (i : Int) := by omega
  have i2 : (i : Int) < (l.length : Int) := by omega
  obtain ⟨W2, hW2⟩ : ∃ W2, (w.alloc (.cells #[.int .i64 0, .int .i64 0, .string ⟨#[]⟩] 48)).alloc (.cells #[.int .i64 l[i].1, .int .i64 l[i].2.1, .int .i64 l[i].2.2.1, .int .i64 l[i].2.2.2.1, .int .i64 l[i].2.2.2.2.1, .string (S l[i].2.2.2.2.2)] 68) = W2 := ⟨_, rfl⟩
  have HW : Hid (_ = W2) := hW2
  have HP : Hid (∀ W, Below W2.heap.size W2 W → Pf w W l[i]) := fun W hW => pf_of w l[i] W (by rw [← hW2] at hW; exact hW)
  have HR : Hid (∀ W, Below W2.heap.size W2 W → Rk W rb (.slice (some ⟨bq, off, none⟩) l.length cap) vv l vs) := fun W hW => h.up (HP.out W hW).bel
  have HMB : Hid (∃ mb, w.cell? ⟨rb, 2, none⟩ = some (.map (some mb)) ∧ Em w mb ∧ mb < w.heap.size ∧ rb < w.heap.size) := by
    obtain ⟨mb, m1, m2⟩ := h.mp
    obtain ⟨n, es, ck, h1, h2⟩ := id m2
    exact ⟨mb, m1, m2, (Array.getElem?_eq_some_iff.1 h1).1, h.lt⟩
  clear hW2
  have k := HP.out W2 (Below.refl _ _)
  obtain ⟨x0, x1, x2⟩ := (show W2.cell? ⟨w.heap.size + 1, 3, none⟩ = some (.int .i64 l[i].2.2.2.1) ∧ W2.cell? ⟨w.heap.size + 1, 4, none⟩ = some (.int .i64 l[i].2.2.2.2.1) ∧ W2.cell? ⟨w.heap.size + 1, 5, none⟩ = some (.string (S l[i].2.2.2.2.2)) from by
    obtain ⟨-, g2, -, -⟩ := two_boxes w l[i] W2 (by rw [← HW.out]; exact Below.refl _ _)
    exact ⟨by simp [World.cell?, g2, pc], by simp [World.cell?, g2, pc], by simp [World.cell?, g2, pc]⟩)
  have HE := k.end (.int .i64 l[i].2.2.2.1) (.int .i64 l[i].2.2.2.2.1) (.string (S l[i].2.2.2.2.2))
  have HE' : Hid _ := HE
  clear HE h
  rw [ho] at d0
  generalize l[i] = p at *
  obtain ⟨p0, p1, p2, v0', v1', v2'⟩ := p
  simp only at d0 d1 d2 d3 d4 d5 ho x0 x1 x2 HE'
  subst ho
  have HK : Hid (Pf w W2 (1, p1, p2, v0', v1', v2')) := k
  clear k
  go_enter Tryz.func45, Tryz.ntmps45
  go_upto_region 2 with fail
  rw [HW.out]
  have k := HK.out
  have q0 := k.p0
  have r0 := k.r0
  have r1 := k.r1
  have r2 := k.r2
  have f0 := k.f 0
  have f1 := k.f 1
  have f2 := k.f 2
  have hl := k.lt
  simp only at q0
  clear k
  go_wp2
  exact bodyPost_ret (v := .agg #[.int .i64 v0', .int .i64 v1', .string (S v2')]) (by simp [results, Tryz.results45, go_sem, r0, r1, r2]) rfl ⟨rfl, HE'.out⟩

set_option maxHeartbeats 4000000 in
set_option maxRecDepth 100000 in
theorem part_var {w : World} {rb : Nat} {xv vv : Value} {l : List P10} {vs : List Vr} (h : Rk w rb xv vv l vs) {i : Nat} (hi : i < l.length) (hn : vs.length ≤ 16) (ho : l[i].1 = 2) : Calls Tryz.prog 45 #[.pointer (some ⟨rb, 0, none⟩), .int .i64 (i : Int)] w (Vp w (varR vs l[i].2.2.2.2.2)) := by
  obtain ⟨bq, off, cap, rfl, hbl, -⟩ := h.es.at hi
  have h1 := h.up ((Below.refl _ w).alloc (Nat.le_refl _) (.cells #[.int .i64 0, .int .i64 0, .string ⟨#[]⟩] 48))
  obtain ⟨bq', off', cap', e', -, hc⟩ := h1.es.at hi
  cases e'
  obtain ⟨d0, d1, d2, d3, d4, d5⟩ := hc i hi
  have c0 := h1.c0
  clear h1 hc
  have i1 : (0 : Int) ≤ (i : Int) := by omega
  have i2 : (i : Int) < (l.length : Int) := by omega
  obtain ⟨W2, hW2⟩ : ∃ W2, (w.alloc (.cells #[.int .i64 0, .int .i64 0, .string ⟨#[]⟩] 48)).alloc (.cells #[.int .i64 l[i].1, .int .i64 l[i].2.1, .int .i64 l[i].2.2.1, .int .i64 l[i].2.2.2.1, .int .i64 l[i].2.2.2.2.1, .string (S l[i].2.2.2.2.2)] 68) = W2 := ⟨_, rfl⟩
  have HW : Hid (_ = W2) := hW2
  have HP : Hid (∀ W, Below W2.heap.size W2 W → Pf w W l[i]) := fun W hW => pf_of w l[i] W (by rw [← hW2] at hW; exact hW)
  have HR : Hid (∀ W, Below W2.heap.size W2 W → Rk W rb (.slice (some ⟨bq, off, none⟩) l.length cap) vv l vs) := fun W hW => h.up (HP.out W hW).bel
  have HMB : Hid (∃ mb, w.cell? ⟨rb, 2, none⟩ = some (.map (some mb)) ∧ Em w mb ∧ mb < w.heap.size ∧ rb < w.heap.size) := by
    obtain ⟨mb, m1, m2⟩ := h.mp
    obtain ⟨n, es, ck, h1, h2⟩ := id m2
    exact ⟨mb, m1, m2, (Array.getElem?_eq_some_iff.1 h1).1, h.lt⟩
  clear hW2
  have k := HP.out W2 (Below.refl _ _)
  have x2 := (show W2.cell? ⟨w.heap.size + 1, 5, none⟩ = some (.string (S l[i].2.2.2.2.2)) from by
    obtain ⟨-, g2, -, -⟩ := two_boxes w l[i] W2 (by rw [← HW.out]; exact Below.refl _ _)
    simp [World.cell?, g2, pc])
  have CV := variable_any (HR.out W2 (Below.refl _ _)) hn l[i].2.2.2.2.2
  have HE : Hid (∀ W, Below W2.heap.size W2 W → Pf w W l[i]) := HP.out
  have HK : Hid (Pf w W2 l[i]) := k
  clear k h
  rw [ho] at d0 HW
  have q0 : W2.cell? ⟨w.heap.size + 1, 0, none⟩ = some (.int .i64 2) := by rw [← ho]; exact HK.out.p0
  have hl := HK.out.lt
  rcases hv : varR vs l[i].2.2.2.2.2 with v | ⟨er, ea⟩ | _
  · rw [hv] at CV
    have CV' : Calls Tryz.prog 88 _ W2 fun e w' => e = .returned (vA' v) ∧ Below W2.heap.size W2 w' := CV
    clear CV hv
    obtain ⟨v0', v1', v2'⟩ := v
    unfold vA' at CV'
    simp only at CV'
    generalize l[i] = p at *
    clear ho
    go_enter Tryz.func45, Tryz.ntmps45
    go_upto_region 2 with fail
    rw [HW.out]
    go_wp2_with (go_at_call 88; refine CV'.mono ?_; rintro e w3 ⟨rfl, hb3⟩; (have k3 := HE.out w3 hb3); (have r0 := k3.r0); (have r1 := k3.r1); (have r2 := k3.r2); (have f0 := k3.f 0); (have f1 := k3.f 1); (have f2 := k3.f 2); (have hl3 := k3.lt); (have HX : Hid (Pf w w3 p) := k3); clear k3 hb3 CV')
    exact bodyPost_ret (v := .agg #[.int .i64 v0', .int .i64 v1', .string (S v2')]) (by simp [results, Tryz.results45, go_sem, r0, r1, r2]) rfl ⟨rfl, HX.out.end _ _ _⟩
  · rw [hv] at CV
    have CV' : Calls Tryz.prog 88 _ W2 fun e w' => e = .panicked (wrg er ea) ∧ Below W2.heap.size W2 w' := CV
    clear CV hv
    generalize l[i] = p at *
    clear ho
    go_enter Tryz.func45, Tryz.ntmps45
    go_upto_region 2 with fail
    rw [HW.out]
    go_wp2_with (go_at_call 88; refine CV'.mono ?_; rintro e w3 ⟨rfl, hb3⟩; (have HX : Hid (Pf w w3 p) := HE.out w3 hb3); clear hb3 CV')
    exact ⟨rfl, rfl, HX.out.bel⟩
  · unfold varR at hv
    split at hv <;> cases hv

set_option maxHeartbeats 4000000 in
set_option maxRecDepth 100000 in
theorem part_a_no {w : World} {rb : Nat} {xv vv : Value} {l : List P10} {vs : List Vr} (h : Rk w rb xv vv l vs) {i : Nat} (hi : i < l.length) (hop : 3 ≤ l[i].1 ∧ l[i].1 ≤ 18) {er ea : Int} (CA : (∀ W, Rk W rb xv vv l vs → Calls Tryz.prog 45 #[.pointer (some ⟨rb, 0, none⟩), .int .i64 l[i].2.1] W fun e w' => e = .panicked (wrg er ea) ∧ Below W.heap.size W w')) : Calls Tryz.prog 45 #[.pointer (some ⟨rb, 0, none⟩), .int .i64 (i : Int)] w (fun e w' => e = .panicked (wrg er ea) ∧ Below w.heap.size w w') := by
  obtain ⟨bq, off, cap, rfl, hbl, -⟩ := h.es.at hi
  have h1 := h.up ((Below.refl _ w).alloc (Nat.le_refl _) (.cells #[.int .i64 0, .int .i64 0, .string ⟨#[]⟩] 48))
  obtain ⟨bq', off', cap', e', -, hc⟩ := h1.es.at hi
  cases e'
  obtain ⟨d0, d1, d2, d3, d4, d5⟩ := hc i hi
  have c0 := h1.c0
  clear h1 hc
  have i1 : (0 : Int) ≤ (i : Int) := by omega
  have i2 : (i : Int) < (l.length : Int) := by omega
  obtain ⟨W2, hW2⟩ : ∃ W2, (w.alloc (.cells #[.int .i64 0, .int .i64 0, .string ⟨#[]⟩] 48)).alloc (.cells #[.int .i64 l[i].1, .int .i64 l[i].2.1, .int .i64 l[i].2.2.1, .int .i64 l[i].2.2.2.1, .int .i64 l[i].2.2.2.2.1, .string (S l[i].2.2.2.2.2)] 68) = W2 := ⟨_, rfl⟩
  have HW : Hid (_ = W2) := hW2
  have HP : Hid (∀ W, Below W2.heap.size W2 W → Pf w W l[i]) := fun W hW => pf_of w l[i] W (by rw [← hW2] at hW; exact hW)
  have HR : Hid (∀ W, Below W2.heap.size W2 W → Rk W rb (.slice (some ⟨bq, off, none⟩) l.length cap) vv l vs) := fun W hW => h.up (HP.out W hW).bel
  have HMB : Hid (∃ mb, w.cell? ⟨rb, 2, none⟩ = some (.map (some mb)) ∧ Em w mb ∧ mb < w.heap.size ∧ rb < w.heap.size) := by
    obtain ⟨mb, m1, m2⟩ := h.mp
    obtain ⟨n, es, ck, h1, h2⟩ := id m2
    exact ⟨mb, m1, m2, (Array.getElem?_eq_some_iff.1 h1).1, h.lt⟩
  clear hW2
  have HK : Hid (Pf w W2 l[i]) := HP.out W2 (Below.refl _ _)
  have q0 := HK.out.p0
  have q1 := HK.out.p1
  have hl := HK.out.lt
  generalize l[i] = p at *
  obtain ⟨op, pa, pb, v0', v1', v2'⟩ := p
  simp only at *
  have e1 : ¬ op = 1 := by omega
  have e2 : ¬ op = 2 := by omega
  have g1 : (op == 1) = false := beq_eq_false_iff_ne.2 e1
  have g2 : (op == 2) = false := beq_eq_false_iff_ne.2 e2
  have CA' := CA W2 (HR.out W2 (Below.refl _ _))
  clear CA h
  go_enter Tryz.func45, Tryz.ntmps45
  go_upto_region 2 with fail
  rw [HW.out]
  go_wp2_with (go_at_call 45; refine CA'.mono ?_; rintro e w3 ⟨rfl, hb3⟩; (have HX : Hid (Pf w w3 _) := HP.out w3 hb3); clear hb3 CA')
  exact ⟨rfl, rfl, HX.out.bel⟩

set_option maxHeartbeats 4000000 in
set_option maxRecDepth 100000 in
theorem part_dcd {w : World} {rb : Nat} {xv vv : Value} {l : List P10} {vs : List Vr} (h : Rk w rb xv vv l vs) {i : Nat} (hi : i < l.length) (hop : 3 ≤ l[i].1 ∧ l[i].1 ≤ 18) {a : V9} (CA : (∀ W, Rk W rb xv vv l vs → Calls Tryz.prog 45 #[.pointer (some ⟨rb, 0, none⟩), .int .i64 l[i].2.1] W fun e w' => e = .returned (vA' a) ∧ Below W.heap.size W w')) (hdc : dcd l[i].1 a = true) : Calls Tryz.prog 45 #[.pointer (some ⟨rb, 0, none⟩), .int .i64 (i : Int)] w (fun e w' => e = .returned (vA' a) ∧ Below w.heap.size w w') := by
  obtain ⟨bq, off, cap, rfl, hbl, -⟩ := h.es.at hi
  have h1 := h.up ((Below.refl _ w).alloc (Nat.le_refl _) (.cells #[.int .i64 0, .int .i64 0, .string ⟨#[]⟩] 48))
  obtain ⟨bq', off', cap', e', -, hc⟩ := h1.es.at hi
  cases e'
  obtain ⟨d0, d1, d2, d3, d4, d5⟩ := hc i hi
  have c0 := h1.c0
  clear h1 hc
  have i1 : (0 : Int) ≤ (i : Int) := by omega
  have i2 : (i : Int) < (l.length : Int) := by omega
  obtain ⟨W2, hW2⟩ : ∃ W2, (w.alloc (.cells #[.int .i64 0, .int .i64 0, .string ⟨#[]⟩] 48)).alloc (.cells #[.int .i64 l[i].1, .int .i64 l[i].2.1, .int .i64 l[i].2.2.1, .int .i64 l[i].2.2.2.1, .int .i64 l[i].2.2.2.2.1, .string (S l[i].2.2.2.2.2)] 68) = W2 := ⟨_, rfl⟩
  have HW : Hid (_ = W2) := hW2
  have HP : Hid (∀ W, Below W2.heap.size W2 W → Pf w W l[i]) := fun W hW => pf_of w l[i] W (by rw [← hW2] at hW; exact hW)
  have HR : Hid (∀ W, Below W2.heap.size W2 W → Rk W rb (.slice (some ⟨bq, off, none⟩) l.length cap) vv l vs) := fun W hW => h.up (HP.out W hW).bel
  have HMB : Hid (∃ mb, w.cell? ⟨rb, 2, none⟩ = some (.map (some mb)) ∧ Em w mb ∧ mb < w.heap.size ∧ rb < w.heap.size) := by
    obtain ⟨mb, m1, m2⟩ := h.mp
    obtain ⟨n, es, ck, h1, h2⟩ := id m2
    exact ⟨mb, m1, m2, (Array.getElem?_eq_some_iff.1 h1).1, h.lt⟩
  clear hW2
  have HK : Hid (Pf w W2 l[i]) := HP.out W2 (Below.refl _ _)
  have q0 := HK.out.p0
  have q1 := HK.out.p1
  have hl := HK.out.lt
  generalize l[i] = p at *
  obtain ⟨op, pa, pb, v0', v1', v2'⟩ := p
  simp only at *
  have e1 : ¬ op = 1 := by omega
  have e2 : ¬ op = 2 := by omega
  have g1 : (op == 1) = false := beq_eq_false_iff_ne.2 e1
  have g2 : (op == 2) = false := beq_eq_false_iff_ne.2 e2
  have CA' := CA W2 (HR.out W2 (Below.refl _ _))
  clear CA h
  have CD := fun W => decides_any op a W
  obtain ⟨y0, y1, y2⟩ := a
  unfold vA' at CA' CD
  simp only [hdc] at CA' CD
  clear hdc
  unfold vA'
  go_enter Tryz.func45, Tryz.ntmps45
  go_upto_region 2 with fail
  rw [HW.out]
  go_upto_region 8 with (go_at_call 45; refine CA'.mono ?_; rintro e w3 ⟨rfl, hb3⟩; (have H3 : Hid (Below W2.heap.size W2 w3) := hb3); (have k3 := HP.out w3 hb3); (have q0 := k3.p0); simp only at q0; (have hl := k3.lt); clear k3 hb3 CA')
  obtain ⟨W4, hW4⟩ : ∃ W4, w3.alloc (.cells #[.int .i64 y0, .int .i64 y1, .string (S y2)] 48) = W4 := ⟨_, rfl⟩
  rw [hW4]
  have H4 : Hid (Below W2.heap.size W2 W4) := by rw [← hW4]; exact H3.out.alloc H3.out.size _
  have HA4 : Hid (Vb W4 w3.heap.size (y0, y1, y2)) := by rw [← hW4]; exact Vb.new w3 (y0, y1, y2)
  clear hW4 q0 q1 hl
  have q0 := (HP.out W4 H4.out).p0
  have hl := (HP.out W4 H4.out).lt
  obtain ⟨b0, b1, b2, hlb⟩ := HA4.out
  simp only at q0 b0 b1 b2
  go_wp2_with (go_at_call 89; refine (CD _).mono ?_; rintro e w5 ⟨rfl, hb5⟩; (have H5 : Hid (Below W2.heap.size W2 w5) := H4.out.trans (hb5.mono H4.out.size)); (have HA5 : Hid (Vb w5 w3.heap.size (y0, y1, y2)) := HA4.out.up hb5); (have k5 := HP.out w5 H5.out); (have r0 := k5.r0); (have r1 := k5.r1); (have r2 := k5.r2); (have f0 := k5.f 0); (have f1 := k5.f 1); (have f2 := k5.f 2); (have q0 := k5.p0); (have q2 := k5.p2); simp only at q0 q2; (have hl := k5.lt); obtain ⟨a0, a1, a2, hla⟩ := HA5.out; simp only at a0 a1 a2; (have HX : Hid (Pf w w5 _) := k5); clear k5 hb5 CD b0 b1 b2 hlb)
  exact bodyPost_ret (v := .agg #[.int .i64 y0, .int .i64 y1, .string (S y2)]) (by simp [results, Tryz.results45, go_sem, r0, r1, r2]) rfl ⟨rfl, HX.out.end _ _ _⟩

set_option maxHeartbeats 4000000 in
set_option maxRecDepth 100000 in
theorem part_b_no {w : World} {rb : Nat} {xv vv : Value} {l : List P10} {vs : List Vr} (h : Rk w rb xv vv l vs) {i : Nat} (hi : i < l.length) (hop : 3 ≤ l[i].1 ∧ l[i].1 ≤ 18) {a : V9} {er ea : Int} (CA : (∀ W, Rk W rb xv vv l vs → Calls Tryz.prog 45 #[.pointer (some ⟨rb, 0, none⟩), .int .i64 l[i].2.1] W fun e w' => e = .returned (vA' a) ∧ Below W.heap.size W w')) (hdc : dcd l[i].1 a = false) {jb : Nat} (hB : l[i].2.2.1 = (jb : Int)) (CB : (∀ W, Rk W rb xv vv l vs → Calls Tryz.prog 45 #[.pointer (some ⟨rb, 0, none⟩), .int .i64 l[i].2.2.1] W fun e w' => e = .panicked (wrg er ea) ∧ Below W.heap.size W w')) : Calls Tryz.prog 45 #[.pointer (some ⟨rb, 0, none⟩), .int .i64 (i : Int)] w (fun e w' => e = .panicked (wrg er ea) ∧ Below w.heap.size w w') := by
  obtain ⟨bq, off, cap, rfl, hbl, -⟩ := h.es.at hi
  have h1 := h.up ((Below.refl _ w).alloc (Nat.le_refl _) (.cells #[.int .i64 0, .int .i64 0, .string ⟨#[]⟩] 48))
  obtain ⟨bq', off', cap', e', -, hc⟩ := h1.es.at hi
  cases e'
  obtain ⟨d0, d1, d2, d3, d4, d5⟩ := hc i hi
  have c0 := h1.c0
  clear h1 hc
  have i1 : (0 : Int) ≤ (i : Int) := by omega
  have i2 : (i : Int) < (l.length : Int) := by omega
  obtain ⟨W2, hW2⟩ : ∃ W2, (w.alloc (.cells #[.int .i64 0, .int .i64 0, .string ⟨#[]⟩] 48)).alloc (.cells #[.int .i64 l[i].1, .int .i64 l[i].2.1, .int .i64 l[i].2.2.1, .int .i64 l[i].2.2.2.1, .int .i64 l[i].2.2.2.2.1, .string (S l[i].2.2.2.2.2)] 68) = W2 := ⟨_, rfl⟩
  have HW : Hid (_ = W2) := hW2
  have HP : Hid (∀ W, Below W2.heap.size W2 W → Pf w W l[i]) := fun W hW => pf_of w l[i] W (by rw [← hW2] at hW; exact hW)
  have HR : Hid (∀ W, Below W2.heap.size W2 W → Rk W rb (.slice (some ⟨bq, off, none⟩) l.length cap) vv l vs) := fun W hW => h.up (HP.out W hW).bel
  have HMB : Hid (∃ mb, w.cell? ⟨rb, 2, none⟩ = some (.map (some mb)) ∧ Em w mb ∧ mb < w.heap.size ∧ rb < w.heap.size) := by
    obtain ⟨mb, m1, m2⟩ := h.mp
    obtain ⟨n, es, ck, h1, h2⟩ := id m2
    exact ⟨mb, m1, m2, (Array.getElem?_eq_some_iff.1 h1).1, h.lt⟩
  clear hW2
  have HK : Hid (Pf w W2 l[i]) := HP.out W2 (Below.refl _ _)
  have q0 := HK.out.p0
  have q1 := HK.out.p1
  have hl := HK.out.lt
  generalize l[i] = p at *
  obtain ⟨op, pa, pb, v0', v1', v2'⟩ := p
  simp only at *
  have e1 : ¬ op = 1 := by omega
  have e2 : ¬ op = 2 := by omega
  have g1 : (op == 1) = false := beq_eq_false_iff_ne.2 e1
  have g2 : (op == 2) = false := beq_eq_false_iff_ne.2 e2
  have CA' := CA W2 (HR.out W2 (Below.refl _ _))
  clear CA h
  have CD := fun W => decides_any op a W
  obtain ⟨y0, y1, y2⟩ := a
  unfold vA' at CA' CD
  simp only [hdc] at CA' CD
  clear hdc
  subst hB
  have hjb : (0 : Int) ≤ (jb : Int) := by omega
  go_enter Tryz.func45, Tryz.ntmps45
  go_upto_region 2 with fail
  rw [HW.out]
  go_upto_region 8 with (go_at_call 45; refine CA'.mono ?_; rintro e w3 ⟨rfl, hb3⟩; (have H3 : Hid (Below W2.heap.size W2 w3) := hb3); (have k3 := HP.out w3 hb3); (have q0 := k3.p0); simp only at q0; (have hl := k3.lt); clear k3 hb3 CA')
  obtain ⟨W4, hW4⟩ : ∃ W4, w3.alloc (.cells #[.int .i64 y0, .int .i64 y1, .string (S y2)] 48) = W4 := ⟨_, rfl⟩
  rw [hW4]
  have H4 : Hid (Below W2.heap.size W2 W4) := by rw [← hW4]; exact H3.out.alloc H3.out.size _
  have HA4 : Hid (Vb W4 w3.heap.size (y0, y1, y2)) := by rw [← hW4]; exact Vb.new w3 (y0, y1, y2)
  clear hW4 q0 q1 hl
  have q0 := (HP.out W4 H4.out).p0
  have hl := (HP.out W4 H4.out).lt
  obtain ⟨b0, b1, b2, hlb⟩ := HA4.out
  simp only at q0 b0 b1 b2
  go_wp2_with (first
    | (go_at_call 89; refine (CD _).mono ?_; rintro e w5 ⟨rfl, hb5⟩; (have H5 : Hid (Below W2.heap.size W2 w5) := H4.out.trans (hb5.mono H4.out.size)); (have HA5 : Hid (Vb w5 w3.heap.size (y0, y1, y2)) := HA4.out.up hb5); (have k5 := HP.out w5 H5.out); (have r0 := k5.r0); (have r1 := k5.r1); (have r2 := k5.r2); (have f0 := k5.f 0); (have f1 := k5.f 1); (have f2 := k5.f 2); (have q0 := k5.p0); (have q2 := k5.p2); simp only at q0 q2; (have hl := k5.lt); obtain ⟨a0, a1, a2, hla⟩ := HA5.out; simp only at a0 a1 a2; (have HX : Hid (Pf w w5 _) := k5); clear k5 hb5 CD b0 b1 b2 hlb)
    | (go_at_call 45; refine (CB _ (HR.out _ (H5.out.alloc H5.out.size _))).mono ?_; rintro e w7 ⟨rfl, hb7⟩; (have H7 : Hid (Below W2.heap.size W2 w7) := bel_of (H5.out.alloc H5.out.size _) hb7 (Nat.le_refl _)); (have HA7 : Hid (Vb w7 w3.heap.size (y0, y1, y2)) := HA5.out.up ((Below.refl _ w5).alloc (Nat.le_refl _) _ |>.trans (hb7.mono (by simp)))); (have hz7 : w7.heap[w5.heap.size]? = some (.cells #[.int .i64 0, .int .i64 0, .string ⟨#[]⟩] 48 (0, 0)) := (hb7.block w5.heap.size (by simp)).trans (heap_alloc_new w5 _)); (have z0 : w7.cell? ⟨w5.heap.size, 0, none⟩ = some (.int .i64 0) := by simp [World.cell?, hz7]); (have z1 : w7.cell? ⟨w5.heap.size, 1, none⟩ = some (.int .i64 0) := by simp [World.cell?, hz7]); (have z2 : w7.cell? ⟨w5.heap.size, 2, none⟩ = some (.string ⟨#[]⟩) := by simp [World.cell?, hz7]); (have s0 : w7.frozen? ⟨w5.heap.size, 0, none⟩ = false := by simp [World.frozen?, hz7]); (have s1 : w7.frozen? ⟨w5.heap.size, 1, none⟩ = false := by simp [World.frozen?, hz7]); (have s2 : w7.frozen? ⟨w5.heap.size, 2, none⟩ = false := by simp [World.frozen?, hz7]); (have hl7 : w5.heap.size < w7.heap.size := by have := hb7.size; simp at this; omega); clear hb7 hz7 CB))
  exact ⟨rfl, rfl, (HP.out _ H7.out).bel⟩

set_option maxHeartbeats 4000000 in
set_option maxRecDepth 100000 in
theorem part_k0_un {w : World} {rb : Nat} {xv vv : Value} {l : List P10} {vs : List Vr} (h : Rk w rb xv vv l vs) {i : Nat} (hi : i < l.length) (hop : 3 ≤ l[i].1 ∧ l[i].1 ≤ 18) {a : V9} (CA : (∀ W, Rk W rb xv vv l vs → Calls Tryz.prog 45 #[.pointer (some ⟨rb, 0, none⟩), .int .i64 l[i].2.1] W fun e w' => e = .returned (vA' a) ∧ Below W.heap.size W w')) (hdc : dcd l[i].1 a = false) (hB : l[i].2.2.1 = -1) (hk : kof l[i].1 a.1 0 = 0) : Calls Tryz.prog 45 #[.pointer (some ⟨rb, 0, none⟩), .int .i64 (i : Int)] w (fun e w' => e = .panicked (wrg 9 0) ∧ Below w.heap.size w w') := by
  obtain ⟨bq, off, cap, rfl, hbl, -⟩ := h.es.at hi
  have h1 := h.up ((Below.refl _ w).alloc (Nat.le_refl _) (.cells #[.int .i64 0, .int .i64 0, .string ⟨#[]⟩] 48))
  obtain ⟨bq', off', cap', e', -, hc⟩ := h1.es.at hi
  cases e'
  obtain ⟨d0, d1, d2, d3, d4, d5⟩ := hc i hi
  have c0 := h1.c0
  clear h1 hc
  have i1 : (0 : Int) ≤ (i : Int) := by omega
  have i2 : (i : Int) < (l.length : Int) := by omega
  obtain ⟨W2, hW2⟩ : ∃ W2, (w.alloc (.cells #[.int .i64 0, .int .i64 0, .string ⟨#[]⟩] 48)).alloc (.cells #[.int .i64 l[i].1, .int .i64 l[i].2.1, .int .i64 l[i].2.2.1, .int .i64 l[i].2.2.2.1, .int .i64 l[i].2.2.2.2.1, .string (S l[i].2.2.2.2.2)] 68) = W2 := ⟨_, rfl⟩
  have HW : Hid (_ = W2) := hW2
  have HP : Hid (∀ W, Below W2.heap.size W2 W → Pf w W l[i]) := fun W hW => pf_of w l[i] W (by rw [← hW2] at hW; exact hW)
  have HR : Hid (∀ W, Below W2.heap.size W2 W → Rk W rb (.slice (some ⟨bq, off, none⟩) l.length cap) vv l vs) := fun W hW => h.up (HP.out W hW).bel
  have HMB : Hid (∃ mb, w.cell? ⟨rb, 2, none⟩ = some (.map (some mb)) ∧ Em w mb ∧ mb < w.heap.size ∧ rb < w.heap.size) := by
    obtain ⟨mb, m1, m2⟩ := h.mp
    obtain ⟨n, es, ck, h1, h2⟩ := id m2
    exact ⟨mb, m1, m2, (Array.getElem?_eq_some_iff.1 h1).1, h.lt⟩
  clear hW2
  have HK : Hid (Pf w W2 l[i]) := HP.out W2 (Below.refl _ _)
  have q0 := HK.out.p0
  have q1 := HK.out.p1
  have hl := HK.out.lt
  generalize l[i] = p at *
  obtain ⟨op, pa, pb, v0', v1', v2'⟩ := p
  simp only at *
  have e1 : ¬ op = 1 := by omega
  have e2 : ¬ op = 2 := by omega
  have g1 : (op == 1) = false := beq_eq_false_iff_ne.2 e1
  have g2 : (op == 2) = false := beq_eq_false_iff_ne.2 e2
  have CA' := CA W2 (HR.out W2 (Below.refl _ _))
  clear CA h
  have CD := fun W => decides_any op a W
  obtain ⟨y0, y1, y2⟩ := a
  unfold vA' at CA' CD
  simp only [hdc] at CA' CD
  clear hdc
  subst hB
  skip
  skip
  skip
  simp only at hk
  have HO : Hid (3 ≤ op ∧ op ≤ 18) := hop
  have HK0 : Hid (_ = (0 : Int)) := hk
  have CU := giveUp_any 9 0
  clear hk hop
  go_enter Tryz.func45, Tryz.ntmps45
  go_upto_region 2 with fail
  rw [HW.out]
  go_upto_region 8 with (go_at_call 45; refine CA'.mono ?_; rintro e w3 ⟨rfl, hb3⟩; (have H3 : Hid (Below W2.heap.size W2 w3) := hb3); (have k3 := HP.out w3 hb3); (have q0 := k3.p0); simp only at q0; (have hl := k3.lt); clear k3 hb3 CA')
  obtain ⟨W4, hW4⟩ : ∃ W4, w3.alloc (.cells #[.int .i64 y0, .int .i64 y1, .string (S y2)] 48) = W4 := ⟨_, rfl⟩
  rw [hW4]
  have H4 : Hid (Below W2.heap.size W2 W4) := by rw [← hW4]; exact H3.out.alloc H3.out.size _
  have HA4 : Hid (Vb W4 w3.heap.size (y0, y1, y2)) := by rw [← hW4]; exact Vb.new w3 (y0, y1, y2)
  clear hW4 q0 q1 hl
  have q0 := (HP.out W4 H4.out).p0
  have hl := (HP.out W4 H4.out).lt
  obtain ⟨b0, b1, b2, hlb⟩ := HA4.out
  simp only at q0 b0 b1 b2
  go_upto_region 13 with (first
    | (go_at_call 89; refine (CD _).mono ?_; rintro e w5 ⟨rfl, hb5⟩; (have H5 : Hid (Below W2.heap.size W2 w5) := H4.out.trans (hb5.mono H4.out.size)); (have HA5 : Hid (Vb w5 w3.heap.size (y0, y1, y2)) := HA4.out.up hb5); (have k5 := HP.out w5 H5.out); (have r0 := k5.r0); (have r1 := k5.r1); (have r2 := k5.r2); (have f0 := k5.f 0); (have f1 := k5.f 1); (have f2 := k5.f 2); (have q0 := k5.p0); (have q2 := k5.p2); simp only at q0 q2; (have hl := k5.lt); obtain ⟨a0, a1, a2, hla⟩ := HA5.out; simp only at a0 a1 a2; (have HX : Hid (Pf w w5 _) := k5); clear k5 hb5 CD b0 b1 b2 hlb))
  obtain ⟨W8, hW8⟩ : ∃ W8, w5.alloc (.cells #[.int .i64 0, .int .i64 0, .string ⟨#[]⟩] 48) = W8 := ⟨_, rfl⟩
  rw [hW8]
  have H8 : Hid (Below W2.heap.size W2 W8) := by rw [← hW8]; exact H5.out.alloc H5.out.size _
  have HA8 : Hid (Vb W8 w3.heap.size (y0, y1, y2)) := HA5.out.up (by rw [← hW8]; exact (Below.refl _ w5).alloc (Nat.le_refl _) _)
  have HB8 : Hid (Vb W8 w5.heap.size (0, 0, [])) := by rw [← hW8]; exact Vb.new w5 (0, 0, [])
  clear hW8 a0 a1 a2 hla r0 r1 r2 f0 f1 f2 q0 q2 hl
  have CK := fun W => kind_any op y0 0 HO.out W
  rw [HK0.out] at CK
  obtain ⟨mb, m1, m2, m3, m4⟩ := HMB.out
  have hw8 := (HP.out W8 H8.out).bel
  have m5 := (hw8.cell (p := ⟨rb, 2, none⟩) m4).trans m1
  have m6 := m2.below hw8
  have n3 : w.heap.size < w3.heap.size := by have h1 := H3.out.size; have h2 := (HP.out W2 (Below.refl _ _)).lt; omega
  have n5 : w.heap.size < w5.heap.size := by have h1 := H5.out.size; have h2 := (HP.out W2 (Below.refl _ _)).lt; omega
  have HT : Hid (∀ W, Ch (fun k => k = w.heap.size) W8 W → (W.cell? ⟨rb, 2, none⟩ = some (.map (some mb)) ∧ W.cell? ⟨w.heap.size + 1, 0, none⟩ = some (.int .i64 op) ∧ W.cell? ⟨w3.heap.size, 0, none⟩ = some (.int .i64 y0) ∧ W.cell? ⟨w3.heap.size, 1, none⟩ = some (.int .i64 y1) ∧ W.cell? ⟨w3.heap.size, 2, none⟩ = some (.string (S y2)) ∧ W.cell? ⟨w5.heap.size, 0, none⟩ = some (.int .i64 0) ∧ W.cell? ⟨w5.heap.size, 1, none⟩ = some (.int .i64 0) ∧ W.cell? ⟨w5.heap.size, 2, none⟩ = some (.string ⟨#[]⟩))) := fun W hW => by
    obtain ⟨u0, u1, u2, -⟩ := HA8.out
    obtain ⟨t0, t1, t2, -⟩ := HB8.out
    exact ⟨hW.cell m5 (by simp only; omega), hW.cell (HP.out W8 H8.out).p0 (by simp only; omega), hW.cell u0 (by simp only; omega), hW.cell u1 (by simp only; omega), hW.cell u2 (by simp only; omega), hW.cell t0 (by simp only; omega), hW.cell t1 (by simp only; omega), hW.cell t2 (by simp only; omega)⟩
  obtain ⟨j0, j1, j2, j3, j4, j5, j6, j7⟩ := HT.out W8 (Ch.refl _ _)
  clear m1 m2 m3 m4 m5 m6 n3 n5 hw8
  go_wp2_with (first
    | (go_at_call 66; refine (CK _).mono ?_; rintro e w9 ⟨rfl, hw9⟩; rw [hw9]; clear hw9)
    | (go_at_call 65; refine (CU _).mono ?_; rintro e w3 ⟨rfl, hw3⟩; rw [hw3]; clear hw3))
  exact ⟨rfl, rfl, (HP.out _ H8.out).bel⟩

set_option maxHeartbeats 4000000 in
set_option maxRecDepth 100000 in
theorem part_k0_bi {w : World} {rb : Nat} {xv vv : Value} {l : List P10} {vs : List Vr} (h : Rk w rb xv vv l vs) {i : Nat} (hi : i < l.length) (hop : 3 ≤ l[i].1 ∧ l[i].1 ≤ 18) {a b : V9} (CA : (∀ W, Rk W rb xv vv l vs → Calls Tryz.prog 45 #[.pointer (some ⟨rb, 0, none⟩), .int .i64 l[i].2.1] W fun e w' => e = .returned (vA' a) ∧ Below W.heap.size W w')) (hdc : dcd l[i].1 a = false) {jb : Nat} (hB : l[i].2.2.1 = (jb : Int)) (CB : (∀ W, Rk W rb xv vv l vs → Calls Tryz.prog 45 #[.pointer (some ⟨rb, 0, none⟩), .int .i64 l[i].2.2.1] W fun e w' => e = .returned (vA' b) ∧ Below W.heap.size W w')) (hk : kof l[i].1 a.1 b.1 = 0) : Calls Tryz.prog 45 #[.pointer (some ⟨rb, 0, none⟩), .int .i64 (i : Int)] w (fun e w' => e = .panicked (wrg 9 0) ∧ Below w.heap.size w w') := by
  obtain ⟨bq, off, cap, rfl, hbl, -⟩ := h.es.at hi
  have h1 := h.up ((Below.refl _ w).alloc (Nat.le_refl _) (.cells #[.int .i64 0, .int .i64 0, .string ⟨#[]⟩] 48))
  obtain ⟨bq', off', cap', e', -, hc⟩ := h1.es.at hi
  cases e'
  obtain ⟨d0, d1, d2, d3, d4, d5⟩ := hc i hi
  have c0 := h1.c0
  clear h1 hc
  have i1 : (0 : Int) ≤ (i : Int) := by omega
  have i2 : (i : Int) < (l.length : Int) := by omega
  obtain ⟨W2, hW2⟩ : ∃ W2, (w.alloc (.cells #[.int .i64 0, .int .i64 0, .string ⟨#[]⟩] 48)).alloc (.cells #[.int .i64 l[i].1, .int .i64 l[i].2.1, .int .i64 l[i].2.2.1, .int .i64 l[i].2.2.2.1, .int .i64 l[i].2.2.2.2.1, .string (S l[i].2.2.2.2.2)] 68) = W2 := ⟨_, rfl⟩
  have HW : Hid (_ = W2) := hW2
  have HP : Hid (∀ W, Below W2.heap.size W2 W → Pf w W l[i]) := fun W hW => pf_of w l[i] W (by rw [← hW2] at hW; exact hW)
  have HR : Hid (∀ W, Below W2.heap.size W2 W → Rk W rb (.slice (some ⟨bq, off, none⟩) l.length cap) vv l vs) := fun W hW => h.up (HP.out W hW).bel
  have HMB : Hid (∃ mb, w.cell? ⟨rb, 2, none⟩ = some (.map (some mb)) ∧ Em w mb ∧ mb < w.heap.size ∧ rb < w.heap.size) := by
    obtain ⟨mb, m1, m2⟩ := h.mp
    obtain ⟨n, es, ck, h1, h2⟩ := id m2
    exact ⟨mb, m1, m2, (Array.getElem?_eq_some_iff.1 h1).1, h.lt⟩
  clear hW2
  have HK : Hid (Pf w W2 l[i]) := HP.out W2 (Below.refl _ _)
  have q0 := HK.out.p0
  have q1 := HK.out.p1
  have hl := HK.out.lt
  generalize l[i] = p at *
  obtain ⟨op, pa, pb, v0', v1', v2'⟩ := p
  simp only at *
  have e1 : ¬ op = 1 := by omega
  have e2 : ¬ op = 2 := by omega
  have g1 : (op == 1) = false := beq_eq_false_iff_ne.2 e1
  have g2 : (op == 2) = false := beq_eq_false_iff_ne.2 e2
  have CA' := CA W2 (HR.out W2 (Below.refl _ _))
  clear CA h
  have CD := fun W => decides_any op a W
  obtain ⟨y0, y1, y2⟩ := a
  unfold vA' at CA' CD
  simp only [hdc] at CA' CD
  clear hdc
  subst hB
  have hjb : (0 : Int) ≤ (jb : Int) := by omega
  obtain ⟨x0, x1, x2⟩ := b
  unfold vA' at CB
  simp only at CB hk
  have HO : Hid (3 ≤ op ∧ op ≤ 18) := hop
  have HK0 : Hid (_ = (0 : Int)) := hk
  have CU := giveUp_any 9 0
  clear hk hop
  go_enter Tryz.func45, Tryz.ntmps45
  go_upto_region 2 with fail
  rw [HW.out]
  go_upto_region 8 with (go_at_call 45; refine CA'.mono ?_; rintro e w3 ⟨rfl, hb3⟩; (have H3 : Hid (Below W2.heap.size W2 w3) := hb3); (have k3 := HP.out w3 hb3); (have q0 := k3.p0); simp only at q0; (have hl := k3.lt); clear k3 hb3 CA')
  obtain ⟨W4, hW4⟩ : ∃ W4, w3.alloc (.cells #[.int .i64 y0, .int .i64 y1, .string (S y2)] 48) = W4 := ⟨_, rfl⟩
  rw [hW4]
  have H4 : Hid (Below W2.heap.size W2 W4) := by rw [← hW4]; exact H3.out.alloc H3.out.size _
  have HA4 : Hid (Vb W4 w3.heap.size (y0, y1, y2)) := by rw [← hW4]; exact Vb.new w3 (y0, y1, y2)
  clear hW4 q0 q1 hl
  have q0 := (HP.out W4 H4.out).p0
  have hl := (HP.out W4 H4.out).lt
  obtain ⟨b0, b1, b2, hlb⟩ := HA4.out
  simp only at q0 b0 b1 b2
  go_upto_region 13 with (first
    | (go_at_call 89; refine (CD _).mono ?_; rintro e w5 ⟨rfl, hb5⟩; (have H5 : Hid (Below W2.heap.size W2 w5) := H4.out.trans (hb5.mono H4.out.size)); (have HA5 : Hid (Vb w5 w3.heap.size (y0, y1, y2)) := HA4.out.up hb5); (have k5 := HP.out w5 H5.out); (have r0 := k5.r0); (have r1 := k5.r1); (have r2 := k5.r2); (have f0 := k5.f 0); (have f1 := k5.f 1); (have f2 := k5.f 2); (have q0 := k5.p0); (have q2 := k5.p2); simp only at q0 q2; (have hl := k5.lt); obtain ⟨a0, a1, a2, hla⟩ := HA5.out; simp only at a0 a1 a2; (have HX : Hid (Pf w w5 _) := k5); clear k5 hb5 CD b0 b1 b2 hlb)
    | (go_at_call 45; refine (CB _ (HR.out _ (H5.out.alloc H5.out.size _))).mono ?_; rintro e w7 ⟨rfl, hb7⟩; (have H7 : Hid (Below W2.heap.size W2 w7) := bel_of (H5.out.alloc H5.out.size _) hb7 (Nat.le_refl _)); (have HA7 : Hid (Vb w7 w3.heap.size (y0, y1, y2)) := HA5.out.up ((Below.refl _ w5).alloc (Nat.le_refl _) _ |>.trans (hb7.mono (by simp)))); (have hz7 : w7.heap[w5.heap.size]? = some (.cells #[.int .i64 0, .int .i64 0, .string ⟨#[]⟩] 48 (0, 0)) := (hb7.block w5.heap.size (by simp)).trans (heap_alloc_new w5 _)); (have z0 : w7.cell? ⟨w5.heap.size, 0, none⟩ = some (.int .i64 0) := by simp [World.cell?, hz7]); (have z1 : w7.cell? ⟨w5.heap.size, 1, none⟩ = some (.int .i64 0) := by simp [World.cell?, hz7]); (have z2 : w7.cell? ⟨w5.heap.size, 2, none⟩ = some (.string ⟨#[]⟩) := by simp [World.cell?, hz7]); (have s0 : w7.frozen? ⟨w5.heap.size, 0, none⟩ = false := by simp [World.frozen?, hz7]); (have s1 : w7.frozen? ⟨w5.heap.size, 1, none⟩ = false := by simp [World.frozen?, hz7]); (have s2 : w7.frozen? ⟨w5.heap.size, 2, none⟩ = false := by simp [World.frozen?, hz7]); (have hl7 : w5.heap.size < w7.heap.size := by have := hb7.size; simp at this; omega); clear hb7 hz7 CB))
  obtain ⟨W8, hW8⟩ : ∃ W8, ((w7.setCell ⟨w5.heap.size, 0, none⟩ (.int .i64 x0)).setCell ⟨w5.heap.size, 1, none⟩ (.int .i64 x1)).setCell ⟨w5.heap.size, 2, none⟩ (.string (S x2)) = W8 := ⟨_, rfl⟩
  rw [hW8]
  have c8 : Ch (fun k => k = w5.heap.size) w7 W8 := by rw [← hW8]; exact (((Ch.refl (fun k => k = w5.heap.size) w7).setCell ⟨w5.heap.size, 0, none⟩ _ (fun _ => rfl)).setCell ⟨w5.heap.size, 1, none⟩ _ (fun _ => rfl)).setCell ⟨w5.heap.size, 2, none⟩ _ (fun _ => rfl)
  have hl5 : w3.heap.size < w5.heap.size := hla
  have hs5 : W2.heap.size ≤ w5.heap.size := H5.out.size
  have hb8 : Below w5.heap.size w7 W8 := below_of_ch c8 (by omega) (fun k hk e => by omega)
  have H8 : Hid (Below W2.heap.size W2 W8) := H7.out.trans (hb8.mono hs5)
  have HA8 : Hid (Vb W8 w3.heap.size (y0, y1, y2)) := by
    obtain ⟨v0, v1, v2, vl⟩ := HA7.out
    exact ⟨(hb8.cell (p := ⟨w3.heap.size, 0, none⟩) hl5).trans v0, (hb8.cell (p := ⟨w3.heap.size, 1, none⟩) hl5).trans v1, (hb8.cell (p := ⟨w3.heap.size, 2, none⟩) hl5).trans v2, Nat.lt_of_lt_of_le vl hb8.size⟩
  have HB8 : Hid (Vb W8 w5.heap.size (x0, x1, x2)) := by
    subst hW8
    refine ⟨?_, ?_, ?_, by simpa using hl7⟩
    · go_simp
    · go_simp
    · go_simp
  clear hW8 c8 hb8 z0 z1 z2 s0 s1 s2 hl7 hl5 hs5 a0 a1 a2 hla r0 r1 r2 f0 f1 f2 q0 q2 hl
  have CK := fun W => kind_any op y0 x0 HO.out W
  rw [HK0.out] at CK
  obtain ⟨mb, m1, m2, m3, m4⟩ := HMB.out
  have hw8 := (HP.out W8 H8.out).bel
  have m5 := (hw8.cell (p := ⟨rb, 2, none⟩) m4).trans m1
  have m6 := m2.below hw8
  have n3 : w.heap.size < w3.heap.size := by have h1 := H3.out.size; have h2 := (HP.out W2 (Below.refl _ _)).lt; omega
  have n5 : w.heap.size < w5.heap.size := by have h1 := H5.out.size; have h2 := (HP.out W2 (Below.refl _ _)).lt; omega
  have HT : Hid (∀ W, Ch (fun k => k = w.heap.size) W8 W → (W.cell? ⟨rb, 2, none⟩ = some (.map (some mb)) ∧ W.cell? ⟨w.heap.size + 1, 0, none⟩ = some (.int .i64 op) ∧ W.cell? ⟨w3.heap.size, 0, none⟩ = some (.int .i64 y0) ∧ W.cell? ⟨w3.heap.size, 1, none⟩ = some (.int .i64 y1) ∧ W.cell? ⟨w3.heap.size, 2, none⟩ = some (.string (S y2)) ∧ W.cell? ⟨w5.heap.size, 0, none⟩ = some (.int .i64 x0) ∧ W.cell? ⟨w5.heap.size, 1, none⟩ = some (.int .i64 x1) ∧ W.cell? ⟨w5.heap.size, 2, none⟩ = some (.string (S x2)))) := fun W hW => by
    obtain ⟨u0, u1, u2, -⟩ := HA8.out
    obtain ⟨t0, t1, t2, -⟩ := HB8.out
    exact ⟨hW.cell m5 (by simp only; omega), hW.cell (HP.out W8 H8.out).p0 (by simp only; omega), hW.cell u0 (by simp only; omega), hW.cell u1 (by simp only; omega), hW.cell u2 (by simp only; omega), hW.cell t0 (by simp only; omega), hW.cell t1 (by simp only; omega), hW.cell t2 (by simp only; omega)⟩
  obtain ⟨j0, j1, j2, j3, j4, j5, j6, j7⟩ := HT.out W8 (Ch.refl _ _)
  clear m1 m2 m3 m4 m5 m6 n3 n5 hw8
  go_wp2_with (first
    | (go_at_call 66; refine (CK _).mono ?_; rintro e w9 ⟨rfl, hw9⟩; rw [hw9]; clear hw9)
    | (go_at_call 65; refine (CU _).mono ?_; rintro e w3 ⟨rfl, hw3⟩; rw [hw3]; clear hw3))
  exact ⟨rfl, rfl, (HP.out _ H8.out).bel⟩

set_option maxHeartbeats 4000000 in
set_option maxRecDepth 100000 in
theorem part_ok_un {w : World} {rb : Nat} {xv vv : Value} {l : List P10} {vs : List Vr} (h : Rk w rb xv vv l vs) {i : Nat} (hi : i < l.length) (hop : 3 ≤ l[i].1 ∧ l[i].1 ≤ 18) {a v : V9} (CA : (∀ W, Rk W rb xv vv l vs → Calls Tryz.prog 45 #[.pointer (some ⟨rb, 0, none⟩), .int .i64 l[i].2.1] W fun e w' => e = .returned (vA' a) ∧ Below W.heap.size W w')) (hdc : dcd l[i].1 a = false) (hB : l[i].2.2.1 = -1) (hk : ¬ kof l[i].1 a.1 0 = 0) {f : Nat} (hf : oprD.atKey (.int .i64 l[i].1) (.lit (.int .i64 (-1))) = fD f) (ef : Ent0 f) (CO : ∀ W, Calls Tryz.prog f #[vA' a, vA' (0, 0, [])] W fun e w' => e = .returned (vA' v) ∧ Below W.heap.size W w') : Calls Tryz.prog 45 #[.pointer (some ⟨rb, 0, none⟩), .int .i64 (i : Int)] w (fun e w' => e = .returned (vA' v) ∧ Below w.heap.size w w') := by
  obtain ⟨bq, off, cap, rfl, hbl, -⟩ := h.es.at hi
  have h1 := h.up ((Below.refl _ w).alloc (Nat.le_refl _) (.cells #[.int .i64 0, .int .i64 0, .string ⟨#[]⟩] 48))
  obtain ⟨bq', off', cap', e', -, hc⟩ := h1.es.at hi
  cases e'
  obtain ⟨d0, d1, d2, d3, d4, d5⟩ := hc i hi
  have c0 := h1.c0
  clear h1 hc
  have i1 : (0 : Int) ≤ (i : Int) := by omega
  have i2 : (i : Int) < (l.length : Int) := by omega
  obtain ⟨W2, hW2⟩ : ∃ W2, (w.alloc (.cells #[.int .i64 0, .int .i64 0, .string ⟨#[]⟩] 48)).alloc (.cells #[.int .i64 l[i].1, .int .i64 l[i].2.1, .int .i64 l[i].2.2.1, .int .i64 l[i].2.2.2.1, .int .i64 l[i].2.2.2.2.1, .string (S l[i].2.2.2.2.2)] 68) = W2 := ⟨_, rfl⟩
  have HW : Hid (_ = W2) := hW2
  have HP : Hid (∀ W, Below W2.heap.size W2 W → Pf w W l[i]) := fun W hW => pf_of w l[i] W (by rw [← hW2] at hW; exact hW)
  have HR : Hid (∀ W, Below W2.heap.size W2 W → Rk W rb (.slice (some ⟨bq, off, none⟩) l.length cap) vv l vs) := fun W hW => h.up (HP.out W hW).bel
  have HMB : Hid (∃ mb, w.cell? ⟨rb, 2, none⟩ = some (.map (some mb)) ∧ Em w mb ∧ mb < w.heap.size ∧ rb < w.heap.size) := by
    obtain ⟨mb, m1, m2⟩ := h.mp
    obtain ⟨n, es, ck, h1, h2⟩ := id m2
    exact ⟨mb, m1, m2, (Array.getElem?_eq_some_iff.1 h1).1, h.lt⟩
  clear hW2
  have HK : Hid (Pf w W2 l[i]) := HP.out W2 (Below.refl _ _)
  have q0 := HK.out.p0
  have q1 := HK.out.p1
  have hl := HK.out.lt
  generalize l[i] = p at *
  obtain ⟨op, pa, pb, v0', v1', v2'⟩ := p
  simp only at *
  have e1 : ¬ op = 1 := by omega
  have e2 : ¬ op = 2 := by omega
  have g1 : (op == 1) = false := beq_eq_false_iff_ne.2 e1
  have g2 : (op == 2) = false := beq_eq_false_iff_ne.2 e2
  have HF : Hid (oprD.atKey (.int .i64 op) (.lit (.int .i64 (-1))) = fD f) := hf
  have CA' := CA W2 (HR.out W2 (Below.refl _ _))
  clear CA h
  have CD := fun W => decides_any op a W
  obtain ⟨y0, y1, y2⟩ := a
  unfold vA' at CA' CD
  simp only [hdc] at CA' CD
  clear hdc
  subst hB
  skip
  skip
  skip
  obtain ⟨u0, u1, u2⟩ := v
  unfold vA' at CO ⊢
  simp only at hk CO
  have hSn : S ([] : List UInt8) = ⟨#[]⟩ := rfl
  rw [hSn] at CO
  clear hSn
  have HO : Hid (3 ≤ op ∧ op ≤ 18) := hop
  obtain ⟨kk, hkk⟩ : ∃ kk, kof op y0 0 = kk := ⟨_, rfl⟩
  rw [hkk] at hk
  have HK0 : Hid (kof op y0 0 = kk) := hkk
  have hk2 : (kk == 0) = false := beq_eq_false_iff_ne.2 hk
  unfold Ent0 at ef
  clear hop hf hkk
  go_enter Tryz.func45, Tryz.ntmps45
  go_upto_region 2 with fail
  rw [HW.out]
  go_upto_region 8 with (go_at_call 45; refine CA'.mono ?_; rintro e w3 ⟨rfl, hb3⟩; (have H3 : Hid (Below W2.heap.size W2 w3) := hb3); (have k3 := HP.out w3 hb3); (have q0 := k3.p0); simp only at q0; (have hl := k3.lt); clear k3 hb3 CA')
  obtain ⟨W4, hW4⟩ : ∃ W4, w3.alloc (.cells #[.int .i64 y0, .int .i64 y1, .string (S y2)] 48) = W4 := ⟨_, rfl⟩
  rw [hW4]
  have H4 : Hid (Below W2.heap.size W2 W4) := by rw [← hW4]; exact H3.out.alloc H3.out.size _
  have HA4 : Hid (Vb W4 w3.heap.size (y0, y1, y2)) := by rw [← hW4]; exact Vb.new w3 (y0, y1, y2)
  clear hW4 q0 q1 hl
  have q0 := (HP.out W4 H4.out).p0
  have hl := (HP.out W4 H4.out).lt
  obtain ⟨b0, b1, b2, hlb⟩ := HA4.out
  simp only at q0 b0 b1 b2
  go_upto_region 13 with (first
    | (go_at_call 89; refine (CD _).mono ?_; rintro e w5 ⟨rfl, hb5⟩; (have H5 : Hid (Below W2.heap.size W2 w5) := H4.out.trans (hb5.mono H4.out.size)); (have HA5 : Hid (Vb w5 w3.heap.size (y0, y1, y2)) := HA4.out.up hb5); (have k5 := HP.out w5 H5.out); (have r0 := k5.r0); (have r1 := k5.r1); (have r2 := k5.r2); (have f0 := k5.f 0); (have f1 := k5.f 1); (have f2 := k5.f 2); (have q0 := k5.p0); (have q2 := k5.p2); simp only at q0 q2; (have hl := k5.lt); obtain ⟨a0, a1, a2, hla⟩ := HA5.out; simp only at a0 a1 a2; (have HX : Hid (Pf w w5 _) := k5); clear k5 hb5 CD b0 b1 b2 hlb))
  obtain ⟨W8, hW8⟩ : ∃ W8, w5.alloc (.cells #[.int .i64 0, .int .i64 0, .string ⟨#[]⟩] 48) = W8 := ⟨_, rfl⟩
  rw [hW8]
  have H8 : Hid (Below W2.heap.size W2 W8) := by rw [← hW8]; exact H5.out.alloc H5.out.size _
  have HA8 : Hid (Vb W8 w3.heap.size (y0, y1, y2)) := HA5.out.up (by rw [← hW8]; exact (Below.refl _ w5).alloc (Nat.le_refl _) _)
  have HB8 : Hid (Vb W8 w5.heap.size (0, 0, [])) := by rw [← hW8]; exact Vb.new w5 (0, 0, [])
  clear hW8 a0 a1 a2 hla r0 r1 r2 f0 f1 f2 q0 q2 hl
  have CK := fun W => kind_any op y0 0 HO.out W
  rw [HK0.out] at CK
  obtain ⟨mb, m1, m2, m3, m4⟩ := HMB.out
  have hw8 := (HP.out W8 H8.out).bel
  have m5 := (hw8.cell (p := ⟨rb, 2, none⟩) m4).trans m1
  have m6 := m2.below hw8
  have n3 : w.heap.size < w3.heap.size := by have h1 := H3.out.size; have h2 := (HP.out W2 (Below.refl _ _)).lt; omega
  have n5 : w.heap.size < w5.heap.size := by have h1 := H5.out.size; have h2 := (HP.out W2 (Below.refl _ _)).lt; omega
  have HT : Hid (∀ W, Ch (fun k => k = w.heap.size) W8 W → (W.cell? ⟨rb, 2, none⟩ = some (.map (some mb)) ∧ W.cell? ⟨w.heap.size + 1, 0, none⟩ = some (.int .i64 op) ∧ W.cell? ⟨w3.heap.size, 0, none⟩ = some (.int .i64 y0) ∧ W.cell? ⟨w3.heap.size, 1, none⟩ = some (.int .i64 y1) ∧ W.cell? ⟨w3.heap.size, 2, none⟩ = some (.string (S y2)) ∧ W.cell? ⟨w5.heap.size, 0, none⟩ = some (.int .i64 0) ∧ W.cell? ⟨w5.heap.size, 1, none⟩ = some (.int .i64 0) ∧ W.cell? ⟨w5.heap.size, 2, none⟩ = some (.string ⟨#[]⟩) ∧ (Instr.lookup 86 (.map (some mb)) (.int .i64 op) false).run Tryz.prog W = .ok (.func (.func f) #[] #[]) W)) := fun W hW => by
    obtain ⟨u0, u1, u2, -⟩ := HA8.out
    obtain ⟨t0, t1, t2, -⟩ := HB8.out
    exact ⟨hW.cell m5 (by simp only; omega), hW.cell (HP.out W8 H8.out).p0 (by simp only; omega), hW.cell u0 (by simp only; omega), hW.cell u1 (by simp only; omega), hW.cell u2 (by simp only; omega), hW.cell t0 (by simp only; omega), hW.cell t1 (by simp only; omega), hW.cell t2 (by simp only; omega), (m6.ch hW (show ¬ mb = w.heap.size by omega)).look (by have := HO.out; omega) f HF.out⟩
  obtain ⟨j0, j1, j2, j3, j4, j5, j6, j7, j8⟩ := HT.out W8 (Ch.refl _ _)
  clear m1 m2 m3 m4 m5 m6 n3 n5 hw8
  go_upto_region 15 with (go_at_call 66; refine (CK _).mono ?_; rintro e w9 ⟨rfl, hw9⟩; rw [hw9]; clear hw9)
  have HT3 : Hid (∀ W, Below W8.heap.size W8 W → ∀ u0 u1 u2, (fun W => W.cell? ⟨rb, 2, none⟩ = some (.map (some mb)) ∧ W.cell? ⟨w.heap.size + 1, 0, none⟩ = some (.int .i64 op) ∧ W.cell? ⟨w3.heap.size, 0, none⟩ = some (.int .i64 y0) ∧ W.cell? ⟨w3.heap.size, 1, none⟩ = some (.int .i64 y1) ∧ W.cell? ⟨w3.heap.size, 2, none⟩ = some (.string (S y2)) ∧ W.cell? ⟨w5.heap.size, 0, none⟩ = some (.int .i64 0) ∧ W.cell? ⟨w5.heap.size, 1, none⟩ = some (.int .i64 0) ∧ W.cell? ⟨w5.heap.size, 2, none⟩ = some (.string ⟨#[]⟩) ∧ (Instr.lookup 86 (.map (some mb)) (.int .i64 op) false).run Tryz.prog W = .ok (.func (.func f) #[] #[]) W) (((W.setCell ⟨w.heap.size, 0, none⟩ u0).setCell ⟨w.heap.size, 1, none⟩ u1).setCell ⟨w.heap.size, 2, none⟩ u2)) := fun W hW u0 u1 u2 => HT.out _ ((((Ch.of_below (X := fun k => k = w.heap.size) hW).setCell ⟨w.heap.size, 0, none⟩ u0 (fun _ => rfl)).setCell ⟨w.heap.size, 1, none⟩ u1 (fun _ => rfl)).setCell ⟨w.heap.size, 2, none⟩ u2 (fun _ => rfl))
  go_region_held3 (fun W => W.cell? ⟨rb, 2, none⟩ = some (.map (some mb)) ∧ W.cell? ⟨w.heap.size + 1, 0, none⟩ = some (.int .i64 op) ∧ W.cell? ⟨w3.heap.size, 0, none⟩ = some (.int .i64 y0) ∧ W.cell? ⟨w3.heap.size, 1, none⟩ = some (.int .i64 y1) ∧ W.cell? ⟨w3.heap.size, 2, none⟩ = some (.string (S y2)) ∧ W.cell? ⟨w5.heap.size, 0, none⟩ = some (.int .i64 0) ∧ W.cell? ⟨w5.heap.size, 1, none⟩ = some (.int .i64 0) ∧ W.cell? ⟨w5.heap.size, 2, none⟩ = some (.string ⟨#[]⟩) ∧ (Instr.lookup 86 (.map (some mb)) (.int .i64 op) false).run Tryz.prog W = .ok (.func (.func f) #[] #[]) W)
    (first | exact HT.out _ (Ch.refl _ _) | exact HT.out _ (Ch.refl _ _).drew | exact HT.out _ (Ch.of_below hX9) | exact HT3.out w9 hX9 _ _ _ | go_keep)
    ((refine (CO _).mono ?_; rintro e w9 ⟨rfl, hb9⟩; (have hX9 : Below W8.heap.size W8 w9 := (Below.refl _ W8).drew.trans (hb9.mono (Nat.le_refl _))); (have H9 : Hid (Below W2.heap.size W2 w9) := bel_of H8.out ((Below.refl _ W8).drew.trans (hb9.mono (Nat.le_refl _))) (Nat.le_refl _)); (have k9 := HP.out w9 H9.out); (have r0 := k9.r0); (have r1 := k9.r1); (have r2 := k9.r2); (have f0 := k9.f 0); (have f1 := k9.f 1); (have f2 := k9.f 2); (have hl := k9.lt); (have HX : Hid (Pf w w9 _) := k9); clear k9 hb9 CO))
  all_goals
    go_wp2
    exact bodyPost_ret (v := .agg #[.int .i64 u0, .int .i64 u1, .string (S u2)]) (by simp [results, Tryz.results45, go_sem, r0, r1, r2]) rfl ⟨rfl, HX.out.end _ _ _⟩

set_option maxHeartbeats 4000000 in
set_option maxRecDepth 100000 in
theorem part_no_un {w : World} {rb : Nat} {xv vv : Value} {l : List P10} {vs : List Vr} (h : Rk w rb xv vv l vs) {i : Nat} (hi : i < l.length) (hop : 3 ≤ l[i].1 ∧ l[i].1 ≤ 18) {a : V9} {er ea : Int} (CA : (∀ W, Rk W rb xv vv l vs → Calls Tryz.prog 45 #[.pointer (some ⟨rb, 0, none⟩), .int .i64 l[i].2.1] W fun e w' => e = .returned (vA' a) ∧ Below W.heap.size W w')) (hdc : dcd l[i].1 a = false) (hB : l[i].2.2.1 = -1) (hk : ¬ kof l[i].1 a.1 0 = 0) {f : Nat} (hf : oprD.atKey (.int .i64 l[i].1) (.lit (.int .i64 (-1))) = fD f) (ef : Ent0 f) (CO : ∀ W, Calls Tryz.prog f #[vA' a, vA' (0, 0, [])] W fun e w' => e = .panicked (wrg er ea) ∧ Below W.heap.size W w') : Calls Tryz.prog 45 #[.pointer (some ⟨rb, 0, none⟩), .int .i64 (i : Int)] w (fun e w' => e = .panicked (wrg er ea) ∧ Below w.heap.size w w') := by
  obtain ⟨bq, off, cap, rfl, hbl, -⟩ := h.es.at hi
  have h1 := h.up ((Below.refl _ w).alloc (Nat.le_refl _) (.cells #[.int .i64 0, .int .i64 0, .string ⟨#[]⟩] 48))
  obtain ⟨bq', off', cap', e', -, hc⟩ := h1.es.at hi
  cases e'
  obtain ⟨d0, d1, d2, d3, d4, d5⟩ := hc i hi
  have c0 := h1.c0
  clear h1 hc
  have i1 : (0 : Int) ≤ (i : Int) := by omega
  have i2 : (i : Int) < (l.length : Int) := by omega
  obtain ⟨W2, hW2⟩ : ∃ W2, (w.alloc (.cells #[.int .i64 0, .int .i64 0, .string ⟨#[]⟩] 48)).alloc (.cells #[.int .i64 l[i].1, .int .i64 l[i].2.1, .int .i64 l[i].2.2.1, .int .i64 l[i].2.2.2.1, .int .i64 l[i].2.2.2.2.1, .string (S l[i].2.2.2.2.2)] 68) = W2 := ⟨_, rfl⟩
  have HW : Hid (_ = W2) := hW2
  have HP : Hid (∀ W, Below W2.heap.size W2 W → Pf w W l[i]) := fun W hW => pf_of w l[i] W (by rw [← hW2] at hW; exact hW)
  have HR : Hid (∀ W, Below W2.heap.size W2 W → Rk W rb (.slice (some ⟨bq, off, none⟩) l.length cap) vv l vs) := fun W hW => h.up (HP.out W hW).bel
  have HMB : Hid (∃ mb, w.cell? ⟨rb, 2, none⟩ = some (.map (some mb)) ∧ Em w mb ∧ mb < w.heap.size ∧ rb < w.heap.size) := by
    obtain ⟨mb, m1, m2⟩ := h.mp
    obtain ⟨n, es, ck, h1, h2⟩ := id m2
    exact ⟨mb, m1, m2, (Array.getElem?_eq_some_iff.1 h1).1, h.lt⟩
  clear hW2
  have HK : Hid (Pf w W2 l[i]) := HP.out W2 (Below.refl _ _)
  have q0 := HK.out.p0
  have q1 := HK.out.p1
  have hl := HK.out.lt
  generalize l[i] = p at *
  obtain ⟨op, pa, pb, v0', v1', v2'⟩ := p
  simp only at *
  have e1 : ¬ op = 1 := by omega
  have e2 : ¬ op = 2 := by omega
  have g1 : (op == 1) = false := beq_eq_false_iff_ne.2 e1
  have g2 : (op == 2) = false := beq_eq_false_iff_ne.2 e2
  have HF : Hid (oprD.atKey (.int .i64 op) (.lit (.int .i64 (-1))) = fD f) := hf
  have CA' := CA W2 (HR.out W2 (Below.refl _ _))
  clear CA h
  have CD := fun W => decides_any op a W
  obtain ⟨y0, y1, y2⟩ := a
  unfold vA' at CA' CD
  simp only [hdc] at CA' CD
  clear hdc
  subst hB
  skip
  skip
  skip
  skip
  unfold vA' at CO
  simp only at hk CO
  have hSn : S ([] : List UInt8) = ⟨#[]⟩ := rfl
  rw [hSn] at CO
  clear hSn
  have HO : Hid (3 ≤ op ∧ op ≤ 18) := hop
  obtain ⟨kk, hkk⟩ : ∃ kk, kof op y0 0 = kk := ⟨_, rfl⟩
  rw [hkk] at hk
  have HK0 : Hid (kof op y0 0 = kk) := hkk
  have hk2 : (kk == 0) = false := beq_eq_false_iff_ne.2 hk
  unfold Ent0 at ef
  clear hop hf hkk
  go_enter Tryz.func45, Tryz.ntmps45
  go_upto_region 2 with fail
  rw [HW.out]
  go_upto_region 8 with (go_at_call 45; refine CA'.mono ?_; rintro e w3 ⟨rfl, hb3⟩; (have H3 : Hid (Below W2.heap.size W2 w3) := hb3); (have k3 := HP.out w3 hb3); (have q0 := k3.p0); simp only at q0; (have hl := k3.lt); clear k3 hb3 CA')
  obtain ⟨W4, hW4⟩ : ∃ W4, w3.alloc (.cells #[.int .i64 y0, .int .i64 y1, .string (S y2)] 48) = W4 := ⟨_, rfl⟩
  rw [hW4]
  have H4 : Hid (Below W2.heap.size W2 W4) := by rw [← hW4]; exact H3.out.alloc H3.out.size _
  have HA4 : Hid (Vb W4 w3.heap.size (y0, y1, y2)) := by rw [← hW4]; exact Vb.new w3 (y0, y1, y2)
  clear hW4 q0 q1 hl
  have q0 := (HP.out W4 H4.out).p0
  have hl := (HP.out W4 H4.out).lt
  obtain ⟨b0, b1, b2, hlb⟩ := HA4.out
  simp only at q0 b0 b1 b2
  go_upto_region 13 with (first
    | (go_at_call 89; refine (CD _).mono ?_; rintro e w5 ⟨rfl, hb5⟩; (have H5 : Hid (Below W2.heap.size W2 w5) := H4.out.trans (hb5.mono H4.out.size)); (have HA5 : Hid (Vb w5 w3.heap.size (y0, y1, y2)) := HA4.out.up hb5); (have k5 := HP.out w5 H5.out); (have r0 := k5.r0); (have r1 := k5.r1); (have r2 := k5.r2); (have f0 := k5.f 0); (have f1 := k5.f 1); (have f2 := k5.f 2); (have q0 := k5.p0); (have q2 := k5.p2); simp only at q0 q2; (have hl := k5.lt); obtain ⟨a0, a1, a2, hla⟩ := HA5.out; simp only at a0 a1 a2; (have HX : Hid (Pf w w5 _) := k5); clear k5 hb5 CD b0 b1 b2 hlb))
  obtain ⟨W8, hW8⟩ : ∃ W8, w5.alloc (.cells #[.int .i64 0, .int .i64 0, .string ⟨#[]⟩] 48) = W8 := ⟨_, rfl⟩
  rw [hW8]
  have H8 : Hid (Below W2.heap.size W2 W8) := by rw [← hW8]; exact H5.out.alloc H5.out.size _
  have HA8 : Hid (Vb W8 w3.heap.size (y0, y1, y2)) := HA5.out.up (by rw [← hW8]; exact (Below.refl _ w5).alloc (Nat.le_refl _) _)
  have HB8 : Hid (Vb W8 w5.heap.size (0, 0, [])) := by rw [← hW8]; exact Vb.new w5 (0, 0, [])
  clear hW8 a0 a1 a2 hla r0 r1 r2 f0 f1 f2 q0 q2 hl
  have CK := fun W => kind_any op y0 0 HO.out W
  rw [HK0.out] at CK
  obtain ⟨mb, m1, m2, m3, m4⟩ := HMB.out
  have hw8 := (HP.out W8 H8.out).bel
  have m5 := (hw8.cell (p := ⟨rb, 2, none⟩) m4).trans m1
  have m6 := m2.below hw8
  have n3 : w.heap.size < w3.heap.size := by have h1 := H3.out.size; have h2 := (HP.out W2 (Below.refl _ _)).lt; omega
  have n5 : w.heap.size < w5.heap.size := by have h1 := H5.out.size; have h2 := (HP.out W2 (Below.refl _ _)).lt; omega
  have HT : Hid (∀ W, Ch (fun k => k = w.heap.size) W8 W → (W.cell? ⟨rb, 2, none⟩ = some (.map (some mb)) ∧ W.cell? ⟨w.heap.size + 1, 0, none⟩ = some (.int .i64 op) ∧ W.cell? ⟨w3.heap.size, 0, none⟩ = some (.int .i64 y0) ∧ W.cell? ⟨w3.heap.size, 1, none⟩ = some (.int .i64 y1) ∧ W.cell? ⟨w3.heap.size, 2, none⟩ = some (.string (S y2)) ∧ W.cell? ⟨w5.heap.size, 0, none⟩ = some (.int .i64 0) ∧ W.cell? ⟨w5.heap.size, 1, none⟩ = some (.int .i64 0) ∧ W.cell? ⟨w5.heap.size, 2, none⟩ = some (.string ⟨#[]⟩) ∧ (Instr.lookup 86 (.map (some mb)) (.int .i64 op) false).run Tryz.prog W = .ok (.func (.func f) #[] #[]) W)) := fun W hW => by
    obtain ⟨u0, u1, u2, -⟩ := HA8.out
    obtain ⟨t0, t1, t2, -⟩ := HB8.out
    exact ⟨hW.cell m5 (by simp only; omega), hW.cell (HP.out W8 H8.out).p0 (by simp only; omega), hW.cell u0 (by simp only; omega), hW.cell u1 (by simp only; omega), hW.cell u2 (by simp only; omega), hW.cell t0 (by simp only; omega), hW.cell t1 (by simp only; omega), hW.cell t2 (by simp only; omega), (m6.ch hW (show ¬ mb = w.heap.size by omega)).look (by have := HO.out; omega) f HF.out⟩
  obtain ⟨j0, j1, j2, j3, j4, j5, j6, j7, j8⟩ := HT.out W8 (Ch.refl _ _)
  clear m1 m2 m3 m4 m5 m6 n3 n5 hw8
  go_upto_region 15 with (go_at_call 66; refine (CK _).mono ?_; rintro e w9 ⟨rfl, hw9⟩; rw [hw9]; clear hw9)
  refine wp_region_held_drew (S := (fun W => W.cell? ⟨rb, 2, none⟩ = some (.map (some mb)) ∧ W.cell? ⟨w.heap.size + 1, 0, none⟩ = some (.int .i64 op) ∧ W.cell? ⟨w3.heap.size, 0, none⟩ = some (.int .i64 y0) ∧ W.cell? ⟨w3.heap.size, 1, none⟩ = some (.int .i64 y1) ∧ W.cell? ⟨w3.heap.size, 2, none⟩ = some (.string (S y2)) ∧ W.cell? ⟨w5.heap.size, 0, none⟩ = some (.int .i64 0) ∧ W.cell? ⟨w5.heap.size, 1, none⟩ = some (.int .i64 0) ∧ W.cell? ⟨w5.heap.size, 2, none⟩ = some (.string ⟨#[]⟩) ∧ (Instr.lookup 86 (.map (some mb)) (.int .i64 op) false).run Tryz.prog W = .ok (.func (.func f) #[] #[]) W)) (by kernel_rfl) (by first | exact HT.out _ (Ch.refl _ _) | exact HT.out _ (Ch.refl _ _).drew | go_keep) (fun hHeld => ?_)
  refine wpAnyH_take (i := 0) (v := ?_) rfl (by kernel_rfl) (by kernel_rfl) (by kernel_rfl) (fun _ _ _ h => h) (Or.inl ⟨by rfl, ?_⟩) (by assumption) ?_
  rotate_left 1
  · intro w hSw; (try dsimp only at hSw); go_simp; try with_reducible rfl
  refine wpAnyH_take (i := 1) (v := ?_) rfl (by kernel_rfl) (by kernel_rfl) (by kernel_rfl) (fun _ _ _ h => h) (Or.inl ⟨by rfl, ?_⟩) (by assumption) ?_
  rotate_left 1
  · intro w hSw; (try dsimp only at hSw); go_simp; try with_reducible rfl
  refine wpAnyH_take (i := 2) (v := ?_) rfl (by kernel_rfl) (by kernel_rfl) (by kernel_rfl) (fun _ _ _ h => h) (Or.inl ⟨by rfl, ?_⟩) (by assumption) ?_
  rotate_left 1
  · intro w hSw; (try dsimp only at hSw); go_simp; try with_reducible rfl
  refine wpAnyH_take (i := 3) (v := ?_) rfl (by kernel_rfl) (by kernel_rfl) (by kernel_rfl) (fun _ _ _ h => h) (Or.inl ⟨by rfl, ?_⟩) (by assumption) ?_
  rotate_left 1
  · intro w hSw; (try dsimp only at hSw); go_simp; try with_reducible rfl
  refine wpAnyH_take (i := 4) (v := ?_) rfl (by kernel_rfl) (by kernel_rfl) (by kernel_rfl) (fun _ _ _ h => h) (Or.inl ⟨by rfl, ?_⟩) (by assumption) ?_
  rotate_left 1
  · intro w hSw; (try dsimp only at hSw); go_simp; try with_reducible rfl
  refine wpAnyH_take (i := 5) (v := ?_) rfl (by kernel_rfl) (by kernel_rfl) (by kernel_rfl) (fun _ _ _ h => h) (Or.inl ⟨by rfl, ?_⟩) (by assumption) ?_
  rotate_left 1
  · intro w hSw; (try dsimp only at hSw); go_simp; try with_reducible rfl
  refine wpAnyH_take (i := 6) (v := ?_) rfl (by kernel_rfl) (by kernel_rfl) (by kernel_rfl) (fun _ _ _ h => h) (Or.inl ⟨by rfl, ?_⟩) (by assumption) ?_
  rotate_left 1
  · intro w hSw; (try dsimp only at hSw); go_simp; try with_reducible rfl
  refine wpAnyH_take (i := 7) (v := ?_) rfl (by kernel_rfl) (by kernel_rfl) (by kernel_rfl) (fun _ _ _ h => h) (Or.inl ⟨by rfl, ?_⟩) (by assumption) ?_
  rotate_left 1
  · intro w hSw; (try dsimp only at hSw); go_simp; try with_reducible rfl
  refine wpAnyH_take (i := 8) (v := ?_) rfl (by kernel_rfl) (by kernel_rfl) (by kernel_rfl) (fun _ _ _ h => h) (Or.inl ⟨by rfl, ?_⟩) (by assumption) ?_
  rotate_left 1
  · intro w hSw; (try dsimp only at hSw); go_simp; try with_reducible rfl
  refine wpAnyH_ready (rs := [9]) (by kernel_rfl) (by simp) ?_
  refine AllReadyH.cons rfl (fun K _ => ?_) AllReadyH.nil
  go_simp
  refine (CO _).mono ?_
  rintro e w9 ⟨rfl, hb9⟩
  exact ⟨rfl, rfl, (HP.out w9 (bel_of H8.out ((Below.refl _ W8).drew.trans (hb9.mono (Nat.le_refl _))) (Nat.le_refl _))).bel⟩

set_option maxHeartbeats 4000000 in
set_option maxRecDepth 100000 in
theorem part_ok_bi {w : World} {rb : Nat} {xv vv : Value} {l : List P10} {vs : List Vr} (h : Rk w rb xv vv l vs) {i : Nat} (hi : i < l.length) (hop : 3 ≤ l[i].1 ∧ l[i].1 ≤ 18) {a b v : V9} (CA : (∀ W, Rk W rb xv vv l vs → Calls Tryz.prog 45 #[.pointer (some ⟨rb, 0, none⟩), .int .i64 l[i].2.1] W fun e w' => e = .returned (vA' a) ∧ Below W.heap.size W w')) (hdc : dcd l[i].1 a = false) {jb : Nat} (hB : l[i].2.2.1 = (jb : Int)) (CB : (∀ W, Rk W rb xv vv l vs → Calls Tryz.prog 45 #[.pointer (some ⟨rb, 0, none⟩), .int .i64 l[i].2.2.1] W fun e w' => e = .returned (vA' b) ∧ Below W.heap.size W w')) (hk : ¬ kof l[i].1 a.1 b.1 = 0) {f : Nat} (hf : oprD.atKey (.int .i64 l[i].1) (.lit (.int .i64 (-1))) = fD f) (ef : Ent0 f) (CO : ∀ W, Calls Tryz.prog f #[vA' a, vA' b] W fun e w' => e = .returned (vA' v) ∧ Below W.heap.size W w') : Calls Tryz.prog 45 #[.pointer (some ⟨rb, 0, none⟩), .int .i64 (i : Int)] w (fun e w' => e = .returned (vA' v) ∧ Below w.heap.size w w') := by
  obtain ⟨bq, off, cap, rfl, hbl, -⟩ := h.es.at hi
  have h1 := h.up ((Below.refl _ w).alloc (Nat.le_refl _) (.cells #[.int .i64 0, .int .i64 0, .string ⟨#[]⟩] 48))
  obtain ⟨bq', off', cap', e', -, hc⟩ := h1.es.at hi
  cases e'
  obtain ⟨d0, d1, d2, d3, d4, d5⟩ := hc i hi
  have c0 := h1.c0
  clear h1 hc
  have i1 : (0 : Int) ≤ (i : Int) := by omega
  have i2 : (i : Int) < (l.length : Int) := by omega
  obtain ⟨W2, hW2⟩ : ∃ W2, (w.alloc (.cells #[.int .i64 0, .int .i64 0, .string ⟨#[]⟩] 48)).alloc (.cells #[.int .i64 l[i].1, .int .i64 l[i].2.1, .int .i64 l[i].2.2.1, .int .i64 l[i].2.2.2.1, .int .i64 l[i].2.2.2.2.1, .string (S l[i].2.2.2.2.2)] 68) = W2 := ⟨_, rfl⟩
  have HW : Hid (_ = W2) := hW2
  have HP : Hid (∀ W, Below W2.heap.size W2 W → Pf w W l[i]) := fun W hW => pf_of w l[i] W (by rw [← hW2] at hW; exact hW)
  have HR : Hid (∀ W, Below W2.heap.size W2 W → Rk W rb (.slice (some ⟨bq, off, none⟩) l.length cap) vv l vs) := fun W hW => h.up (HP.out W hW).bel
  have HMB : Hid (∃ mb, w.cell? ⟨rb, 2, none⟩ = some (.map (some mb)) ∧ Em w mb ∧ mb < w.heap.size ∧ rb < w.heap.size) := by
    obtain ⟨mb, m1, m2⟩ := h.mp
    obtain ⟨n, es, ck, h1, h2⟩ := id m2
    exact ⟨mb, m1, m2, (Array.getElem?_eq_some_iff.1 h1).1, h.lt⟩
  clear hW2
  have HK : Hid (Pf w W2 l[i]) := HP.out W2 (Below.refl _ _)
  have q0 := HK.out.p0
  have q1 := HK.out.p1
  have hl := HK.out.lt
  generalize l[i] = p at *
  obtain ⟨op, pa, pb, v0', v1', v2'⟩ := p
  simp only at *
  have e1 : ¬ op = 1 := by omega
  have e2 : ¬ op = 2 := by omega
  have g1 : (op == 1) = false := beq_eq_false_iff_ne.2 e1
  have g2 : (op == 2) = false := beq_eq_false_iff_ne.2 e2
  have HF : Hid (oprD.atKey (.int .i64 op) (.lit (.int .i64 (-1))) = fD f) := hf
  have CA' := CA W2 (HR.out W2 (Below.refl _ _))
  clear CA h
  have CD := fun W => decides_any op a W
  obtain ⟨y0, y1, y2⟩ := a
  unfold vA' at CA' CD
  simp only [hdc] at CA' CD
  clear hdc
  subst hB
  have hjb : (0 : Int) ≤ (jb : Int) := by omega
  obtain ⟨x0, x1, x2⟩ := b
  unfold vA' at CB
  obtain ⟨u0, u1, u2⟩ := v
  unfold vA' at CO ⊢
  simp only at CB hk CO
  skip
  skip
  skip
  have HO : Hid (3 ≤ op ∧ op ≤ 18) := hop
  obtain ⟨kk, hkk⟩ : ∃ kk, kof op y0 x0 = kk := ⟨_, rfl⟩
  rw [hkk] at hk
  have HK0 : Hid (kof op y0 x0 = kk) := hkk
  have hk2 : (kk == 0) = false := beq_eq_false_iff_ne.2 hk
  unfold Ent0 at ef
  clear hop hf hkk
  go_enter Tryz.func45, Tryz.ntmps45
  go_upto_region 2 with fail
  rw [HW.out]
  go_upto_region 8 with (go_at_call 45; refine CA'.mono ?_; rintro e w3 ⟨rfl, hb3⟩; (have H3 : Hid (Below W2.heap.size W2 w3) := hb3); (have k3 := HP.out w3 hb3); (have q0 := k3.p0); simp only at q0; (have hl := k3.lt); clear k3 hb3 CA')
  obtain ⟨W4, hW4⟩ : ∃ W4, w3.alloc (.cells #[.int .i64 y0, .int .i64 y1, .string (S y2)] 48) = W4 := ⟨_, rfl⟩
  rw [hW4]
  have H4 : Hid (Below W2.heap.size W2 W4) := by rw [← hW4]; exact H3.out.alloc H3.out.size _
  have HA4 : Hid (Vb W4 w3.heap.size (y0, y1, y2)) := by rw [← hW4]; exact Vb.new w3 (y0, y1, y2)
  clear hW4 q0 q1 hl
  have q0 := (HP.out W4 H4.out).p0
  have hl := (HP.out W4 H4.out).lt
  obtain ⟨b0, b1, b2, hlb⟩ := HA4.out
  simp only at q0 b0 b1 b2
  go_upto_region 13 with (first
    | (go_at_call 89; refine (CD _).mono ?_; rintro e w5 ⟨rfl, hb5⟩; (have H5 : Hid (Below W2.heap.size W2 w5) := H4.out.trans (hb5.mono H4.out.size)); (have HA5 : Hid (Vb w5 w3.heap.size (y0, y1, y2)) := HA4.out.up hb5); (have k5 := HP.out w5 H5.out); (have r0 := k5.r0); (have r1 := k5.r1); (have r2 := k5.r2); (have f0 := k5.f 0); (have f1 := k5.f 1); (have f2 := k5.f 2); (have q0 := k5.p0); (have q2 := k5.p2); simp only at q0 q2; (have hl := k5.lt); obtain ⟨a0, a1, a2, hla⟩ := HA5.out; simp only at a0 a1 a2; (have HX : Hid (Pf w w5 _) := k5); clear k5 hb5 CD b0 b1 b2 hlb)
    | (go_at_call 45; refine (CB _ (HR.out _ (H5.out.alloc H5.out.size _))).mono ?_; rintro e w7 ⟨rfl, hb7⟩; (have H7 : Hid (Below W2.heap.size W2 w7) := bel_of (H5.out.alloc H5.out.size _) hb7 (Nat.le_refl _)); (have HA7 : Hid (Vb w7 w3.heap.size (y0, y1, y2)) := HA5.out.up ((Below.refl _ w5).alloc (Nat.le_refl _) _ |>.trans (hb7.mono (by simp)))); (have hz7 : w7.heap[w5.heap.size]? = some (.cells #[.int .i64 0, .int .i64 0, .string ⟨#[]⟩] 48 (0, 0)) := (hb7.block w5.heap.size (by simp)).trans (heap_alloc_new w5 _)); (have z0 : w7.cell? ⟨w5.heap.size, 0, none⟩ = some (.int .i64 0) := by simp [World.cell?, hz7]); (have z1 : w7.cell? ⟨w5.heap.size, 1, none⟩ = some (.int .i64 0) := by simp [World.cell?, hz7]); (have z2 : w7.cell? ⟨w5.heap.size, 2, none⟩ = some (.string ⟨#[]⟩) := by simp [World.cell?, hz7]); (have s0 : w7.frozen? ⟨w5.heap.size, 0, none⟩ = false := by simp [World.frozen?, hz7]); (have s1 : w7.frozen? ⟨w5.heap.size, 1, none⟩ = false := by simp [World.frozen?, hz7]); (have s2 : w7.frozen? ⟨w5.heap.size, 2, none⟩ = false := by simp [World.frozen?, hz7]); (have hl7 : w5.heap.size < w7.heap.size := by have := hb7.size; simp at this; omega); clear hb7 hz7 CB))
  obtain ⟨W8, hW8⟩ : ∃ W8, ((w7.setCell ⟨w5.heap.size, 0, none⟩ (.int .i64 x0)).setCell ⟨w5.heap.size, 1, none⟩ (.int .i64 x1)).setCell ⟨w5.heap.size, 2, none⟩ (.string (S x2)) = W8 := ⟨_, rfl⟩
  rw [hW8]
  have c8 : Ch (fun k => k = w5.heap.size) w7 W8 := by rw [← hW8]; exact (((Ch.refl (fun k => k = w5.heap.size) w7).setCell ⟨w5.heap.size, 0, none⟩ _ (fun _ => rfl)).setCell ⟨w5.heap.size, 1, none⟩ _ (fun _ => rfl)).setCell ⟨w5.heap.size, 2, none⟩ _ (fun _ => rfl)
  have hl5 : w3.heap.size < w5.heap.size := hla
  have hs5 : W2.heap.size ≤ w5.heap.size := H5.out.size
  have hb8 : Below w5.heap.size w7 W8 := below_of_ch c8 (by omega) (fun k hk e => by omega)
  have H8 : Hid (Below W2.heap.size W2 W8) := H7.out.trans (hb8.mono hs5)
  have HA8 : Hid (Vb W8 w3.heap.size (y0, y1, y2)) := by
    obtain ⟨v0, v1, v2, vl⟩ := HA7.out
    exact ⟨(hb8.cell (p := ⟨w3.heap.size, 0, none⟩) hl5).trans v0, (hb8.cell (p := ⟨w3.heap.size, 1, none⟩) hl5).trans v1, (hb8.cell (p := ⟨w3.heap.size, 2, none⟩) hl5).trans v2, Nat.lt_of_lt_of_le vl hb8.size⟩
  have HB8 : Hid (Vb W8 w5.heap.size (x0, x1, x2)) := by
    subst hW8
    refine ⟨?_, ?_, ?_, by simpa using hl7⟩
    · go_simp
    · go_simp
    · go_simp
  clear hW8 c8 hb8 z0 z1 z2 s0 s1 s2 hl7 hl5 hs5 a0 a1 a2 hla r0 r1 r2 f0 f1 f2 q0 q2 hl
  have CK := fun W => kind_any op y0 x0 HO.out W
  rw [HK0.out] at CK
  obtain ⟨mb, m1, m2, m3, m4⟩ := HMB.out
  have hw8 := (HP.out W8 H8.out).bel
  have m5 := (hw8.cell (p := ⟨rb, 2, none⟩) m4).trans m1
  have m6 := m2.below hw8
  have n3 : w.heap.size < w3.heap.size := by have h1 := H3.out.size; have h2 := (HP.out W2 (Below.refl _ _)).lt; omega
  have n5 : w.heap.size < w5.heap.size := by have h1 := H5.out.size; have h2 := (HP.out W2 (Below.refl _ _)).lt; omega
  have HT : Hid (∀ W, Ch (fun k => k = w.heap.size) W8 W → (W.cell? ⟨rb, 2, none⟩ = some (.map (some mb)) ∧ W.cell? ⟨w.heap.size + 1, 0, none⟩ = some (.int .i64 op) ∧ W.cell? ⟨w3.heap.size, 0, none⟩ = some (.int .i64 y0) ∧ W.cell? ⟨w3.heap.size, 1, none⟩ = some (.int .i64 y1) ∧ W.cell? ⟨w3.heap.size, 2, none⟩ = some (.string (S y2)) ∧ W.cell? ⟨w5.heap.size, 0, none⟩ = some (.int .i64 x0) ∧ W.cell? ⟨w5.heap.size, 1, none⟩ = some (.int .i64 x1) ∧ W.cell? ⟨w5.heap.size, 2, none⟩ = some (.string (S x2)) ∧ (Instr.lookup 86 (.map (some mb)) (.int .i64 op) false).run Tryz.prog W = .ok (.func (.func f) #[] #[]) W)) := fun W hW => by
    obtain ⟨u0, u1, u2, -⟩ := HA8.out
    obtain ⟨t0, t1, t2, -⟩ := HB8.out
    exact ⟨hW.cell m5 (by simp only; omega), hW.cell (HP.out W8 H8.out).p0 (by simp only; omega), hW.cell u0 (by simp only; omega), hW.cell u1 (by simp only; omega), hW.cell u2 (by simp only; omega), hW.cell t0 (by simp only; omega), hW.cell t1 (by simp only; omega), hW.cell t2 (by simp only; omega), (m6.ch hW (show ¬ mb = w.heap.size by omega)).look (by have := HO.out; omega) f HF.out⟩
  obtain ⟨j0, j1, j2, j3, j4, j5, j6, j7, j8⟩ := HT.out W8 (Ch.refl _ _)
  clear m1 m2 m3 m4 m5 m6 n3 n5 hw8
  go_upto_region 15 with (go_at_call 66; refine (CK _).mono ?_; rintro e w9 ⟨rfl, hw9⟩; rw [hw9]; clear hw9)
  have HT3 : Hid (∀ W, Below W8.heap.size W8 W → ∀ u0 u1 u2, (fun W => W.cell? ⟨rb, 2, none⟩ = some (.map (some mb)) ∧ W.cell? ⟨w.heap.size + 1, 0, none⟩ = some (.int .i64 op) ∧ W.cell? ⟨w3.heap.size, 0, none⟩ = some (.int .i64 y0) ∧ W.cell? ⟨w3.heap.size, 1, none⟩ = some (.int .i64 y1) ∧ W.cell? ⟨w3.heap.size, 2, none⟩ = some (.string (S y2)) ∧ W.cell? ⟨w5.heap.size, 0, none⟩ = some (.int .i64 x0) ∧ W.cell? ⟨w5.heap.size, 1, none⟩ = some (.int .i64 x1) ∧ W.cell? ⟨w5.heap.size, 2, none⟩ = some (.string (S x2)) ∧ (Instr.lookup 86 (.map (some mb)) (.int .i64 op) false).run Tryz.prog W = .ok (.func (.func f) #[] #[]) W) (((W.setCell ⟨w.heap.size, 0, none⟩ u0).setCell ⟨w.heap.size, 1, none⟩ u1).setCell ⟨w.heap.size, 2, none⟩ u2)) := fun W hW u0 u1 u2 => HT.out _ ((((Ch.of_below (X := fun k => k = w.heap.size) hW).setCell ⟨w.heap.size, 0, none⟩ u0 (fun _ => rfl)).setCell ⟨w.heap.size, 1, none⟩ u1 (fun _ => rfl)).setCell ⟨w.heap.size, 2, none⟩ u2 (fun _ => rfl))
  go_region_held3 (fun W => W.cell? ⟨rb, 2, none⟩ = some (.map (some mb)) ∧ W.cell? ⟨w.heap.size + 1, 0, none⟩ = some (.int .i64 op) ∧ W.cell? ⟨w3.heap.size, 0, none⟩ = some (.int .i64 y0) ∧ W.cell? ⟨w3.heap.size, 1, none⟩ = some (.int .i64 y1) ∧ W.cell? ⟨w3.heap.size, 2, none⟩ = some (.string (S y2)) ∧ W.cell? ⟨w5.heap.size, 0, none⟩ = some (.int .i64 x0) ∧ W.cell? ⟨w5.heap.size, 1, none⟩ = some (.int .i64 x1) ∧ W.cell? ⟨w5.heap.size, 2, none⟩ = some (.string (S x2)) ∧ (Instr.lookup 86 (.map (some mb)) (.int .i64 op) false).run Tryz.prog W = .ok (.func (.func f) #[] #[]) W)
    (first | exact HT.out _ (Ch.refl _ _) | exact HT.out _ (Ch.refl _ _).drew | exact HT.out _ (Ch.of_below hX9) | exact HT3.out w9 hX9 _ _ _ | go_keep)
    ((refine (CO _).mono ?_; rintro e w9 ⟨rfl, hb9⟩; (have hX9 : Below W8.heap.size W8 w9 := (Below.refl _ W8).drew.trans (hb9.mono (Nat.le_refl _))); (have H9 : Hid (Below W2.heap.size W2 w9) := bel_of H8.out ((Below.refl _ W8).drew.trans (hb9.mono (Nat.le_refl _))) (Nat.le_refl _)); (have k9 := HP.out w9 H9.out); (have r0 := k9.r0); (have r1 := k9.r1); (have r2 := k9.r2); (have f0 := k9.f 0); (have f1 := k9.f 1); (have f2 := k9.f 2); (have hl := k9.lt); (have HX : Hid (Pf w w9 _) := k9); clear k9 hb9 CO))
  all_goals
    go_wp2
    exact bodyPost_ret (v := .agg #[.int .i64 u0, .int .i64 u1, .string (S u2)]) (by simp [results, Tryz.results45, go_sem, r0, r1, r2]) rfl ⟨rfl, HX.out.end _ _ _⟩

set_option maxHeartbeats 4000000 in
set_option maxRecDepth 100000 in
theorem part_no_bi {w : World} {rb : Nat} {xv vv : Value} {l : List P10} {vs : List Vr} (h : Rk w rb xv vv l vs) {i : Nat} (hi : i < l.length) (hop : 3 ≤ l[i].1 ∧ l[i].1 ≤ 18) {a b : V9} {er ea : Int} (CA : (∀ W, Rk W rb xv vv l vs → Calls Tryz.prog 45 #[.pointer (some ⟨rb, 0, none⟩), .int .i64 l[i].2.1] W fun e w' => e = .returned (vA' a) ∧ Below W.heap.size W w')) (hdc : dcd l[i].1 a = false) {jb : Nat} (hB : l[i].2.2.1 = (jb : Int)) (CB : (∀ W, Rk W rb xv vv l vs → Calls Tryz.prog 45 #[.pointer (some ⟨rb, 0, none⟩), .int .i64 l[i].2.2.1] W fun e w' => e = .returned (vA' b) ∧ Below W.heap.size W w')) (hk : ¬ kof l[i].1 a.1 b.1 = 0) {f : Nat} (hf : oprD.atKey (.int .i64 l[i].1) (.lit (.int .i64 (-1))) = fD f) (ef : Ent0 f) (CO : ∀ W, Calls Tryz.prog f #[vA' a, vA' b] W fun e w' => e = .panicked (wrg er ea) ∧ Below W.heap.size W w') : Calls Tryz.prog 45 #[.pointer (some ⟨rb, 0, none⟩), .int .i64 (i : Int)] w (fun e w' => e = .panicked (wrg er ea) ∧ Below w.heap.size w w') := by
  obtain ⟨bq, off, cap, rfl, hbl, -⟩ := h.es.at hi
  have h1 := h.up ((Below.refl _ w).alloc (Nat.le_refl _) (.cells #[.int .i64 0, .int .i64 0, .string ⟨#[]⟩] 48))
  obtain ⟨bq', off', cap', e', -, hc⟩ := h1.es.at hi
  cases e'
  obtain ⟨d0, d1, d2, d3, d4, d5⟩ := hc i hi
  have c0 := h1.c0
  clear h1 hc
  have i1 : (0 : Int) ≤ (i : Int) := by omega
  have i2 : (i : Int) < (l.length : Int) := by omega
  obtain ⟨W2, hW2⟩ : ∃ W2, (w.alloc (.cells #[.int .i64 0, .int .i64 0, .string ⟨#[]⟩] 48)).alloc (.cells #[.int .i64 l[i].1, .int .i64 l[i].2.1, .int .i64 l[i].2.2.1, .int .i64 l[i].2.2.2.1, .int .i64 l[i].2.2.2.2.1, .string (S l[i].2.2.2.2.2)] 68) = W2 := ⟨_, rfl⟩
  have HW : Hid (_ = W2) := hW2
  have HP : Hid (∀ W, Below W2.heap.size W2 W → Pf w W l[i]) := fun W hW => pf_of w l[i] W (by rw [← hW2] at hW; exact hW)
  have HR : Hid (∀ W, Below W2.heap.size W2 W → Rk W rb (.slice (some ⟨bq, off, none⟩) l.length cap) vv l vs) := fun W hW => h.up (HP.out W hW).bel
  have HMB : Hid (∃ mb, w.cell? ⟨rb, 2, none⟩ = some (.map (some mb)) ∧ Em w mb ∧ mb < w.heap.size ∧ rb < w.heap.size) := by
    obtain ⟨mb, m1, m2⟩ := h.mp
    obtain ⟨n, es, ck, h1, h2⟩ := id m2
    exact ⟨mb, m1, m2, (Array.getElem?_eq_some_iff.1 h1).1, h.lt⟩
  clear hW2
  have HK : Hid (Pf w W2 l[i]) := HP.out W2 (Below.refl _ _)
  have q0 := HK.out.p0
  have q1 := HK.out.p1
  have hl := HK.out.lt
  generalize l[i] = p at *
  obtain ⟨op, pa, pb, v0', v1', v2'⟩ := p
  simp only at *
  have e1 : ¬ op = 1 := by omega
  have e2 : ¬ op = 2 := by omega
  have g1 : (op == 1) = false := beq_eq_false_iff_ne.2 e1
  have g2 : (op == 2) = false := beq_eq_false_iff_ne.2 e2
  have HF : Hid (oprD.atKey (.int .i64 op) (.lit (.int .i64 (-1))) = fD f) := hf
  have CA' := CA W2 (HR.out W2 (Below.refl _ _))
  clear CA h
  have CD := fun W => decides_any op a W
  obtain ⟨y0, y1, y2⟩ := a
  unfold vA' at CA' CD
  simp only [hdc] at CA' CD
  clear hdc
  subst hB
  have hjb : (0 : Int) ≤ (jb : Int) := by omega
  obtain ⟨x0, x1, x2⟩ := b
  unfold vA' at CB
  skip
  unfold vA' at CO
  simp only at CB hk CO
  skip
  skip
  skip
  have HO : Hid (3 ≤ op ∧ op ≤ 18) := hop
  obtain ⟨kk, hkk⟩ : ∃ kk, kof op y0 x0 = kk := ⟨_, rfl⟩
  rw [hkk] at hk
  have HK0 : Hid (kof op y0 x0 = kk) := hkk
  have hk2 : (kk == 0) = false := beq_eq_false_iff_ne.2 hk
  unfold Ent0 at ef
  clear hop hf hkk
  go_enter Tryz.func45, Tryz.ntmps45
  go_upto_region 2 with fail
  rw [HW.out]
  go_upto_region 8 with (go_at_call 45; refine CA'.mono ?_; rintro e w3 ⟨rfl, hb3⟩; (have H3 : Hid (Below W2.heap.size W2 w3) := hb3); (have k3 := HP.out w3 hb3); (have q0 := k3.p0); simp only at q0; (have hl := k3.lt); clear k3 hb3 CA')
  obtain ⟨W4, hW4⟩ : ∃ W4, w3.alloc (.cells #[.int .i64 y0, .int .i64 y1, .string (S y2)] 48) = W4 := ⟨_, rfl⟩
  rw [hW4]
  have H4 : Hid (Below W2.heap.size W2 W4) := by rw [← hW4]; exact H3.out.alloc H3.out.size _
  have HA4 : Hid (Vb W4 w3.heap.size (y0, y1, y2)) := by rw [← hW4]; exact Vb.new w3 (y0, y1, y2)
  clear hW4 q0 q1 hl
  have q0 := (HP.out W4 H4.out).p0
  have hl := (HP.out W4 H4.out).lt
  obtain ⟨b0, b1, b2, hlb⟩ := HA4.out
  simp only at q0 b0 b1 b2
  go_upto_region 13 with (first
    | (go_at_call 89; refine (CD _).mono ?_; rintro e w5 ⟨rfl, hb5⟩; (have H5 : Hid (Below W2.heap.size W2 w5) := H4.out.trans (hb5.mono H4.out.size)); (have HA5 : Hid (Vb w5 w3.heap.size (y0, y1, y2)) := HA4.out.up hb5); (have k5 := HP.out w5 H5.out); (have r0 := k5.r0); (have r1 := k5.r1); (have r2 := k5.r2); (have f0 := k5.f 0); (have f1 := k5.f 1); (have f2 := k5.f 2); (have q0 := k5.p0); (have q2 := k5.p2); simp only at q0 q2; (have hl := k5.lt); obtain ⟨a0, a1, a2, hla⟩ := HA5.out; simp only at a0 a1 a2; (have HX : Hid (Pf w w5 _) := k5); clear k5 hb5 CD b0 b1 b2 hlb)
    | (go_at_call 45; refine (CB _ (HR.out _ (H5.out.alloc H5.out.size _))).mono ?_; rintro e w7 ⟨rfl, hb7⟩; (have H7 : Hid (Below W2.heap.size W2 w7) := bel_of (H5.out.alloc H5.out.size _) hb7 (Nat.le_refl _)); (have HA7 : Hid (Vb w7 w3.heap.size (y0, y1, y2)) := HA5.out.up ((Below.refl _ w5).alloc (Nat.le_refl _) _ |>.trans (hb7.mono (by simp)))); (have hz7 : w7.heap[w5.heap.size]? = some (.cells #[.int .i64 0, .int .i64 0, .string ⟨#[]⟩] 48 (0, 0)) := (hb7.block w5.heap.size (by simp)).trans (heap_alloc_new w5 _)); (have z0 : w7.cell? ⟨w5.heap.size, 0, none⟩ = some (.int .i64 0) := by simp [World.cell?, hz7]); (have z1 : w7.cell? ⟨w5.heap.size, 1, none⟩ = some (.int .i64 0) := by simp [World.cell?, hz7]); (have z2 : w7.cell? ⟨w5.heap.size, 2, none⟩ = some (.string ⟨#[]⟩) := by simp [World.cell?, hz7]); (have s0 : w7.frozen? ⟨w5.heap.size, 0, none⟩ = false := by simp [World.frozen?, hz7]); (have s1 : w7.frozen? ⟨w5.heap.size, 1, none⟩ = false := by simp [World.frozen?, hz7]); (have s2 : w7.frozen? ⟨w5.heap.size, 2, none⟩ = false := by simp [World.frozen?, hz7]); (have hl7 : w5.heap.size < w7.heap.size := by have := hb7.size; simp at this; omega); clear hb7 hz7 CB))
  obtain ⟨W8, hW8⟩ : ∃ W8, ((w7.setCell ⟨w5.heap.size, 0, none⟩ (.int .i64 x0)).setCell ⟨w5.heap.size, 1, none⟩ (.int .i64 x1)).setCell ⟨w5.heap.size, 2, none⟩ (.string (S x2)) = W8 := ⟨_, rfl⟩
  rw [hW8]
  have c8 : Ch (fun k => k = w5.heap.size) w7 W8 := by rw [← hW8]; exact (((Ch.refl (fun k => k = w5.heap.size) w7).setCell ⟨w5.heap.size, 0, none⟩ _ (fun _ => rfl)).setCell ⟨w5.heap.size, 1, none⟩ _ (fun _ => rfl)).setCell ⟨w5.heap.size, 2, none⟩ _ (fun _ => rfl)
  have hl5 : w3.heap.size < w5.heap.size := hla
  have hs5 : W2.heap.size ≤ w5.heap.size := H5.out.size
  have hb8 : Below w5.heap.size w7 W8 := below_of_ch c8 (by omega) (fun k hk e => by omega)
  have H8 : Hid (Below W2.heap.size W2 W8) := H7.out.trans (hb8.mono hs5)
  have HA8 : Hid (Vb W8 w3.heap.size (y0, y1, y2)) := by
    obtain ⟨v0, v1, v2, vl⟩ := HA7.out
    exact ⟨(hb8.cell (p := ⟨w3.heap.size, 0, none⟩) hl5).trans v0, (hb8.cell (p := ⟨w3.heap.size, 1, none⟩) hl5).trans v1, (hb8.cell (p := ⟨w3.heap.size, 2, none⟩) hl5).trans v2, Nat.lt_of_lt_of_le vl hb8.size⟩
  have HB8 : Hid (Vb W8 w5.heap.size (x0, x1, x2)) := by
    subst hW8
    refine ⟨?_, ?_, ?_, by simpa using hl7⟩
    · go_simp
    · go_simp
    · go_simp
  clear hW8 c8 hb8 z0 z1 z2 s0 s1 s2 hl7 hl5 hs5 a0 a1 a2 hla r0 r1 r2 f0 f1 f2 q0 q2 hl
  have CK := fun W => kind_any op y0 x0 HO.out W
  rw [HK0.out] at CK
  obtain ⟨mb, m1, m2, m3, m4⟩ := HMB.out
  have hw8 := (HP.out W8 H8.out).bel
  have m5 := (hw8.cell (p := ⟨rb, 2, none⟩) m4).trans m1
  have m6 := m2.below hw8
  have n3 : w.heap.size < w3.heap.size := by have h1 := H3.out.size; have h2 := (HP.out W2 (Below.refl _ _)).lt; omega
  have n5 : w.heap.size < w5.heap.size := by have h1 := H5.out.size; have h2 := (HP.out W2 (Below.refl _ _)).lt; omega
  have HT : Hid (∀ W, Ch (fun k => k = w.heap.size) W8 W → (W.cell? ⟨rb, 2, none⟩ = some (.map (some mb)) ∧ W.cell? ⟨w.heap.size + 1, 0, none⟩ = some (.int .i64 op) ∧ W.cell? ⟨w3.heap.size, 0, none⟩ = some (.int .i64 y0) ∧ W.cell? ⟨w3.heap.size, 1, none⟩ = some (.int .i64 y1) ∧ W.cell? ⟨w3.heap.size, 2, none⟩ = some (.string (S y2)) ∧ W.cell? ⟨w5.heap.size, 0, none⟩ = some (.int .i64 x0) ∧ W.cell? ⟨w5.heap.size, 1, none⟩ = some (.int .i64 x1) ∧ W.cell? ⟨w5.heap.size, 2, none⟩ = some (.string (S x2)) ∧ (Instr.lookup 86 (.map (some mb)) (.int .i64 op) false).run Tryz.prog W = .ok (.func (.func f) #[] #[]) W)) := fun W hW => by
    obtain ⟨u0, u1, u2, -⟩ := HA8.out
    obtain ⟨t0, t1, t2, -⟩ := HB8.out
    exact ⟨hW.cell m5 (by simp only; omega), hW.cell (HP.out W8 H8.out).p0 (by simp only; omega), hW.cell u0 (by simp only; omega), hW.cell u1 (by simp only; omega), hW.cell u2 (by simp only; omega), hW.cell t0 (by simp only; omega), hW.cell t1 (by simp only; omega), hW.cell t2 (by simp only; omega), (m6.ch hW (show ¬ mb = w.heap.size by omega)).look (by have := HO.out; omega) f HF.out⟩
  obtain ⟨j0, j1, j2, j3, j4, j5, j6, j7, j8⟩ := HT.out W8 (Ch.refl _ _)
  clear m1 m2 m3 m4 m5 m6 n3 n5 hw8
  go_upto_region 15 with (go_at_call 66; refine (CK _).mono ?_; rintro e w9 ⟨rfl, hw9⟩; rw [hw9]; clear hw9)
  refine wp_region_held_drew (S := (fun W => W.cell? ⟨rb, 2, none⟩ = some (.map (some mb)) ∧ W.cell? ⟨w.heap.size + 1, 0, none⟩ = some (.int .i64 op) ∧ W.cell? ⟨w3.heap.size, 0, none⟩ = some (.int .i64 y0) ∧ W.cell? ⟨w3.heap.size, 1, none⟩ = some (.int .i64 y1) ∧ W.cell? ⟨w3.heap.size, 2, none⟩ = some (.string (S y2)) ∧ W.cell? ⟨w5.heap.size, 0, none⟩ = some (.int .i64 x0) ∧ W.cell? ⟨w5.heap.size, 1, none⟩ = some (.int .i64 x1) ∧ W.cell? ⟨w5.heap.size, 2, none⟩ = some (.string (S x2)) ∧ (Instr.lookup 86 (.map (some mb)) (.int .i64 op) false).run Tryz.prog W = .ok (.func (.func f) #[] #[]) W)) (by kernel_rfl) (by first | exact HT.out _ (Ch.refl _ _) | exact HT.out _ (Ch.refl _ _).drew | go_keep) (fun hHeld => ?_)
  refine wpAnyH_take (i := 0) (v := ?_) rfl (by kernel_rfl) (by kernel_rfl) (by kernel_rfl) (fun _ _ _ h => h) (Or.inl ⟨by rfl, ?_⟩) (by assumption) ?_
  rotate_left 1
  · intro w hSw; (try dsimp only at hSw); go_simp; try with_reducible rfl
  refine wpAnyH_take (i := 1) (v := ?_) rfl (by kernel_rfl) (by kernel_rfl) (by kernel_rfl) (fun _ _ _ h => h) (Or.inl ⟨by rfl, ?_⟩) (by assumption) ?_
  rotate_left 1
  · intro w hSw; (try dsimp only at hSw); go_simp; try with_reducible rfl
  refine wpAnyH_take (i := 2) (v := ?_) rfl (by kernel_rfl) (by kernel_rfl) (by kernel_rfl) (fun _ _ _ h => h) (Or.inl ⟨by rfl, ?_⟩) (by assumption) ?_
  rotate_left 1
  · intro w hSw; (try dsimp only at hSw); go_simp; try with_reducible rfl
  refine wpAnyH_take (i := 3) (v := ?_) rfl (by kernel_rfl) (by kernel_rfl) (by kernel_rfl) (fun _ _ _ h => h) (Or.inl ⟨by rfl, ?_⟩) (by assumption) ?_
  rotate_left 1
  · intro w hSw; (try dsimp only at hSw); go_simp; try with_reducible rfl
  refine wpAnyH_take (i := 4) (v := ?_) rfl (by kernel_rfl) (by kernel_rfl) (by kernel_rfl) (fun _ _ _ h => h) (Or.inl ⟨by rfl, ?_⟩) (by assumption) ?_
  rotate_left 1
  · intro w hSw; (try dsimp only at hSw); go_simp; try with_reducible rfl
  refine wpAnyH_take (i := 5) (v := ?_) rfl (by kernel_rfl) (by kernel_rfl) (by kernel_rfl) (fun _ _ _ h => h) (Or.inl ⟨by rfl, ?_⟩) (by assumption) ?_
  rotate_left 1
  · intro w hSw; (try dsimp only at hSw); go_simp; try with_reducible rfl
  refine wpAnyH_take (i := 6) (v := ?_) rfl (by kernel_rfl) (by kernel_rfl) (by kernel_rfl) (fun _ _ _ h => h) (Or.inl ⟨by rfl, ?_⟩) (by assumption) ?_
  rotate_left 1
  · intro w hSw; (try dsimp only at hSw); go_simp; try with_reducible rfl
  refine wpAnyH_take (i := 7) (v := ?_) rfl (by kernel_rfl) (by kernel_rfl) (by kernel_rfl) (fun _ _ _ h => h) (Or.inl ⟨by rfl, ?_⟩) (by assumption) ?_
  rotate_left 1
  · intro w hSw; (try dsimp only at hSw); go_simp; try with_reducible rfl
  refine wpAnyH_take (i := 8) (v := ?_) rfl (by kernel_rfl) (by kernel_rfl) (by kernel_rfl) (fun _ _ _ h => h) (Or.inl ⟨by rfl, ?_⟩) (by assumption) ?_
  rotate_left 1
  · intro w hSw; (try dsimp only at hSw); go_simp; try with_reducible rfl
  refine wpAnyH_ready (rs := [9]) (by kernel_rfl) (by simp) ?_
  refine AllReadyH.cons rfl (fun K _ => ?_) AllReadyH.nil
  go_simp
  refine (CO _).mono ?_
  rintro e w9 ⟨rfl, hb9⟩
  exact ⟨rfl, rfl, (HP.out w9 (bel_of H8.out ((Below.refl _ W8).drew.trans (hb9.mono (Nat.le_refl _))) (Nat.le_refl _))).bel⟩

end Go.Proofs.YtpbfdaijnndilaaGreatDoor.x10
namespace Go.Proofs.YtpbfdaijnndilaaGreatDoor.x10
open Go.RowKit Go.Shelf Go.Sort
open Go.Lib hiding intOf

theorem part_all {rb : Nat} {xv vv : Value} {l : List P10} {vs : List Vr} (hw : ∀ (i : Nat) (hi : i < l.length), Wg i l[i]) (hv : ∀ x ∈ vs, Sml x.2) (hn : vs.length ≤ 16) : ∀ (n i : Nat), i < n → (hi : i < l.length) → ∀ (w : World), Rk w rb xv vv l vs → Calls Tryz.prog 45 #[.pointer (some ⟨rb, 0, none⟩), .int .i64 (i : Int)] w (Vp w (rk l vs n i))
  | 0, _, h, _, _, _ => absurd h (Nat.not_lt_zero _)
  | n + 1, i, hin, hi, w, hr => by
    have hg := hw i hi
    rw [rk_succ hi]
    split
    · rename_i h1
      exact part_val hr hi h1
    · split
      · rename_i h1 h2
        exact part_var hr hi hn h2
      · rename_i h1 h2
        have h0 := hg.h
        have ho := hnd_op h0
        have hop : 3 ≤ l[i].1 ∧ l[i].1 ≤ 18 := by omega
        have hn0 : ¬ hnd l[i].1 = 0 := by
          intro h4
          unfold hnd at h4
          rw [if_neg (by omega)] at h4
          split at h4 <;> first | omega | (split at h4 <;> omega)
        have h5 := (hnd_le l[i].1).2
        obtain ⟨ja, ha1, ha2⟩ : ∃ a : Nat, a < i ∧ l[i].2.1 = (a : Int) := by
          rcases (show hnd l[i].1 = 1 ∨ hnd l[i].1 = 2 by omega) with q | q
          · exact (hg.o q).1
          · exact (hg.t q).1
        have CA : ∀ W, Rk W rb xv vv l vs → Calls Tryz.prog 45 #[.pointer (some ⟨rb, 0, none⟩), .int .i64 l[i].2.1] W (Vp W (rk l vs n ja)) := fun W hW => by
          rw [ha2]; exact part_all hw hv hn n ja (by omega) (by omega) W hW
        have hja : rk l vs n l[i].2.1.toNat = rk l vs n ja := by rw [ha2]; rfl
        rw [hja]
        have hao := rk_out (vs := vs) hw n ja (by omega) (by omega)
        cases hra : rk l vs n ja with
        | out => exact absurd hra hao
        | no er ea =>
          rw [hra] at CA
          exact part_a_no hr hi hop CA
        | ok a =>
          rw [hra] at CA
          have sa := rk_small hw hv _ _ _ hra
          simp only [Ot.bind]
          cases hd : dcd l[i].1 a with
          | true =>
            rw [if_pos rfl]
            exact part_dcd hr hi hop CA hd
          | false =>
            rw [if_neg (by simp)]
            rcases (show hnd l[i].1 = 1 ∨ hnd l[i].1 = 2 by omega) with q | q
            · have hB := (hg.o q).2
              rw [if_neg (by rw [hB]; omega)]
              show Calls _ _ _ _ (Vp w (if kof l[i].1 a.1 0 = 0 then .no 9 0 else opV l[i].1 a v0))
              by_cases hk : kof l[i].1 a.1 0 = 0
              · rw [if_pos hk]
                exact part_k0_un hr hi hop CA hd hB hk
              · rw [if_neg hk]
                obtain ⟨f, hf, ef, CO⟩ := ops_all l[i].1 hop a v0 sa (Nat.zero_le _)
                cases ho : opV l[i].1 a v0 with
                | out => exact absurd ho (opV_out _ _ _)
                | no er ea =>
                  rw [ho] at CO
                  exact part_no_un hr hi hop CA hd hB hk hf ef CO
                | ok v =>
                  rw [ho] at CO
                  exact part_ok_un hr hi hop CA hd hB hk hf ef CO
            · obtain ⟨jb, hb1, hb2⟩ := (hg.t q).2
              have CB : ∀ W, Rk W rb xv vv l vs → Calls Tryz.prog 45 #[.pointer (some ⟨rb, 0, none⟩), .int .i64 l[i].2.2.1] W (Vp W (rk l vs n jb)) := fun W hW => by
                rw [hb2]; exact part_all hw hv hn n jb (by omega) (by omega) W hW
              have hjb : rk l vs n l[i].2.2.1.toNat = rk l vs n jb := by rw [hb2]; rfl
              rw [if_pos (by rw [hb2]; omega), hjb]
              have hbo := rk_out (vs := vs) hw n jb (by omega) (by omega)
              cases hrb : rk l vs n jb with
              | out => exact absurd hrb hbo
              | no er ea =>
                rw [hrb] at CB
                exact part_b_no hr hi hop CA hd hb2 CB
              | ok b =>
                rw [hrb] at CB
                have sb := rk_small hw hv _ _ _ hrb
                show Calls _ _ _ _ (Vp w (if kof l[i].1 a.1 b.1 = 0 then .no 9 0 else opV l[i].1 a b))
                by_cases hk : kof l[i].1 a.1 b.1 = 0
                · rw [if_pos hk]
                  exact part_k0_bi hr hi hop CA hd hb2 CB hk
                · rw [if_neg hk]
                  obtain ⟨f, hf, ef, CO⟩ := ops_all l[i].1 hop a b sa sb
                  cases ho : opV l[i].1 a b with
                  | out => exact absurd ho (opV_out _ _ _)
                  | no er ea =>
                    rw [ho] at CO
                    exact part_no_bi hr hi hop CA hd hb2 CB hk hf ef CO
                  | ok v =>
                    rw [ho] at CO
                    exact part_ok_bi hr hi hop CA hd hb2 CB hk hf ef CO
end Go.Proofs.YtpbfdaijnndilaaGreatDoor.x10

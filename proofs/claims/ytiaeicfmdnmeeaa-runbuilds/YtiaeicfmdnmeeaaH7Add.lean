/-
  Package run's writer: a row more (add).
-/
import Derived.Test.YtiaeicfmdnmeeaaH7Wr
import Derived.Test.YtiaeicfmdnmeeaaRLess
namespace Go.Proofs.Ytiaeicfmdnmeeaa
open Go.RowKit Go.Shelf Go.Sort
open Go.Lib hiding intOf

/-- at a step of a region that draws its order: an append whose run is known -/
theorem step_append_run {w : World} {ops : Array Oper} {o : Oper} {a : Act} {K : Act → World → Prop} {Q : Exit → Act → World → Prop} {E : Prop} (hgd : o.guard = none) (s x : Operand) (t u : TypeId)
    (ho : o.op = .call { callee := .builtin .append, args := #[s, x], argTypes := #[t, u] }) (v y v' : Value) (w' : World) (hs : a.eval s = v) (hx : a.eval x = y)
    (hr : (Builtin.append_ #[t, u] o.type #[v, y]).run Try.prog w = .ok v' w') (h : K (a.put o.dst v') w') :
    if Region.wanted o (yielded ops a.tmps) = true then Oper.wp Try.prog o a w K Q else E := by
  have hw : Region.wanted o (yielded ops a.tmps) = true := by simp [Region.wanted, hgd]
  rw [if_pos hw]
  unfold Oper.wp execOp
  simp only [ho, resolve, invoke, builtin, Sem.run_bind, Sem.run_pure, Result.andThen_ok, List.map_toArray, List.map_cons, List.map_nil, hs, hx, hr]
  exact h
theorem key1_snoc (cur : List R7) (x : R7) : key1 (cur ++ [x]) = if cur = [] then x.1 else key1 cur := by
  cases cur with
  | nil => rfl
  | cons c t => simp [key1]
/-- the writer behind a row more -/
def addS (blk : Nat) (bs : List (List R7)) (cur : List R7) (x : R7) : List (List R7) × List R7 := if blk ≤ (ld cur).length then (cls bs cur, [x]) else (bs, cur ++ [x])

theorem add_fin {W w1 : World} {B wb blk : Nat} {dv sv : Value} {la : Option Addr} {n lc : Nat} {D L fk : List UInt8} {sp : List (Nat × List UInt8)} (h : Wt W B wb blk dv sv (.slice la n lc) D sp L fk) (hb : Below W.heap.size W w1) (hB : B ≤ W.heap.size) (r : List UInt8) {m : Nat} (hm : (L ++ r).length = m) (hmb : m ≤ 140737488355328) :
    w1.cell? ⟨wb, 3, none⟩ = some (.slice la n lc) ∧ ∃ a' c' w3, (Builtin.append_ #[51, 9] 51 #[.slice la n lc, .string (S r)]).run Try.prog w1 = .ok (.slice a' m c') w3 ∧ w3.cell? ⟨wb, 3, none⟩ = some (.slice la n lc) ∧ w3.frozen? ⟨wb, 3, none⟩ = false ∧
      Wt (w3.setCell ⟨wb, 3, none⟩ (.slice a' m c')) B wb blk dv sv (.slice a' m c') D sp (L ++ r) fk ∧ Ch (wf wb dv sv (.slice la n lc)) W (w3.setCell ⟨wb, 3, none⟩ (.slice a' m c')) ∧ (∀ x, (Value.slice a' m c').ownBlock = some x → (Value.slice la n lc).ownBlock = some x ∨ W.heap.size ≤ x) := by
  have h1 := h.below hb
  obtain ⟨a', c', w3, r1, r2, r3, r4⟩ := row_append_bytes h1.rl r hm hmb (Nat.le_trans hB hb.size)
  have hc3 : Ch (fun x => (Value.slice la n lc).ownBlock = some x) w1 w3 := Ch.of_grown r3 (fun k e _ => e)
  have g2 := hc3.obj h1.hd (fun e => h1.l_wb e rfl)
  obtain ⟨k1, k2⟩ := h1.setL hc3 r2 r4
  exact ⟨h1.c3, a', c', w3, r1, by simp [World.cell?, g2], by simp [World.frozen?, g2], k1, (Ch.of_below hb).join k2 (fun _ _ h => h), fun x hx => (r4 x hx).imp id (fun e => Nat.le_trans hb.size e)⟩

set_option maxHeartbeats 4000000 in
set_option maxRecDepth 100000 in
theorem add_any {X : Nat → Prop} {w : World} {B wb blk : Nat} {bs : List (List R7)} {cur : List R7} (x : R7) (h : Ws X w B wb blk bs cur) (hm : may x = 0) (hblk : 0 < blk) (hD : (fbs bs).length ≤ 1200000) (hL : (ld cur).length ≤ 49000) (hB : B ≤ w.heap.size) (hXl : ∀ y, X y → y < w.heap.size) :
    Calls Try.prog 32 #[.pointer (some ⟨wb, 0, none⟩), .string (S x.1), cv x.2] w fun e w' => (∃ v, e = .returned v) ∧ Wl X w w' B wb blk (addS blk bs cur x).1 (addS blk bs cur x).2 := by
  obtain ⟨hm1, hm2⟩ := may_len hm
  have hrb := rb_most hm
  have HP : ∀ w, _ := fun w => putCell_any x hm1 hm2 w
  obtain ⟨k, s, g⟩ := x
  simp only [encc, cv] at HP ⊢
  obtain ⟨W0, hW0⟩ : ∃ W0, W0 = w.alloc (.cells #[.string (S s), .bool g] 37) := ⟨_, rfl⟩
  have hs0 : W0.heap.size = w.heap.size + 1 := by rw [hW0]; simp
  have hB0 : Below w.heap.size w W0 := by rw [hW0]; exact (Below.refl _ w).alloc (Nat.le_refl _) _
  have x0 : W0.heap[w.heap.size]? = some (.cells #[.string (S s), .bool g] 37 (0, 0)) := by rw [hW0]; exact heap_alloc_new w _
  have h0 : Ws X W0 B wb blk bs cur := h.ch (Ch.of_below (X := fun _ => False) hB0) (fun _ _ _ => id)
  have hlt := h.choose_spec.choose_spec.choose_spec.choose_spec.1.lt
  have main : ∀ (bs2 : List (List R7)) (cur2 : List R7) (V : World) (dv sv : Value) (la : Option Addr) (n lc : Nat), Wt V B wb blk dv sv (.slice la n lc) (fbs bs2) (bs2.map spn) (ld cur2) (key1 (cur2 ++ [(k, s, g)])) → (∀ x, wf wb dv sv (.slice la n lc) x → X x ∨ w.heap.size ≤ x) → Ch X w V →
      ∀ (w3 : World) (a' : Option Addr) (m c' : Nat), Wt (w3.setCell ⟨wb, 3, none⟩ (.slice a' m c')) B wb blk dv sv (.slice a' m c') (fbs bs2) (bs2.map spn) (ld cur2 ++ rb (k, s, g)) (key1 (cur2 ++ [(k, s, g)])) → Ch (wf wb dv sv (.slice la n lc)) V (w3.setCell ⟨wb, 3, none⟩ (.slice a' m c')) → (∀ x, (Value.slice a' m c').ownBlock = some x → (Value.slice la n lc).ownBlock = some x ∨ V.heap.size ≤ x) →
      Wl X w (w3.setCell ⟨wb, 3, none⟩ (.slice a' m c')) B wb blk bs2 (cur2 ++ [(k, s, g)]) := by
    intro bs2 cur2 V dv sv la n lc hT hX hV w3 a' m c' h3 h4 h5
    refine ⟨⟨dv, sv, _, _, by rw [ld_snoc]; exact h3, fun _ => rfl, ?_⟩, hV.join h4 (fun x hx hf => (hX x hf).elim id (fun e => by omega))⟩
    rintro x (hx | hx | hx | hx)
    · exact hX x (.inl hx)
    · exact hX x (.inr (.inl hx))
    · exact hX x (.inr (.inr (.inl hx)))
    · rcases h5 x hx with e | e
      · exact hX x (.inr (.inr (.inr e)))
      · exact .inr (Nat.le_trans hV.size e)
  have MAIN : Hid _ := main
  clear main
  have hwne : wb ≠ w.heap.size := by omega
  by_cases hful : blk ≤ (ld cur).length
  · have hE : addS blk bs cur (k, s, g) = (cls bs cur, [] ++ [(k, s, g)]) := by simp only [addS]; rw [if_pos hful]; rfl
    rw [hE]
    have hful' : (blk : Int) ≤ ((ld cur).length : Int) := by omega
    have HC := close_any (w := W0.drew) (h0.ch (Ch.refl (fun _ => False) W0).drew (fun _ _ _ => id)) hD (by omega) (show B ≤ W0.heap.size by omega)
    obtain ⟨dv, sv, lv, fk, h1, -, -⟩ := h0
    obtain ⟨la0, lc0, rfl, -⟩ := row_slice h1.rl
    have c0 := h1.c0
    have c3 := h1.c3
    clear h1 h hE
    go_enter Try.func32, Try.ntmps32
    go_wp2_with fail
    rw [← hW0]
    clear hW0
    go_region
    go_wp2_with (go_at_call 52; refine HC.mono ?_; rintro e w2 ⟨⟨v, rfl⟩, ⟨dv2, sv2, lv2, fk2, h2, -, hX2⟩, hc2⟩; obtain ⟨la, lc, rfl, -⟩ := row_slice h2.rl; have m3 := h2.c3; have m4 := h2.c4; have m5 := h2.fro 4; obtain ⟨h3, hc3⟩ := h2.setF k; have x2 := hc2.obj x0 (fun e => by have := hXl _ e; omega); (have x3 := hc3.obj x2 (fun e => e.elim (fun e => hwne e.symm) (fun e => e.elim (fun e => row_hd h2.rd x2 (by decide) e rfl) (fun e => e.elim (fun e => row_hd h2.rs x2 (by decide) e rfl) (fun e => row_hd h2.rl x2 (by decide) e rfl))))); have HT : Hid _ := h3; have HCV : Hid _ := hc3; have HCW : Hid _ := hc2; have HX2 : Hid _ := hX2; have X3 : Hid _ := x3; clear h2 h3 hc3 hc2 hX2 x2 x3)
    obtain ⟨V, hV⟩ : ∃ V, V = w2.setCell ⟨wb, 4, none⟩ (.string (S k)) := ⟨_, rfl⟩
    rw [← hV] at HT HCV X3 ⊢
    clear hV m3 m4 m5
    have hVs : w.heap.size + 1 ≤ V.heap.size := by have := HCW.out.size; have := HCV.out.size; have e : W0.drew.heap.size = W0.heap.size := rfl; omega
    have hBV : B ≤ V.heap.size := by omega
    have c3' := HT.out.c3
    have HFIN : Hid _ := MAIN.out (cls bs cur) [] V dv2 sv2 la _ lc HT.out (fun x hx => (HX2.out x hx).imp id (fun e => by have e1 : W0.drew.heap.size = W0.heap.size := rfl; omega)) (((Ch.of_below hB0).drew.join HCW.out (fun x hx h => h)).join HCV.out (fun x hx hf => (HX2.out x hf).elim id (fun e => by have e1 : W0.drew.heap.size = W0.heap.size := rfl; omega)))
    obtain ⟨m, HM⟩ : ∃ m, Hid ((ld [] ++ rb (k, s, g)).length = m) := ⟨_, show _ = _ from rfl⟩
    have hmb : m ≤ 70000 := by rw [← HM.out, List.length_append]; simp [ld]; omega
    have b0 : V.cell? ⟨w.heap.size, 0, none⟩ = some (.string (S s)) := by simp [World.cell?, X3.out]
    have b1 : V.cell? ⟨w.heap.size, 1, none⟩ = some (.bool g) := by simp [World.cell?, X3.out]
    go_region_law (first
      | (go_simp; go_at_call 53; refine (HP _).mono ?_; rintro e w1 ⟨rfl, hb1⟩; dsimp only; (have HB1 : Hid (Below V.heap.size V w1) := (below_drewN (Below.refl _ V) 1).trans hb1); obtain ⟨k3, a3, d3, w3, hrun, k4, k5, k6, k7, k8⟩ := add_fin HT.out HB1.out hBV (rb (k, s, g)) HM.out (by omega); have HE : Hid _ := HFIN.out w3 a3 m d3 k6 k7 k8; clear hb1 k6 k7 k8)
      | (refine step_append_run (by rfl) _ _ _ _ (by rfl) _ _ _ _ (by rfl) (by rfl) hrun ?_))
    all_goals
      go_wp2
      go_end0
      exact ⟨⟨_, rfl⟩, HE.out⟩
  · have hE : addS blk bs cur (k, s, g) = (bs, cur ++ [(k, s, g)]) := by simp only [addS]; rw [if_neg hful]
    rw [hE]
    have hful' : ¬ (blk : Int) ≤ ((ld cur).length : Int) := by omega
    obtain ⟨dv, sv, lv, fk, h1, hk, hX⟩ := h0
    obtain ⟨la, lc, rfl, -⟩ := row_slice h1.rl
    have c0 := h1.c0
    have c3 := h1.c3
    have c4 := h1.c4
    have f4 := h1.fro 4
    by_cases hcur : cur = []
    · subst hcur
      obtain ⟨h3, hc3⟩ := h1.setF k
      have x3 := hc3.obj x0 (fun e => e.elim (fun e => hwne e.symm) (fun e => e.elim (fun e => row_hd h1.rd x0 (by decide) e rfl) (fun e => e.elim (fun e => row_hd h1.rs x0 (by decide) e rfl) (fun e => row_hd h1.rl x0 (by decide) e rfl))))
      have HT : Hid (Wt (W0.setCell ⟨wb, 4, none⟩ (.string (S k))) B wb blk dv sv (.slice la (ld []).length lc) (fbs bs) (bs.map spn) (ld []) (key1 ([] ++ [(k, s, g)]))) := h3
      have HCV : Hid _ := hc3
      have X3 : Hid _ := x3
      clear h3 hc3 x3 h1 hk hE h
      have hz : (ld []).length = 0 := rfl
      rw [hz] at c3 hful' HT HCV hX
      go_enter Try.func32, Try.ntmps32
      go_wp2_with fail
      rw [← hW0]
      clear hW0
      go_region
      go_wp2_with fail
      obtain ⟨V, hV⟩ : ∃ V, V = W0.setCell ⟨wb, 4, none⟩ (.string (S k)) := ⟨_, rfl⟩
      rw [← hV] at HT HCV X3 ⊢
      clear hV c4 f4
      have hVs : w.heap.size + 1 ≤ V.heap.size := by have := HCV.out.size; omega
      have hBV : B ≤ V.heap.size := by omega
      have c3' := HT.out.c3
      have HFIN : Hid _ := MAIN.out bs [] V dv sv la _ lc HT.out (fun x hx => .inl (hX x hx)) ((Ch.of_below hB0).join HCV.out (fun x hx hf => hX x hf))
      obtain ⟨m, HM⟩ : ∃ m, Hid ((ld [] ++ rb (k, s, g)).length = m) := ⟨_, show _ = _ from rfl⟩
      have hmb : m ≤ 70000 := by rw [← HM.out, List.length_append]; simp [ld]; omega
      have b0 : V.cell? ⟨w.heap.size, 0, none⟩ = some (.string (S s)) := by simp [World.cell?, X3.out]
      have b1 : V.cell? ⟨w.heap.size, 1, none⟩ = some (.bool g) := by simp [World.cell?, X3.out]
      go_region_law (first
        | (go_simp; go_at_call 53; refine (HP _).mono ?_; rintro e w1 ⟨rfl, hb1⟩; dsimp only; (have HB1 : Hid (Below V.heap.size V w1) := (below_drewN (Below.refl _ V) 2).trans hb1); obtain ⟨k3, a3, d3, w3, hrun, k4, k5, k6, k7, k8⟩ := add_fin HT.out HB1.out hBV (rb (k, s, g)) HM.out (by omega); have HE : Hid _ := HFIN.out w3 a3 m d3 k6 k7 k8; clear hb1 k6 k7 k8)
        | (refine step_append_run (by rfl) _ _ _ _ (by rfl) _ _ _ _ (by rfl) (by rfl) hrun ?_))
      all_goals
        go_wp2
        go_end0
        exact ⟨⟨_, rfl⟩, HE.out⟩
    · have hp := ld_pos hcur
      have hne : (((ld cur).length : Int) == 0) = false := beq_eq_false_iff_ne.2 (by omega)
      have hkk : key1 (cur ++ [(k, s, g)]) = fk := by rw [key1_snoc, if_neg hcur]; exact (hk hcur).symm
      rw [← hkk] at h1
      have HT : Hid _ := h1
      have HFIN : Hid _ := MAIN.out bs cur W0 dv sv la _ lc h1 (fun x hx => .inl (hX x hx)) (Ch.of_below hB0)
      obtain ⟨m, HM⟩ : ∃ m, Hid ((ld cur ++ rb (k, s, g)).length = m) := ⟨_, show _ = _ from rfl⟩
      have hmb : m ≤ 70000 := by rw [← HM.out, List.length_append]; omega
      have b0 : W0.cell? ⟨w.heap.size, 0, none⟩ = some (.string (S s)) := by simp [World.cell?, x0]
      have b1 : W0.cell? ⟨w.heap.size, 1, none⟩ = some (.bool g) := by simp [World.cell?, x0]
      clear h1 hkk hcur hk hX c4 f4 hE h
      go_enter Try.func32, Try.ntmps32
      go_wp2_with fail
      rw [← hW0]
      clear hW0
      go_region
      go_wp2_with fail
      go_region_law (first
        | (go_simp; go_at_call 53; refine (HP _).mono ?_; rintro e w1 ⟨rfl, hb1⟩; dsimp only; (have HB1 : Hid (Below W0.heap.size W0 w1) := (below_drewN (Below.refl _ W0) 2).trans hb1); obtain ⟨k3, a3, d3, w3, hrun, k4, k5, k6, k7, k8⟩ := add_fin HT.out HB1.out (by omega) (rb (k, s, g)) HM.out (by omega); have HE : Hid _ := HFIN.out w3 a3 m d3 k6 k7 k8; clear hb1 k6 k7 k8)
        | (refine step_append_run (by rfl) _ _ _ _ (by rfl) _ _ _ _ (by rfl) (by rfl) hrun ?_))
      all_goals
        go_wp2
        go_end0
        exact ⟨⟨_, rfl⟩, HE.out⟩
end Go.Proofs.Ytiaeicfmdnmeeaa

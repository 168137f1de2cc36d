/-
  A range over a log whose records are gathered in a slice of strings: what stands in its rounds.
-/
import Derived.Test.YteifkkceldlfnaaGreatDoorG6FromA
import Derived.Test.YteifkkceldlfnaaGreatDoorYSeq
namespace Go.Proofs.YteifkkceldlfnaaGreatDoor
open Go.RowKit Go.Shelf Go.Sort
open Go.Lib hiding intOf

/-- 'for _, v := range f { .. }', v a plain variable -/
theorem range_sqR1 {α : Type} {e1 e2 : α → Value} {g : Operand} {p1 p2 : Tmp} {assign body : Code} {Q : Exit → Act → World → Prop} {a : Act} {w : World} {n : Nat} {f : Value} {l : List α} {X : Nat → Prop} (r : Nat)
    (hg : a.eval g = f) (hS : SqR (fun x => #[e1 x, e2 x]) w f l X)
    (I : (Nat → Prop) → List α → World → Prop)
    (hI : ∀ (R R' : Nat → Prop) pre W W', I R pre W → Sr w.heap.size R W W' → (∀ k, R' k → R k ∨ (W.heap.size ≤ k ∧ k < W'.heap.size)) → I R' pre W')
    (hstart : ∀ W0, Below w.heap.size w W0 → w.heap.size + 2 ≤ W0.heap.size → I (fun k => w.heap.size + 2 ≤ k ∧ k < W0.heap.size) [] W0)
    (hassign : ∀ (m l' : Nat) (x : α) (W : World) (K : Act → World → Prop), K { tmps := ((a.tmps.setIfInBounds p1 (e1 x)).setIfInBounds p2 (e2 x)).setIfInBounds r (e2 x), defers := [] } W →
      assign.wpIn (Fence.wide.inRound l') m Tryz.prog (Exit.then K (fun _ _ _ => False)) { tmps := (a.tmps.setIfInBounds p1 (e1 x)).setIfInBounds p2 (e2 x), defers := [] } W)
    (hbody : ∀ (m l' : Nat) (R : Nat → Prop) (pre : List α) (x : α) (W : World), I R pre W → pre ++ [x] <+: l → body.wpIn (Fence.wide.inRound l') m Tryz.prog (ownPostX w.heap.size (Kq (fun k => X k ∨ R k)) (I R) (fun _ _ _ => False) (pre ++ [x]) W) { tmps := ((a.tmps.setIfInBounds p1 (e1 x)).setIfInBounds p2 (e2 x)).setIfInBounds r (e2 x), defers := [] } W)
    (hdone : ∀ (R : Nat → Prop) (W : World), I R l W → W.heap[w.heap.size]? = some (.deferred (some [])) → Q .normal { a with defers := { target := .collected w.heap.size, args := #[] } :: a.defers } W) :
    (Code.rangeFunc g #[p1, p2] assign body).wpIn Fence.wide n Tryz.prog Q a w :=
  range_sqR (fun x => ((a.tmps.setIfInBounds p1 (e1 x)).setIfInBounds p2 (e2 x)).setIfInBounds r (e2 x)) hg hS I (fun _ _ _ _ => False) hI (fun _ _ _ _ _ h _ => h) hstart hassign hbody hdone (fun _ _ _ _ h _ => h.elim)

theorem Ch.joinG {X Y : Nat → Prop} {a b c : World} (h : Ch X a b) (k : Ch Y b c) (hxy : ∀ x, x < a.heap.size → Y x → X x) : Ch X a c :=
  ⟨k.os.trans h.os, k.tape.trans h.tape, k.output.trans h.output, Nat.le_trans h.size k.size, fun i hi hX => (k.block i (Nat.lt_of_lt_of_le hi h.size) (fun hY => hX (hxy i hi hY))).trans (h.block i hi hX)⟩
/-- the box in block N has the strings; all else below the range's beginning is as it was -/
structure Gc (w7 : World) (N : Nat) (R : Nat → Prop) (pre : List (List UInt8)) (W : World) : Prop where
  ex : ∃ v, Bx W N v 35 ∧ W.ownsRow w7.heap.size 9 1 v pre.length (strCs pre) ∧ ∀ k, v.ownBlock = some k → ¬ R k
  rr : ∀ k, R k → w7.heap.size ≤ k ∧ k < W.heap.size
  ch : Ch (fun k => k = N ∨ w7.heap.size ≤ k) w7 W
section
variable {w7 W W' w1 : World} {N : Nat} {R R' : Nat → Prop} {pre : List (List UInt8)}
theorem Gc.sr (h : Gc w7 N R pre W) (hN : N < w7.heap.size) (hs : Sr w7.heap.size R W W') (hr : ∀ k, R' k → R k ∨ (W.heap.size ≤ k ∧ k < W'.heap.size)) : Gc w7 N R' pre W' := by
  obtain ⟨v, h1, h2, h3⟩ := h.ex
  have hz := h.ch.size
  have hz2 := hs.size
  refine ⟨⟨v, hs.bx h1 (.inl hN), hs.row h2 (fun k hk => .inr (h3 k hk)), fun k hk hR => ?_⟩, fun k hk => ?_, h.ch.joinG hs (fun k _ hk => .inr hk.1)⟩
  · rcases hr k hR with e | e
    · exact h3 k hk e
    · have := row_obj h2 hk
      have := (Array.getElem?_eq_some_iff.1 this.2.choose_spec).1
      omega
  · rcases hr k hk with e | e
    · have := h.rr k e; omega
    · omega
theorem Gc.start (hb : Bx w7 N (.slice none 0 0) 35) (hB : Below w7.heap.size w7 W) : Gc w7 N (fun k => w7.heap.size + 2 ≤ k ∧ k < W.heap.size) [] W :=
  ⟨⟨_, hb.below hB hb.lt, World.ownsRow_nil _ _ _ _, fun k hk => by cases hk⟩, fun k hk => ⟨by omega, hk.2⟩, Ch.of_below hB⟩
/-- one more -/
theorem Gc.step {v v1 : Value} {x : List UInt8} {o : Obj} (h1 : Bx W N v 35) (h2 : W.ownsRow w7.heap.size 9 1 v pre.length (strCs pre)) (h3 : ∀ k, v.ownBlock = some k → ¬ R k) (rr : ∀ k, R k → w7.heap.size ≤ k ∧ k < W.heap.size) (ch : Ch (fun k => k = N ∨ w7.heap.size ≤ k) w7 W) (hN : N < w7.heap.size)
    (hr : w1.ownsRow w7.heap.size 9 1 v1 (pre.length + 1) (strCs pre ++ [.string (S x)])) (hg : (W.alloc o).grownBy w1 v.ownBlock) (hl0 : v1.ownBlock = v.ownBlock ∨ v1.ownBlock = some (W.alloc o).heap.size) {X : Nat → Prop} (hX : ∀ k, X k → k < w7.heap.size ∧ k ≠ N) :
    w1.cell? ⟨N, 0, none⟩ = some v ∧ w1.frozen? ⟨N, 0, none⟩ = false ∧ KeepsFrom w7.heap.size W (w1.setCell ⟨N, 0, none⟩ v1) ∧ Kq (fun k => X k ∨ R k) W (w1.setCell ⟨N, 0, none⟩ v1) ∧ Gc w7 N R (pre ++ [x]) (w1.setCell ⟨N, 0, none⟩ v1) := by
  have hl : ∀ k, v1.ownBlock = some k → v.ownBlock = some k ∨ W.heap.size ≤ k := fun k hk => by
    rcases hl0 with e | e
    · exact .inl (e ▸ hk)
    · rw [e] at hk; cases hk; exact .inr (by simp)
  have c1 : Ch (fun k => v.ownBlock = some k) W w1 := ((Ch.refl _ W).alloc o).trans (Ch.of_grown hg (fun k e _ => e))
  have hbl : ∀ k, v.ownBlock = some k → w7.heap.size ≤ k ∧ ∃ o : Obj, W.heap[k]? = some o ∧ o.isCells = true := fun k hk => by
    obtain ⟨q1, cur, q2⟩ := row_obj h2 hk
    exact ⟨q1, _, q2, rfl⟩
  have b1 := h1.ch c1 (fun e => by have := (hbl N e).1; omega)
  have c2 : Ch (fun k => k = N) w1 (w1.setCell ⟨N, 0, none⟩ v1) := (Ch.refl _ w1).setCell _ _ (fun _ => rfl)
  have c3 : Ch (fun k => k = N ∨ v.ownBlock = some k) W (w1.setCell ⟨N, 0, none⟩ v1) := (c1.mono (fun k _ h => .inr h)).joinG c2 (fun k _ h => .inl h)
  have hz := c3.size
  have r1 : (w1.setCell ⟨N, 0, none⟩ v1).ownsRow w7.heap.size 9 1 v1 (pre.length + 1) (strCs pre ++ [.string (S x)]) := c2.row hr (fun k hk e => by have := (row_obj hr hk).1; omega)
  refine ⟨b1.cell, b1.fro, KeepsFrom.of_ch c3 (fun k hk => ?_), Kq.of_ch c3 (fun k hk hy => ?_), ⟨⟨v1, one0 b1 v1, ?_, fun k hk hR => ?_⟩, fun k hk => ?_, ch.joinG c3 (fun k hk e => ?_)⟩⟩
  · rcases hk with rfl | hk
    · exact ⟨_, h1, rfl⟩
    · exact (hbl k hk).2
  · rcases hk with hk | hk
    · obtain ⟨q1, q2⟩ := hX k hk
      rcases hy with e | e
      · exact q2 e
      · have := (hbl k e).1; omega
    · rcases hy with e | e
      · have := (rr k hk).1; omega
      · exact h3 k e hk
  · rw [List.length_append, strCs_snoc]; exact r1
  · rcases hl k hk with e | e
    · exact h3 k e hR
    · have := (rr k hR).2; omega
  · have := rr k hk; omega
  · rcases e with e | e
    · exact .inl e
    · exact .inr (hbl k e).1
/-- what was gathered, as a slice of strings -/
theorem strs_row {w : World} {base : Nat} {v : Value} {ls : List (List UInt8)} (h : w.ownsRow base 9 1 v ls.length (strCs ls)) : Strs w v ls := by
  rcases h.2 with ⟨e, h0⟩ | ⟨g, cap', cur, e, -⟩
  · exact ⟨none, 0, by rw [e, h0], .inl (List.eq_nil_of_length_eq_zero h0)⟩
  · subst e
    refine ⟨some ⟨g, 0, none⟩, cap', rfl, .inr ⟨g, 0, rfl, ?_, fun j hj => ?_⟩⟩
    · obtain ⟨-, cur, hx⟩ := row_obj h (g := g) rfl
      exact (Array.getElem?_eq_some_iff.1 hx).1
    · rw [Nat.zero_add]
      refine row_cell h ?_
      unfold strCs
      rw [List.getElem?_map, List.getElem?_eq_getElem hj]
      simp [List.getD, List.getElem?_eq_getElem hj]
end
end Go.Proofs.YteifkkceldlfnaaGreatDoor

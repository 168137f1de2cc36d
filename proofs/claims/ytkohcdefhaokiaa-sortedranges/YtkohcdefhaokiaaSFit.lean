/-
  Two slices of keys that grow beside each other; what the ranges over a map have to do with one another.
-/
import Derived.Test.YtkohcdefhaokiaaSPlay
import Derived.Maps.AppendAt
namespace Go.Proofs.Ytkohcdefhaokiaa
open Go.RowKit Go.Shelf Go.Lib Go.Sort

/-- keys that are told by one way and by another one, so far -/
structure N2 (w : World) (kx ux : Value) (pk pu : List Ent) (W : World) : Prop where
  k : W.ownsRow w.heap.size 9 1 kx pk.length (kcells pk)
  u : W.ownsRow w.heap.size 9 1 ux pu.length (kcells pu)
  b : Below w.heap.size w W
  ne : ∀ g, kx.ownBlock = some g → ux.ownBlock ≠ some g
theorem N2.start (w : World) : N2 w (.slice none 0 0) (.slice none 0 0) [] [] w := ⟨World.ownsRow_nil _ _ _ _, World.ownsRow_nil _ _ _ _, Below.refl _ _, fun _ e => by cases e⟩
theorem N2.alloc {w : World} {kx ux : Value} {pk pu : List Ent} {W : World} (h : N2 w kx ux pk pu W) (o : Obj) : N2 w kx ux pk pu (W.alloc o) := ⟨h.k.alloc o, h.u.alloc o, h.b.alloc h.b.size o, h.ne⟩
theorem N2.drewN {w : World} {kx ux : Value} {pk pu : List Ent} {W : World} (h : N2 w kx ux pk pu W) (n : Nat) : N2 w kx ux pk pu (W.drewN n) := ⟨h.k, h.u, below_drewN h.b _, h.ne⟩
theorem N2.below {w : World} {kx ux : Value} {pk pu : List Ent} {W W' : World} (h : N2 w kx ux pk pu W) (hb : Below W.heap.size W W') : N2 w kx ux pk pu W' :=
  have hc : Ch (fun _ => False) W W' := Ch.of_below hb
  ⟨hc.row h.k (fun _ _ => id), hc.row h.u (fun _ _ => id), h.b.trans (hb.mono h.b.size), h.ne⟩
theorem N2.lt {w : World} {kx ux : Value} {pk pu : List Ent} {W : World} (h : N2 w kx ux pk pu W) : (∀ g, kx.ownBlock = some g → g < W.heap.size) ∧ (∀ g, ux.ownBlock = some g → g < W.heap.size) := by
  refine ⟨fun g e => ?_, fun g e => ?_⟩
  · obtain ⟨_, cur, hx⟩ := row_obj h.k e; exact (Array.getElem?_eq_some_iff.1 hx).1
  · obtain ⟨_, cur, hx⟩ := row_obj h.u e; exact (Array.getElem?_eq_some_iff.1 hx).1
theorem N2.appK {w : World} {kx ux v1 : Value} {pk pu : List Ent} {W w1 : World} (x : Ent) (h : N2 w kx ux pk pu W) (hown : w1.ownsRow w.heap.size 9 1 v1 (pk.length + 1) (kcells pk ++ [.string x.1])) (hg : W.grownBy w1 kx.ownBlock) (hat : v1.ownBlock = kx.ownBlock ∨ v1.ownBlock = some W.heap.size) : N2 w v1 ux (pk ++ [x]) pu w1 := by
  refine ⟨by rw [kcells_snoc, List.length_append]; exact hown, h.u.kept hg ?_, h.b.grown hg h.b.size (fun k hk => (h.k.lt k hk).1), fun g e e' => ?_⟩
  · cases hv : ux.ownBlock with
    | none => exact .inl rfl
    | some g => exact .inr (fun e => h.ne g e.symm hv)
  · rcases hat with e1 | e1
    · exact h.ne g (e1.symm.trans e) e'
    · rw [e1] at e; cases e
      exact absurd (h.lt.2 _ e') (Nat.lt_irrefl _)
theorem N2.appU {w : World} {kx ux v1 : Value} {pk pu : List Ent} {W w1 : World} (x : Ent) (h : N2 w kx ux pk pu W) (hown : w1.ownsRow w.heap.size 9 1 v1 (pu.length + 1) (kcells pu ++ [.string x.1])) (hg : W.grownBy w1 ux.ownBlock) (hat : v1.ownBlock = ux.ownBlock ∨ v1.ownBlock = some W.heap.size) : N2 w kx v1 pk (pu ++ [x]) w1 := by
  refine ⟨h.k.kept hg ?_, by rw [kcells_snoc, List.length_append]; exact hown, h.b.grown hg h.b.size (fun k hk => (h.u.lt k hk).1), fun g e e' => ?_⟩
  · cases hv : kx.ownBlock with
    | none => exact .inl rfl
    | some g => exact .inr (fun e => h.ne g hv e.symm)
  · rcases hat with e1 | e1
    · exact h.ne g e (e1.symm.trans e')
    · rw [e1] at e'; cases e'
      exact absurd (h.lt.1 _ e) (Nat.lt_irrefl _)

/-- what a round asks of the rows -/
theorem fit_cells {w wr : World} {b1 b2 : Nat} {aa ba ca da : Option Addr} {ac bc cc dc : Nat} {es : List Ent} (h1 : KV w b1 (.slice aa es.length ac) (.slice ba es.length bc) es) (h2 : KV w b2 (.slice ca es.length cc) (.slice da es.length dc) es.reverse) (hB : Below w.heap.size w wr) {i j : Nat} (hi : i < es.length) (hj : j = es.length - 1 - i) :
    ∃ g1 g2 g3 g4 : Nat, aa = some ⟨g1, 0, none⟩ ∧ ba = some ⟨g2, 0, none⟩ ∧ ca = some ⟨g3, 0, none⟩ ∧ da = some ⟨g4, 0, none⟩ ∧ wr.cell? ⟨g1, i, none⟩ = some (.string es[i].1) ∧ wr.cell? ⟨g2, i, none⟩ = some (.int .i64 es[i].2) ∧ wr.cell? ⟨g3, j, none⟩ = some (.string es[i].1) ∧ wr.cell? ⟨g4, j, none⟩ = some (.int .i64 es[i].2) := by
  have k1 := h1.below hB
  have k2 := h2.below hB
  unfold KV at k2
  rw [List.length_reverse] at k2
  rcases k1.1.2 with ⟨hx, h00⟩ | ⟨g1, cap, cur, hx, -⟩
  · omega
  cases hx
  rcases k1.2.2 with ⟨hx, h00⟩ | ⟨g2, cap, cur, hx, -⟩
  · omega
  cases hx
  rcases k2.1.2 with ⟨hx, h00⟩ | ⟨g3, cap, cur, hx, -⟩
  · omega
  cases hx
  rcases k2.2.2 with ⟨hx, h00⟩ | ⟨g4, cap, cur, hx, -⟩
  · omega
  cases hx
  have hjl : j < es.reverse.length := by rw [List.length_reverse]; omega
  have e : es.reverse[j] = es[i] := by
    rw [List.getElem_reverse]
    congr 1
    omega
  refine ⟨g1, g2, g3, g4, rfl, rfl, rfl, rfl, row_cell k1.1 (kcells_get hi), row_cell k1.2 (vcells_get hi), ?_, ?_⟩
  · have := row_cell k2.1 (kcells_get hjl); rwa [e] at this
  · have := row_cell k2.2 (vcells_get hjl); rwa [e] at this

/-- a row stays while a map is ranged over -/
theorem row_pl {w0 w w' : World} {mb rb : Nat} {es : List Ent} (h : Pl w0 mb rb es w) (hc : Ch (fun b => b = mb) w w') {base : Nat} {v : Value} {n : Nat} {xs : List Value} (hr : w.ownsRow base 9 1 v n xs) : w'.ownsRow base 9 1 v n xs := by
  obtain ⟨sv, q, kv, vv, hJ, -⟩ := h
  refine hc.row hr ?_
  rintro g hg rfl
  obtain ⟨_, cur, hx⟩ := row_obj hr hg
  rw [hJ.m.hd] at hx; injection hx with x; injection x with _ x; cases x

theorem take_filter (p : Ent → Bool) {l : List Ent} {i : Nat} (h : i < l.length) : (l.take (i + 1)).filter p = (l.take i).filter p ++ if p l[i] = true then [l[i]] else [] := by
  rw [List.take_succ_eq_append_getElem h, List.filter_append]
  congr 1
  cases hp : p l[i] <;> simp [hp]
theorem Pl.short {w0 w : World} {mb rb : Nat} {es : List Ent} (h : Pl w0 mb rb es w) : Short es ∧ Rise es := by
  obtain ⟨sv, q, kv, vv, hJ, -⟩ := h
  exact ⟨hJ.sh, hJ.m.rise⟩
theorem pick_rev (k : ByteArray) (es : List Ent) : pick 6 k es = es.reverse := by simp [pick]
theorem pick_from (k : ByteArray) {es : List Ent} (h : Rise es) : pick 5 k es = es.filter (fun e => !lt e.1 k) := by simp [pick, filter_from es k h]
theorem pick_under (k : ByteArray) {es : List Ent} (h : Rise es) : pick 7 k es = es.filter (fun e => bg e.1 k) := by simp [pick, filter_under es k h]
end Go.Proofs.Ytkohcdefhaokiaa

/-
  A slice literal of no elements that a list is appended to; the document's own.
-/
import Derived.Test.YthmfcloecmnfnaaGreatF13Put
namespace Go.Proofs.YthmfcloecmnfnaaGreat.f13
open Go.RowKit Go.Shelf Go.Sort
open Go.Lib hiding intOf

set_option maxRecDepth 100000 in
/-- what '[]T' of no elements with a list behind it comes to -/
theorem lit_app {α : Type} {k by_ : Nat} {c : α → List Value} {et T : TypeId} {z : Value} (hk : ∀ x, (c x).length = k) (h0 : 0 < k) (hT : Tryz.prog.underlying T = some (.slice et)) (hinfo : (Tryz.prog.info? et).map (fun i => (i.zero, i.size, i.bytes)) = some (some z, k, by_)) (hz : z.cells.size = k) {W : World} {a : Option Addr} {cp : Nat} {l : List α} (h : Rr k c W (.slice a l.length cp) l) (h1 : ∀ u ∈ l.flatMap c, u.oneCell' = true) (hn : l.length ≤ 4611686018427387904) (hfit : (0 + l.length + (0 + l.length) / 4 + 192) * by_ ≤ 281474976710656) (ty : TypeId) :
    ∃ v' w', (Builtin.append_ #[T, T] ty #[.slice (some ⟨W.heap.size, 0, none⟩) 0 0, .slice a l.length cp]).run Tryz.prog (W.alloc (.cells #[] et)) = .ok v' w' ∧ (∃ a n c, v' = .slice a n c) ∧ w'.ownsRow W.heap.size et k v' l.length (l.flatMap c) ∧ Below W.heap.size W w' := by
  obtain ⟨i0, hi0, hz0, hz1, hz2⟩ := info_parts hinfo
  have hb : Below W.heap.size W (W.alloc (.cells #[] et)) := (Below.refl _ W).alloc (Nat.le_refl _) _
  have HR : (W.alloc (.cells #[] et)).ownsRow W.heap.size et k (.slice (some ⟨W.heap.size, 0, none⟩) 0 0) 0 [] := ⟨by simp, .inr ⟨W.heap.size, 0, #[], rfl, Nat.le_refl _, heap_alloc_new W _, Nat.le_refl _, by unfold maxLen; omega, by simp, by simp⟩⟩
  have h' := h.up hb
  obtain ⟨a', cp', e, hcp, -⟩ := id h
  injection e with e1 _ e2
  subst e1 e2
  cases a with
  | none =>
    have hl : l = [] := List.eq_nil_of_length_eq_zero (by have := hcp.1; have := hcp.2 rfl; omega)
    subst hl
    obtain rfl := hcp.2 rfl
    exact ⟨_, _, run_append_owned_none (P := Tryz.prog) (W.alloc (.cells #[] et)) W.heap.size T ty et i0 k hT hi0 _ _ _ HR, ⟨_, _, _, rfl⟩, HR, hb⟩
  | some ad =>
    obtain ⟨v', w', hr, h2, h3, _⟩ := run_append_own_wide (P := Tryz.prog) (W.alloc (.cells #[] et)) W.heap.size T ty et i0 z k by_ hT hi0 hz0 hz1 hz2 hz h0 _ _ _ HR ad l.length cp (l.flatMap c) (fm_len hk l) (h'.cells hk h0) h1 (by unfold maxLen; omega) hfit (by simp)
    obtain ⟨a2, c2, e2, -⟩ := row_slice h2
    refine ⟨v', w', hr, ⟨a2, _, c2, e2⟩, by simpa using h2, ?_⟩
    have h4 := hb.grown h3 (by simp) (fun b hb' => by simp [Value.ownBlock] at hb'; omega)
    exact h4
/-- one cell of one element is a list in new memory -/
theorem Own.cellRow {α : Type} {k : Nat} {c : α → List Value} (hk : ∀ x, (c x).length = k) {B : Nat} {w w1 : World} {t : TypeId} {g n cap i j : Nat} {X : List α} {L : List Rw} {r : Rw} (h : Own B w (⟨t, k, .slice (some ⟨g, 0, none⟩) n cap, n, X.flatMap c⟩ :: L)) (hi : i < X.length) (hb : Below w.heap.size w w1) (hr : r.ok w.heap.size w1) (hB : B ≤ w.heap.size) (y : α) (hj : j < k) (hy : c y = (c X[i]).set j r.v) :
    Own B (w1.setCell ⟨g, i * k + j, none⟩ r.v) (⟨t, k, .slice (some ⟨g, 0, none⟩) n cap, n, (X.set i y).flatMap c⟩ :: r :: L) ∧ Below B w (w1.setCell ⟨g, i * k + j, none⟩ r.v) := by
  have h1 := (h.add hb hr hB).perm (List.Perm.swap _ _ _)
  have hg : w1.ownsRow B t k (.slice (some ⟨g, 0, none⟩) n cap) n (X.flatMap c) := h1.own _ (List.mem_cons_self ..)
  have hlt := hg.lt g rfl
  have hp := row_put hg (i * k + j) r.v
  rw [fm_set hk X i j hi hj y r.v hy] at hp
  exact ⟨h1.turn (r' := ⟨t, k, .slice (some ⟨g, 0, none⟩) n cap, n, (X.set i y).flatMap c⟩) (ch_cell w1 g (i * k + j) r.v) hp (fun b hb => .inl hb), (hb.mono hB).trans ((ch_cell w1 g (i * k + j) r.v).below (Nat.le_trans hB hb.size) (fun b hb e => by injection e with e; omega))⟩
end Go.Proofs.YthmfcloecmnfnaaGreat.f13

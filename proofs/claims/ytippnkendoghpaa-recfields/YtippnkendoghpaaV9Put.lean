/-
  Package value's Put: what it comes to.
-/
import Derived.Test.YtippnkendoghpaaV9Grw
namespace Go.Proofs.Ytippnkendoghpaa
open Go.RowKit Go.Shelf Go.Sort
open Go.Lib hiding intOf

theorem put_parts {l : List Vr} {k : ByteArray} (x : V9) : put l k x = l.take (pos l k) ++ ([(k, x)] ++ l.drop (pos l k + if has l k then 1 else 0)) := by
  unfold put
  cases h : has l k with
  | true =>
    obtain ⟨hp, -⟩ := has_lt h
    rw [if_pos rfl, if_pos rfl, List.set_eq_take_append_cons_drop, if_pos hp]
    rfl
  | false => rw [if_neg (by simp), if_neg (by simp)]; rfl
theorem Vs.take {w : World} {a : Option Addr} {cap : Nat} {l : List Vr} (h : Vs w (.slice a l.length cap) l) {p : Nat} (hp : p ≤ l.length) : Vs w (.slice a p cap) (l.take p) := by
  obtain ⟨a', c', e, hc, h⟩ := h
  cases e
  have hl : (l.take p).length = p := by rw [List.length_take]; omega
  refine ⟨a, cap, by rw [hl], ⟨by rw [hl]; omega, hc.2⟩, ?_⟩
  rcases h with rfl | ⟨b, off, rfl, hlt, hcell⟩
  · exact .inl (by simp)
  · refine .inr ⟨b, off, rfl, hlt, fun j hj => ?_⟩
    rw [hl] at hj
    have := hcell j (by omega)
    simpa using this
theorem Vs.drop {w : World} {ad : Addr} {cap : Nat} {l : List Vr} (h : Vs w (.slice (some ad) l.length cap) l) {q : Nat} (hq : q ≤ l.length) : Vs w (.slice (if cap = q then some ad else some (ad.add (q * 4))) (l.length - q) (cap - q)) (l.drop q) := by
  obtain ⟨a', c', e, hc, h⟩ := h
  cases e
  have hl : (l.drop q).length = l.length - q := List.length_drop
  by_cases hql : q < l.length
  · rw [if_neg (by omega)]
    rcases h with rfl | ⟨b', off', e, hlt, hcell⟩
    · simp at hql
    · cases e
      refine ⟨_, cap - q, by rw [hl], ⟨by rw [hl]; omega, fun e => by cases e⟩, .inr ⟨b', off' + q * 4, by rw [Addr.add_lit], hlt, fun j hj => ?_⟩⟩
      rw [hl] at hj
      have := hcell (q + j) (by omega)
      rw [show off' + q * 4 + j * 4 = off' + (q + j) * 4 by omega]
      simpa using this
  · refine ⟨_, cap - q, by rw [hl], ⟨by rw [hl]; omega, fun e => ?_⟩, .inl (List.drop_of_length_le (by omega))⟩
    split at e <;> cases e
theorem pt3 {w : World} {b : Nat} {u0 u1 u2 : Value} {l0 l1 l2 : List Vr} (hb : b < w.heap.size) (c0 : w.cell? ⟨b, 0, none⟩ = some u0) (c1 : w.cell? ⟨b, 1, none⟩ = some u1) (c2 : w.cell? ⟨b, 2, none⟩ = some u2) (h0 : Vs w u0 l0) (h1 : Vs w u1 l1) (h2 : Vs w u2 l2) : Pt w b [(u0, l0), (u1, l1), (u2, l2)] := by
  refine ⟨hb, fun j hj => ?_, fun j hj => ?_⟩
  · match j, hj with
    | 0, _ => exact c0
    | 1, _ => exact c1
    | 2, _ => exact c2
  · match j, hj with
    | 0, _ => exact h0
    | 1, _ => exact h1
    | 2, _ => exact h2

/-- what Put leaves -/
def PuR (w : World) (l : List Vr) (k : ByteArray) (x : V9) (e : Ending) (w' : World) : Prop := ∃ v', e = .returned (.tuple #[v', .int .i64 ((putV l k x).2 : Int)]) ∧ Vs w' v' (putV l k x).1 ∧ Below w.heap.size w w'

end Go.Proofs.Ytippnkendoghpaa

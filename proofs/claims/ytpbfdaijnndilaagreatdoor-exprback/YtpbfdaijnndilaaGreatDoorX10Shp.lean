/-
  Package expr: slices of parts; how many hands an operator has; brackets.
-/
import Derived.Test.YtpbfdaijnndilaaGreatDoorGExprC
namespace Go.Proofs.YtpbfdaijnndilaaGreatDoor.x10
open Go.RowKit Go.Shelf Go.Sort
open Go.Lib hiding intOf

/-- v is a slice of the parts l -/
def Es (w : World) (v : Value) (l : List P10) : Prop :=
  ∃ a cap, v = .slice a l.length cap ∧ (l.length ≤ cap ∧ (a = none → cap = 0)) ∧ (l = [] ∨ ∃ b off, a = some ⟨b, off, none⟩ ∧ b < w.heap.size ∧ ∀ (j : Nat) (h : j < l.length) (k : Nat) (u : Value), (pc l[j])[k]? = some u → w.cell? ⟨b, off + j * 6 + k, none⟩ = some u)
theorem Es.below {w w' : World} {v : Value} {l : List P10} (h : Es w v l) (hb : Below w.heap.size w w') : Es w' v l := by
  obtain ⟨a, cap, rfl, hc, h⟩ := h
  refine ⟨a, cap, rfl, hc, h.imp id ?_⟩
  rintro ⟨b, off, rfl, hlt, hc⟩
  exact ⟨b, off, rfl, Nat.lt_of_lt_of_le hlt hb.size, fun j hj k u hu => (hb.cell (p := ⟨b, off + j * 6 + k, none⟩) hlt).trans (hc j hj k u hu)⟩
theorem pcs_at : ∀ (l : List P10) (j : Nat) (h : j < l.length) (k : Nat) (u : Value), (pc l[j])[k]? = some u → (pcs l)[j * 6 + k]? = some u
  | [], _, h, _, _, _ => absurd h (Nat.not_lt_zero _)
  | p :: t, j, h, k, u, hu => by
    rw [show pcs (p :: t) = pc p ++ pcs t by simp [pcs]]
    have hp : (pc p).length = 6 := rfl
    cases j with
    | zero =>
      have hk : k < (pc p).length := by rcases Nat.lt_or_ge k (pc p).length with h | h; exact h; rw [List.getElem_cons_zero, List.getElem?_eq_none h] at hu; cases hu
      rw [Nat.zero_mul, Nat.zero_add, List.getElem?_append_left hk]
      exact hu
    | succ j =>
      rw [List.getElem?_append_right (by omega), show (j + 1) * 6 + k - (pc p).length = j * 6 + k by omega]
      exact pcs_at t j (by simpa using h) k u hu
/-- what Parse hands back is such a slice -/
theorem Px.es {w : World} {B : Nat} {v : Value} {l : List P10} (h : Px w B v l) : Es w v l := by
  obtain ⟨h1, h2⟩ := h
  rcases h2 with ⟨rfl, h3⟩ | ⟨g, cap, cur, rfl, h3, h4, h5, h6, h7, h8⟩
  · obtain rfl : l = [] := List.length_eq_zero_iff.1 h3
    exact ⟨none, 0, rfl, ⟨Nat.le_refl _, fun _ => rfl⟩, .inl rfl⟩
  · refine ⟨_, cap, rfl, ⟨h5, fun e => (by cases e)⟩, .inr ⟨g, 0, rfl, (Array.getElem?_eq_some_iff.1 h4).1, fun j hj k u hu => ?_⟩⟩
    have h9 := pcs_at l j hj k u hu
    rw [← h8, List.getElem?_take] at h9
    split at h9
    · rw [Array.getElem?_toList] at h9
      simpa [World.cell?, h4] using h9
    · cases h9
/-- the cells of one part -/
theorem Es.at {w : World} {v : Value} {l : List P10} (h : Es w v l) {i : Nat} (hi : i < l.length) : ∃ b off cap, v = .slice (some ⟨b, off, none⟩) l.length cap ∧ b < w.heap.size ∧ ∀ (j : Nat) (h : j < l.length), w.cell? ⟨b, off + j * 6, none⟩ = some (.int .i64 l[j].1) ∧ w.cell? ⟨b, off + j * 6 + 1, none⟩ = some (.int .i64 l[j].2.1) ∧ w.cell? ⟨b, off + j * 6 + 2, none⟩ = some (.int .i64 l[j].2.2.1) ∧ w.cell? ⟨b, off + j * 6 + 3, none⟩ = some (.int .i64 l[j].2.2.2.1) ∧ w.cell? ⟨b, off + j * 6 + 4, none⟩ = some (.int .i64 l[j].2.2.2.2.1) ∧ w.cell? ⟨b, off + j * 6 + 5, none⟩ = some (.string (S l[j].2.2.2.2.2)) := by
  obtain ⟨a, cap, rfl, -, h⟩ := h
  rcases h with rfl | ⟨b, off, rfl, hlt, hc⟩
  · cases hi
  · exact ⟨b, off, cap, rfl, hlt, fun j hj => ⟨hc j hj 0 _ rfl, hc j hj 1 _ rfl, hc j hj 2 _ rfl, hc j hj 3 _ rfl, hc j hj 4 _ rfl, hc j hj 5 _ rfl⟩⟩
/-- how many parts an operator is of -/
def hnd (op : Int) : Int := if op < 1 ∨ 18 < op then -1 else if op ≤ 2 then 0 else if op ≤ 5 then 1 else 2

set_option maxHeartbeats 400000 in
theorem hands_any (op : Int) (w : World) : Calls Tryz.prog 59 #[.int .i64 op] w fun e w' => e = .returned (.int .i64 (hnd op)) ∧ w' = w := by
  unfold hnd
  by_cases h1 : op < 1
  · rw [if_pos (Or.inl h1)]
    go_enter Tryz.func59, Tryz.ntmps59
    go_wp2
    go_ret
    exact ⟨rfl, rfl⟩
  by_cases h2 : 18 < op
  · rw [if_pos (Or.inr h2)]
    go_enter Tryz.func59, Tryz.ntmps59
    go_wp2
    go_ret
    exact ⟨rfl, rfl⟩
  rw [if_neg (fun e => e.elim h1 h2)]
  by_cases h3 : op ≤ 2
  · rw [if_pos h3]
    go_enter Tryz.func59, Tryz.ntmps59
    go_wp2
    go_ret
    exact ⟨rfl, rfl⟩
  rw [if_neg h3]
  by_cases h4 : op ≤ 5
  · rw [if_pos h4]
    go_enter Tryz.func59, Tryz.ntmps59
    go_wp2
    go_ret
    exact ⟨rfl, rfl⟩
  rw [if_neg h4]
  go_enter Tryz.func59, Tryz.ntmps59
  go_wp2
  go_ret
  exact ⟨rfl, rfl⟩

set_option maxHeartbeats 1000000 in
set_option maxRecDepth 100000 in
theorem left_any {w : World} {B : Nat} {v : Value} {l : List P10} (hE : Es w v l) (hg : Gx B w) (i : Nat) (hi : i < l.length) (a o1 o2 : Nat) (ha : a < l.length) (hA : l[i].2.1 = (a : Int)) (h1 : l[a].1 = (o1 : Int)) (h2 : l[i].1 = (o2 : Int)) (l1 : o1 < 19) (l2 : o2 < 19) : Calls Tryz.prog 54 #[v, .int .i64 (i : Int)] w fun e w' => e = .returned (.bool (decide (lvl o1 < lvl o2))) ∧ Below w.heap.size w w' := by
  obtain ⟨b, off, cap, rfl, hb, hc⟩ := hE.at hi
  obtain ⟨c0, c1, -⟩ := hc i hi
  obtain ⟨d0, -⟩ := hc a ha
  rw [hA] at c1
  rw [h2] at c0
  rw [h1] at d0
  have s1 := (sg_cell hg o1 l1).2
  have s2 := (sg_cell hg o2 l2).2
  clear hA h1 h2 hc hE hg
  have i1 : (0 : Int) ≤ (i : Int) := by omega
  have i2 : (i : Int) < (l.length : Int) := by omega
  have i3 : (0 : Int) ≤ (a : Int) := by omega
  have i4 : (a : Int) < (l.length : Int) := by omega
  have i5 : (0 : Int) ≤ (o1 : Int) := by omega
  have i6 : (o1 : Int) < 19 := by omega
  have i7 : (0 : Int) ≤ (o2 : Int) := by omega
  have i8 : (o2 : Int) < 19 := by omega
  generalize l.length = n at *
  generalize lvl o1 = L1 at *
  generalize lvl o2 = L2 at *
  go_enter Tryz.func54, Tryz.ntmps54
  go_wp2
  go_quiet (fail)
  go_wp2
  go_ret
  exact ⟨rfl, below_drewN (Below.refl _ w) _⟩

set_option maxHeartbeats 1000000 in
set_option maxRecDepth 100000 in
theorem right_any {w : World} {B : Nat} {v : Value} {l : List P10} (hE : Es w v l) (hg : Gx B w) (i : Nat) (hi : i < l.length) (a o1 o2 : Nat) (ha : a < l.length) (hA : l[i].2.2.1 = (a : Int)) (h1 : l[a].1 = (o1 : Int)) (h2 : l[i].1 = (o2 : Int)) (l1 : o1 < 19) (l2 : o2 < 19) : Calls Tryz.prog 55 #[v, .int .i64 (i : Int)] w fun e w' => e = .returned (.bool (decide (lvl o1 ≤ lvl o2))) ∧ Below w.heap.size w w' := by
  obtain ⟨b, off, cap, rfl, hb, hc⟩ := hE.at hi
  obtain ⟨c0, -, c1, -⟩ := hc i hi
  obtain ⟨d0, -⟩ := hc a ha
  rw [hA] at c1
  rw [h2] at c0
  rw [h1] at d0
  have s1 := (sg_cell hg o1 l1).2
  have s2 := (sg_cell hg o2 l2).2
  clear hA h1 h2 hc hE hg
  have i1 : (0 : Int) ≤ (i : Int) := by omega
  have i2 : (i : Int) < (l.length : Int) := by omega
  have i3 : (0 : Int) ≤ (a : Int) := by omega
  have i4 : (a : Int) < (l.length : Int) := by omega
  have i5 : (0 : Int) ≤ (o1 : Int) := by omega
  have i6 : (o1 : Int) < 19 := by omega
  have i7 : (0 : Int) ≤ (o2 : Int) := by omega
  have i8 : (o2 : Int) < 19 := by omega
  generalize l.length = n at *
  generalize lvl o1 = L1 at *
  generalize lvl o2 = L2 at *
  go_enter Tryz.func55, Tryz.ntmps55
  go_wp2
  go_quiet (fail)
  go_wp2
  go_ret
  exact ⟨rfl, below_drewN (Below.refl _ w) _⟩
end Go.Proofs.YtpbfdaijnndilaaGreatDoor.x10

/-
  The document's Put: what it comes to.
-/
import Derived.Test.YtippnkendoghpaaV9Put
import Derived.Test.YtippnkendoghpaaV9Get
namespace Go.Proofs.Ytippnkendoghpaa
open Go.RowKit Go.Shelf Go.Sort
open Go.Lib hiding intOf

theorem new_four (W : World) (n : Nat) (hn : n = W.heap.size) (a b c d : Value) (T : TypeId) : ∀ j u, ([a, b, c, d] : List Value)[j]? = some u → (W.alloc (.cells #[a, b, c, d] T)).cell? ((⟨n, 0, none⟩ : Addr).add j) = some u := by
  subst hn
  intro j u h
  rw [Addr.add_lit, Nat.zero_add, World.cell?_alloc_new]
  simpa using h
theorem one_four (x : Vr) : ∀ u ∈ vc x, u.oneCell' = true := fun u hu => vcs_one [x] u (by simpa [vcs] using hu)
/-- the row that grew by one -/
theorem grew {W1 w4 w5 : World} {G : List Vr} {v4 v5 : Value} {y : Vr} {o : Obj} (hr : w4.ownsRow W1.heap.size 54 4 v4 G.length (vcs G)) (hb : Below W1.heap.size W1 w4) (hown : w5.ownsRow W1.heap.size 54 4 v5 (G.length + 1) (vcs G ++ vc y)) (hg : (w4.alloc o).grownBy w5 v4.ownBlock) : w5.ownsRow W1.heap.size 54 4 v5 (G ++ [y]).length (vcs (G ++ [y])) ∧ Below W1.heap.size W1 w5 := by
  have hs := hb.size
  refine ⟨?_, (hb.alloc hs o).grown hg (by simp; omega) (fun k hk => (World.ownsRow.lt hr k hk).1)⟩
  rw [List.length_append, List.length_singleton, vcs_append, show vcs [y] = vc y by simp [vcs]]
  exact hown
/-- what has been gathered when i are gone through: all but the name itself; the new one ahead of the first that is not less -/
def gth (l : List Vr) (k : ByteArray) (x : V9) (i : Nat) : List Vr := if i ≤ pos l k then l.take i else l.take (pos l k) ++ ([(k, x)] ++ (l.take i).drop (pos l k + if has l k then 1 else 0))
theorem gth_lo {l : List Vr} {k : ByteArray} {x : V9} {i : Nat} (h : i ≤ pos l k) : gth l k x i = l.take i := if_pos h
theorem gth_hi {l : List Vr} {k : ByteArray} {x : V9} {i : Nat} (h : ¬ i ≤ pos l k) : gth l k x i = l.take (pos l k) ++ ([(k, x)] ++ (l.take i).drop (pos l k + if has l k then 1 else 0)) := if_neg h
theorem gth_end {l : List Vr} {k : ByteArray} {x : V9} (h : pos l k < l.length) : gth l k x l.length = put l k x := by
  rw [gth_hi (by omega), List.take_length, put_parts]
theorem gth_less {l : List Vr} {k : ByteArray} {x : V9} {i : Nat} (hi : i < l.length) (hp : i < pos l k) : gth l k x (i + 1) = gth l k x i ++ [l[i]] := by
  rw [gth_lo (by omega), gth_lo (by omega), take_snoc9 hi]
theorem gth_new {l : List Vr} {k : ByteArray} {x : V9} {i : Nat} (hi : i < l.length) (hp : i = pos l k) : gth l k x (i + 1) = gth l k x i ++ ([(k, x)] ++ (if has l k then [] else [l[i]])) := by
  rw [gth_hi (by omega), gth_lo (by omega), ← hp, take_snoc9 hi]
  have hl : (l.take i).length = i := by rw [List.length_take]; omega
  congr 2
  cases has l k with
  | true => exact List.drop_of_length_le (by simp; omega)
  | false =>
    show (l.take i ++ [l[i]]).drop i = [l[i]]
    rw [List.drop_append_of_le_length (by omega), List.drop_of_length_le (by omega)]
    rfl
theorem gth_more {l : List Vr} {k : ByteArray} {x : V9} {i : Nat} (hi : i < l.length) (hp : pos l k < i) : gth l k x (i + 1) = gth l k x i ++ [l[i]] := by
  rw [gth_hi (by omega), gth_hi (by omega), take_snoc9 hi]
  have hq : (pos l k + if has l k then 1 else 0) ≤ (l.take i).length := by
    rw [List.length_take]
    cases has l k <;> simp <;> omega
  rw [List.drop_append_of_le_length hq]
  simp
theorem gth_len (l : List Vr) (k : ByteArray) (x : V9) (i : Nat) (hi : i ≤ l.length) : (gth l k x i).length ≤ i + 1 := by
  unfold gth
  split
  · rw [List.length_take]; omega
  · simp only [List.length_append, List.length_take, List.length_drop, List.length_singleton]
    omega
theorem name_ne {l : List Vr} {k : ByteArray} (hr : Rise l) {i : Nat} (hi : i < l.length) : l[i].1 = k ↔ (has l k = true ∧ i = pos l k) := by
  constructor
  · intro h
    have h1 : ¬ i < pos l k := fun hp => by
      have := (pos_lt l k i hr hi).2 hp
      rw [h, lt_irrefl] at this; cases this
    have h2 : ¬ pos l k < i := fun hp => by
      have hpl : pos l k < l.length := by omega
      have h5 := hr.get (i := pos l k) (j := i) hpl hi hp
      rw [h] at h5
      have := (pos_lt l k (pos l k) hr hpl).1 h5
      omega
    have hp : i = pos l k := by omega
    refine ⟨?_, hp⟩
    subst hp
    simp only [has, List.getElem?_eq_getElem hi, h]
    simp
  · rintro ⟨hh, rfl⟩
    exact (has_lt hh).2

end Go.Proofs.Ytippnkendoghpaa

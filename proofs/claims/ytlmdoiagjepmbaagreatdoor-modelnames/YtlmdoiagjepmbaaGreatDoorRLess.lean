/-
  The document's Less, where a seat has of wherryref02 nothing else: it only reads.
-/
import Derived.Test.YtlmdoiagjepmbaaGreatDoorROrd
namespace Go.Proofs.YtlmdoiagjepmbaaGreatDoor
open Go.RowKit Go.Shelf Go.Sort
open Go.Lib hiding intOf

theorem less_from (a b : List UInt8) (i : Nat) (ha : i < a.length) (hb : i < b.length) (hp : a.take i = b.take i) : (a < b ↔ (a[i] < b[i] ∨ (a[i] = b[i] ∧ a.drop (i + 1) < b.drop (i + 1)))) := by
  have e1 : a = a.take i ++ (a[i] :: a.drop (i + 1)) := by rw [List.getElem_cons_drop]; exact (List.take_append_drop i a).symm
  have e2 : b = a.take i ++ (b[i] :: b.drop (i + 1)) := by rw [hp, List.getElem_cons_drop]; exact (List.take_append_drop i b).symm
  have key : ∀ (p x y : List UInt8), p ++ x < p ++ y ↔ x < y := by
    intro p x y
    induction p with
    | nil => rfl
    | cons c p ih => simp only [List.cons_append, List.cons_lt_cons_iff, ih]; simp
  have h1 : (a < b) ↔ (a.take i ++ (a[i] :: a.drop (i + 1)) < a.take i ++ (b[i] :: b.drop (i + 1))) := by rw [← e1, ← e2]
  rw [h1, key, List.cons_lt_cons_iff]

theorem get_list (a : ByteArray) (i : Nat) (h : i < a.size) : a.data.toList[i]'(by simpa using h) = a[i] := rfl

theorem below_drewN {B : Nat} {w wr : World} (h : Below B w wr) (n : Nat) : Below B w (wr.drewN n) := ⟨h.os, h.tape, h.output, h.size, h.block⟩

theorem less_done (a b : ByteArray) (i : Nat) (h1 : i ≤ a.size) (h2 : i ≤ b.size) (h3 : a.data.toList.take i = b.data.toList.take i) (he : i = a.size ∨ i = b.size) : lt a b = decide (a.size < b.size) := by
  have la : a.data.toList.length = a.size := by simp
  have lb : b.data.toList.length = b.size := by simp
  rw [Bool.eq_iff_iff, lt_iff, decide_eq_true_iff]
  by_cases ha : i = a.size
  · rw [List.take_of_length_le (by omega)] at h3
    rw [h3]
    by_cases hb : i = b.size
    · rw [List.take_of_length_le (by omega)]
      constructor
      · intro h; exact absurd h (List.lt_irrefl _)
      · intro h; omega
    · constructor
      · intro _; omega
      · intro _
        have hd : b.data.toList.drop i ≠ [] := by
          intro h
          have := congrArg List.length h
          rw [List.length_drop, lb] at this
          simp at this
          omega
        have : ∀ (p r : List UInt8), r ≠ [] → p < p ++ r := by
          intro p r hr
          induction p with
          | nil => cases r with
            | nil => exact absurd rfl hr
            | cons c r => simp
          | cons c p ih => rw [List.cons_append, List.cons_lt_cons_iff]; exact .inr ⟨rfl, ih⟩
        have h5 := this (b.data.toList.take i) _ hd
        rw [List.take_append_drop] at h5
        exact h5
  · have hb : i = b.size := he.resolve_left ha
    rw [List.take_of_length_le (l := b.data.toList) (by omega)] at h3
    constructor
    · intro h
      rw [← h3] at h
      exact absurd h (List.not_lt.2 (List.IsPrefix.le (List.take_prefix i _)))
    · intro h; omega

end Go.Proofs.YtlmdoiagjepmbaaGreatDoor

/-
  Contracts of package wire's reader for texts (takeCount, takeText, Text): each answers as a function on lists of bytes says; but for the reader's own block nothing that was there before the call is changed.
-/
import Derived.Test.YtaahmnkfjkbliabDoorReads
import Derived.Shelf.Pu.Clone
namespace Go.Proofs.YtaahmnkfjkbliabDoor
open Go.RowKit

/-- A COUNT of at most 'most': the number, what is left, why not -/
def cnt (most : Int) (l : List UInt8) : Nat × List UInt8 × Nat :=
  if (numb 0 0 l).2.2 ≠ 0 then (0, (numb 0 0 l).2.1, (numb 0 0 l).2.2)
  else if most < ((numb 0 0 l).1 : Int) then (0, (numb 0 0 l).2.1, 13)
  else ((numb 0 0 l).1, (numb 0 0 l).2.1, 0)

/-- A TEXT of at most 'most' bytes: the text, what is left, why not -/
def tex (most : Int) (l : List UInt8) : List UInt8 × List UInt8 × Nat :=
  if (cnt most l).2.2 ≠ 0 then ([], (cnt most l).2.1, (cnt most l).2.2)
  else if (cnt most l).2.1.length < (cnt most l).1 then ([], (cnt most l).2.1, 2)
  else ((cnt most l).2.1.take (cnt most l).1, (cnt most l).2.1.drop (cnt most l).1, 0)

theorem S_take (l : List UInt8) (n : Nat) : (S l).extract 0 n = S (l.take n) := by
  apply ByteArray.ext
  rw [ByteArray.data_extract]
  simp [S]
theorem S_drop (l : List UInt8) (n : Nat) : (S l).extract n l.length = S (l.drop n) := by
  apply ByteArray.ext
  rw [ByteArray.data_extract]
  simp only [S, List.extract_toArray, List.extract_eq_take_drop]
  rw [List.take_of_length_le (by simp)]

theorem numb_le : ∀ (l : List UInt8) (i acc : Nat), (numb i acc l).2.1.length ≤ l.length
  | [], _, _ => by simp [numb]
  | c :: t, i, acc => by
    have ih := numb_le t (i + 1) (acc + c.toNat % 128 * 2 ^ (i * 7))
    rw [numb]
    split
    · simp
    · split
      · simp; omega
      · split <;> simp
theorem cnt_le (most : Int) (l : List UInt8) : (cnt most l).2.1.length ≤ l.length := by
  have := numb_le l 0 0
  unfold cnt
  split
  · exact this
  · split <;> exact this
theorem tex_le (most : Int) (l : List UInt8) : (tex most l).2.1.length ≤ l.length := by
  have := cnt_le most l
  unfold tex
  split
  · exact this
  · split
    · exact this
    · simp; omega

theorem cnt_most (most : Int) (l : List UInt8) : (cnt most l).1 = 0 ∨ ((cnt most l).1 : Int) ≤ most := by
  unfold cnt
  split
  · exact .inl rfl
  · split
    · exact .inl rfl
    · exact .inr (by simp only; omega)

end Go.Proofs.YtaahmnkfjkbliabDoor

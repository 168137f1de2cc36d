/-
  Contracts of the two readers' calls Int, Byte, End and Text, wire's and the document's: the same answers, by functions on lists of bytes; but for the reader's own block nothing that was there before the call is changed.
-/
import Derived.Test.YtaahmnkfjkbliabDoorRefRead
namespace Go.Proofs.YtaahmnkfjkbliabDoor
open Go.RowKit

theorem unzig0 : Lib.unzigzag 0 = 0 := rfl

/-- A BYTE -/
def rdB (l : List UInt8) (e : Nat) : Nat × List UInt8 × Nat :=
  if e = 0 then (match l with
    | [] => (0, [], 2)
    | c :: t => (c.toNat, t, 0)) else (0, l, e)

/-- A TEXT -/
def rdT (most : Int) (l : List UInt8) (e : Nat) : List UInt8 × List UInt8 × Nat :=
  if e = 0 then (if (tex most l).2.2 = 0 then ((tex most l).1, (tex most l).2.1, 0) else ([], l, (tex most l).2.2)) else ([], l, e)

/-- what rdU says where rdT goes on from it -/
theorem rdU_of {l rest : List UInt8} {v f : Nat} (h : numb 0 0 l = (v, rest, f)) : rdU l 0 = if f = 0 then (v, rest, 0) else (0, l, f) := by
  unfold rdU
  rw [h, if_pos rfl]

end Go.Proofs.YtaahmnkfjkbliabDoor

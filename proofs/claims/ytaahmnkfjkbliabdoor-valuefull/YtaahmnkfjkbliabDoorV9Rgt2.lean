/-
  The document's Right: what it comes to.
-/
import Derived.Test.YtaahmnkfjkbliabDoorV9Rgt
namespace Go.Proofs.YtaahmnkfjkbliabDoor
open Go.RowKit Go.Shelf Go.Sort
open Go.Lib hiding intOf

theorem lasN_take {l : List Vr} {j : Nat} (a : ByteArray) (h : j < l.length) : lasN a (l.take (j + 1)) = l[j].1 := by rw [take_snoc9 h, lasN_snoc]

end Go.Proofs.YtaahmnkfjkbliabDoor

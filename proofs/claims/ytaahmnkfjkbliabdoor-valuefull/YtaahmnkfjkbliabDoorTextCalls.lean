/-
  Contracts of the reader's call Text: it answers as a function on lists of bytes says; but for the reader's own block nothing that was there before the call is changed.
-/
import Derived.Test.YtaahmnkfjkbliabDoorCalls
import Derived.Test.YtaahmnkfjkbliabDoorTexts
namespace Go.Proofs.YtaahmnkfjkbliabDoor
open Go.RowKit

theorem Rd.alloc {b e : Nat} {l : List UInt8} {w : World} (h : Rd w b l e) (o : Obj) : Rd (w.alloc o) b l e :=
  h.below ((Below.refl w.heap.size w).alloc (Nat.le_refl _) o) h.lt

end Go.Proofs.YtaahmnkfjkbliabDoor

/-
  Contract of the document's answer for a text that is read (wherryref01.Reader's Text), by the same function on lists of bytes as that of package wire's reader; but for the reader's own block nothing that was there before the call is changed.
-/
import Derived.Test.YtnelekbaniljkaaDoorRefMore
namespace Go.Proofs.YtnelekbaniljkaaDoor
open Go.RowKit

end Go.Proofs.YtnelekbaniljkaaDoor

/-
  Package fold's Token.
-/
import Derived.Test.YtajnjeipcbmlhaaGreatF13Tok
namespace Go.Proofs.YtajnjeipcbmlhaaGreat.f13
open Go.RowKit Go.Shelf Go.Sort
open Go.Lib hiding intOf

end Go.Proofs.YtajnjeipcbmlhaaGreat.f13

/-
  Package fold's Token.
-/
import Derived.Test.YthmfcloecmnfnaaGreatF13Tok
namespace Go.Proofs.YthmfcloecmnfnaaGreat.f13
open Go.RowKit Go.Shelf Go.Sort
open Go.Lib hiding intOf

end Go.Proofs.YthmfcloecmnfnaaGreat.f13

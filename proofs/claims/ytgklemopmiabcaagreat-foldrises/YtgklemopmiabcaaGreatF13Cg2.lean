/-
  Package fold's change: of places and of messages.
-/
import Derived.Test.YtgklemopmiabcaaGreatGStb
namespace Go.Proofs.YtgklemopmiabcaaGreat.f13
open Go.RowKit Go.Shelf Go.Sort
open Go.Lib hiding intOf

end Go.Proofs.YtgklemopmiabcaaGreat.f13

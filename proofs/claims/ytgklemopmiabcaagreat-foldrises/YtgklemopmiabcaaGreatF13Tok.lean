/-
  Package fold's first, and Token, Job: the first element of a key.
-/
import Derived.Test.YtgklemopmiabcaaGreatF13Ap1
import Derived.Laws.ResultCell
namespace Go.Proofs.YtgklemopmiabcaaGreat.f13
open Go.RowKit Go.Shelf Go.Sort
open Go.Lib hiding intOf

end Go.Proofs.YtgklemopmiabcaaGreat.f13

/-
  slices.DeleteFunc, and package fold's takeAway: those that are so are taken away, in place.
-/
import Derived.Test.YtgklemopmiabcaaGreatF13Del
import Derived.Test.YtgklemopmiabcaaGreatF13Rows
import Derived.Test.YtgklemopmiabcaaGreatF13Wi
namespace Go.Proofs.YtgklemopmiabcaaGreat.f13
open Go.RowKit Go.Shelf Go.Sort
open Go.Lib hiding intOf

end Go.Proofs.YtgklemopmiabcaaGreat.f13

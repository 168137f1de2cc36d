/-
  slices.Insert of one element, whatever road it goes.
-/
import Derived.Test.YtgklemopmiabcaaGreatF13Rows
namespace Go.Proofs.YtgklemopmiabcaaGreat.f13
open Go.RowKit Go.Shelf Go.Lib Go.Sort
end Go.Proofs.YtgklemopmiabcaaGreat.f13

/-
  The reader's call List once more: the list that it answers lies in memory of its own.
-/
import Derived.Test.YtnelekbaniljkaaDoorLists
namespace Go.Proofs.YtnelekbaniljkaaDoor
open Go.RowKit

theorem ownsRow_mono {w : World} {base base' : Nat} {t : TypeId} {size : Nat} {v : Value} {n : Nat} {xs : List Value} (h : w.ownsRow base t size v n xs) (hb : base' ≤ base) : w.ownsRow base' t size v n xs := by
  obtain ⟨h1, h2⟩ := h
  refine ⟨h1, ?_⟩
  rcases h2 with h2 | ⟨g, cap, cur, hv, hg, r⟩
  · exact .inl h2
  · exact .inr ⟨g, cap, cur, hv, Nat.le_trans hb hg, r⟩

end Go.Proofs.YtnelekbaniljkaaDoor

/-
  What an argument that is a slice of strings gives to a walk.
-/
import Derived.Test.YtdklpjcboeeaoaaRows
import Derived.Test.YtdklpjcboeeaoaaL4One
import Derived.ProofKit
import Derived.OpenShut
import Derived.ShutString
import Derived.SliceStrings
namespace Go.Proofs.Ytdklpjcboeeaoaa
open Go.ChangeShapes Go.WideShapes Go.ChangeAt Go.RowKit
open Go.ChangeMaps (open_string shut_string)

/-- a slice of the texts ts -/
def Tx (w : World) (a : Option Addr) (ts : List ByteArray) : Prop := ∀ j (hj : j < ts.length), ∃ b o, a = some ⟨b, o, none⟩ ∧ b < w.heap.size ∧ w.cell? ⟨b, o + j, none⟩ = some (.string ts[j])
theorem Tx.below {w w' : World} {a : Option Addr} {ts : List ByteArray} (h : Tx w a ts) (hb : Below w.heap.size w w') : Tx w' a ts := by
  intro j hj
  obtain ⟨b, o, e, hl, hc⟩ := h j hj
  exact ⟨b, o, e, Nat.lt_of_lt_of_le hl hb.size, (hb.cell (p := ⟨b, o + j, none⟩) hl).trans hc⟩
theorem openTx {H : Type} {enc : TypeId × Value → H} {W : World} {v : Value} {x : DataW H × List MemPlace} {fuel : Nat}
    (hf : DataW.trod enc Try.prog W 0 (fun _ => true) true fuel 33 [v] = some x) : ∃ a ts c, v = .slice a ts.length c ∧ Tx W a ts ∧ ts.length ≤ 9223372036854775807 := by
  rcases open_strings Try.underlying33 Try.underlying9 (by kernel_rfl) hf with ⟨hcs, hx⟩ | ⟨x, len0, cap0, ss, hcs, _, hl, hm, hz, hx, hcell, hws⟩
  · simp at hcs
    subst hcs
    exact ⟨none, [], 0, rfl, fun j hj => (by cases hj), by simp⟩
  · simp at hcs
    subst hcs
    have hsl : ss.length = cap0 := by simpa using hz
    have hlen : (ss.take len0).length = len0 := by simp; omega
    refine ⟨some x, ss.take len0, cap0, by rw [hlen], fun j hj => ?_, ?_⟩
    · rw [hlen] at hj
      obtain ⟨b, off, spot⟩ := x
      have hc := hcell 0 (by omega)
      have hspot : spot = none := by simpa [Addr.add] using World.cell?_spot hc
      subst hspot
      refine ⟨b, off, rfl, ?_, ?_⟩
      · have hc0 : W.cell? ⟨b, off, none⟩ = some (.string (ss.getD 0 ByteArray.empty)) := by simpa [Addr.add] using hc
        rcases Nat.lt_or_ge b W.heap.size with h | h
        · exact h
        · simp only [World.cell?] at hc0
          rw [Array.getElem?_eq_none h] at hc0
          cases hc0
      · have hcj := hcell j (by omega)
        rw [Addr.add_lit] at hcj
        rw [hcj]
        have hjs : j < ss.length := by omega
        simp [List.getD, hjs]
    · unfold maxLen at hm
      omega
theorem own : ownKnob Try.prog.godebug = none := by kernel_rfl
theorem laidOut : laidOutB Try.prog = true := by kernel_rfl
end Go.Proofs.Ytdklpjcboeeaoaa

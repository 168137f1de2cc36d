/-
  What an argument that is a struct says of the length of its strings.
-/
import Derived.Test.YtbnfmaooailfeaaRows
import Derived.Test.YtbnfmaooailfeaaF5Put
import Derived.ProofKit
import Derived.OpenShut
import Derived.ShutString
import Derived.SizedLaws
import Derived.Lib.SmallJoins
import Derived.SliceStrings
import Derived.Test.YtbnfmaooailfeaaWList
namespace Go.Proofs.Ytbnfmaooailfeaa
open Go.ChangeShapes Go.WideShapes Go.ChangeAt Go.RowKit

theorem sized_agg_string {H : Type} {P : Program} {ts : List TypeId} {ds : List (DataW H)} (h : (DataW.weightsEach P ts ds).all (· ≤ reachBytes) = true) {i : Nat} {t : TypeId} {fs : Array Field} {parts : List (DataW H)} (ht : ts[i]? = some t) (hd : ds[i]? = some (.agg parts)) (hu : P.underlying t = some (.struct fs))
    {j : Nat} {u : TypeId} {bytes : List UInt8} (hj : (fs.toList.map (·.type))[j]? = some u) (hp : parts[j]? = some (.lit (.string bytes))) : bytes.length ≤ reachBytes := by
  have h1 : bytes.length ∈ DataW.weightsEach P (fs.toList.map (·.type)) parts := DataW.weights_mem_each hj hp _ (by simp [DataW.weights])
  have h2 : bytes.length ∈ (DataW.agg parts : DataW H).weights P t := by
    simp only [DataW.weights, hu]
    exact h1
  have h3 := DataW.weights_mem_each ht hd _ h2
  have := List.all_eq_true.1 h _ h3
  exact of_decide_eq_true this
theorem openStrsL {H : Type} {enc : TypeId × Value → H} {W : World} {v : Value} {x : DataW H × List MemPlace} {fuel : Nat}
    (hf : DataW.trod enc Try.prog W 0 (fun _ => true) true fuel 54 [v] = some x) : ∃ ls, Strs W v ls ∧ (ls = [] ∨ ∃ el sp, x.1 = .slice el sp ∧ el.length = ls.length) := by
  rcases open_strings Try.underlying54 Try.underlying9 (by kernel_rfl) hf with ⟨hcs, hx⟩ | ⟨x, len0, cap0, ss, hcs, _, hl, hm, hz, hx, hcell, hws⟩
  · simp at hcs
    subst hcs
    exact ⟨[], ⟨none, 0, rfl, .inl rfl⟩, .inl rfl⟩
  · simp at hcs
    subst hcs
    subst hx
    have hsl : ss.length = cap0 := by simpa using hz
    have hlen : ((ss.take len0).map fun s => s.data.toList).length = len0 := by simp; omega
    refine ⟨(ss.take len0).map fun s => s.data.toList, ⟨some x, cap0, by rw [hlen], ?_⟩, .inr ⟨_, _, rfl, by simp [strs]⟩⟩
    by_cases h0 : len0 = 0
    · left; subst h0; simp
    · right
      obtain ⟨b, off, spot⟩ := x
      have hc := hcell 0 (by omega)
      have hspot : spot = none := by simpa [Addr.add] using World.cell?_spot hc
      subst hspot
      refine ⟨b, off, rfl, ?_, fun j hj => ?_⟩
      · have hc0 : W.cell? ⟨b, off, none⟩ = some (.string (ss.getD 0 ByteArray.empty)) := by simpa [Addr.add] using hc
        rcases Nat.lt_or_ge b W.heap.size with h | h
        · exact h
        · simp only [World.cell?] at hc0
          rw [Array.getElem?_eq_none h] at hc0
          cases hc0
      · rw [hlen] at hj
        have hcj := hcell j (by omega)
        rw [Addr.add_lit] at hcj
        rw [hcj]
        have e : ((ss.take len0).map fun s => s.data.toList).getD j [] = (ss.getD j ByteArray.empty).data.toList := by
          have hjs : j < ss.length := by omega
          simp [List.getD, hj, hjs]
        rw [e, S_of]
theorem laidOut : laidOutB Try.prog = true := by kernel_rfl
theorem kind_of (a : Int) : ∃ k : UInt8, a % 256 = (k.toNat : Int) := by
  refine ⟨(a % 256).toNat.toUInt8, ?_⟩
  rw [Lib.toUInt8_toNat (by omega)]
  omega
end Go.Proofs.Ytbnfmaooailfeaa

/-
  What an argument that is a struct says of the length of its strings.
-/
import Derived.Test.YtbnfmaooailfeaaRows
import Derived.Test.YtbnfmaooailfeaaF5Put
import Derived.ProofKit
import Derived.OpenShut
import Derived.ShutString
import Derived.SizedLaws
import Derived.Lib.SmallJoins
namespace Go.Proofs.Ytbnfmaooailfeaa
open Go.ChangeShapes Go.WideShapes Go.ChangeAt Go.RowKit

theorem sized_agg_string {H : Type} {P : Program} {ts : List TypeId} {ds : List (DataW H)} (h : (DataW.weightsEach P ts ds).all (· ≤ reachBytes) = true) {i : Nat} {t : TypeId} {fs : Array Field} {parts : List (DataW H)} (ht : ts[i]? = some t) (hd : ds[i]? = some (.agg parts)) (hu : P.underlying t = some (.struct fs))
    {j : Nat} {u : TypeId} {bytes : List UInt8} (hj : (fs.toList.map (·.type))[j]? = some u) (hp : parts[j]? = some (.lit (.string bytes))) : bytes.length ≤ reachBytes := by
  have h1 : bytes.length ∈ DataW.weightsEach P (fs.toList.map (·.type)) parts := DataW.weights_mem_each hj hp _ (by simp [DataW.weights])
  have h2 : bytes.length ∈ (DataW.agg parts : DataW H).weights P t := by
    simp only [DataW.weights, hu]
    exact h1
  have h3 := DataW.weights_mem_each ht hd _ h2
  have := List.all_eq_true.1 h _ h3
  exact of_decide_eq_true this
theorem laidOut : laidOutB Try.prog = true := by kernel_rfl
theorem kind_of (a : Int) : ∃ k : UInt8, a % 256 = (k.toNat : Int) := by
  refine ⟨(a % 256).toNat.toUInt8, ?_⟩
  rw [Lib.toUInt8_toNat (by omega)]
  omega
end Go.Proofs.Ytbnfmaooailfeaa

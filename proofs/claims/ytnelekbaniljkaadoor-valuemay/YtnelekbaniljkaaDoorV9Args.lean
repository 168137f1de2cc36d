/-
  What arguments that are values and slices of variables give to a walk; what the program's variables hold, as the rows list it; the start that meets it.
-/
import Derived.Test.YtnelekbaniljkaaDoorV9Law
import Derived.Test.YtnelekbaniljkaaDoorRows
import Derived.Test.YtnelekbaniljkaaDoorTie
import Derived.Test.YtnelekbaniljkaaDoorCards
import Derived.ProofKit
import Derived.LaidMore
import Derived.OpenShut
import Derived.ShutString
import Derived.SizedLaws
import Derived.Deep.Slices
import Derived.Deep.Strs
import Derived.Stop.Joined
import Derived.Stop.LaidErr
import Derived.Lib.LaidTab
import Derived.Lib.SmallJoins
namespace Go.Proofs.YtnelekbaniljkaaDoor
open Go.ChangeShapes Go.WideShapes Go.ChangeAt Go.WideMaps Go.WideElems Go.RowKit

theorem own9 : ownKnob Tryd.prog.godebug = none := by kernel_rfl
theorem laidOut9 : laidOutB Tryd.prog = true := by kernel_rfl
def laid9 : List (String × DataW Unit) := [("math/bits.deBruijn32tab", Rows.laid_math_bits_deBruijn32tab), ("math/bits.deBruijn64tab", Rows.laid_math_bits_deBruijn64tab), ("internal/strconv.uint64pow10", Rows.laid_internal_strconv_uint64pow10)]
theorem door_met (os : Os) (args : Array Value) : laidMetH Tryd.prog laid9 ((World.doorLaid Tryd.prog 400 os).forCall (fun _ _ => 0) ⟨#[], args, []⟩).memory :=
  laidMetH_of_parts3 (fuel := 8) (laidMet_of_run' 8 (by kernel_rfl) (by kernel_rfl)) (by kernel_rfl) (by kernel_rfl)
theorem laid_plain {W : World} (h : laidMetH Tryd.prog laid9 W) : laidMet Tryd.prog laid9 W := by
  rw [MakeChecks.laidMetH_plain _ _ _ (by kernel_rfl)] at h
  exact h
theorem pow10_laid : Rows.laid_internal_strconv_uint64pow10 (H := Unit) = Lib.tabData .u64 Lib.pow10Tab := by
  unfold Rows.laid_internal_strconv_uint64pow10 Lib.tabData Lib.pow10Tab
  rfl
theorem gv_of {W : World} (h : laidMetH Tryd.prog laid9 W) : Gv W.heap.size W := by
  have h1 := (laid_plain h).tail.tail
  rw [pow10_laid] at h1
  exact Lib.tabBelow_of_tabIs (Lib.tabIs_of_head (g := 1) (t := 116) (e := 67) (n := 20) (by kernel_rfl) (by kernel_rfl) Tryd.underlying116 Tryd.underlying67 (by kernel_rfl) (by kernel_rfl) h1)
/-- the weights of one argument -/
theorem sized_at {H : Type} {P : Program} {ts : List TypeId} {ds : List (DataW H)} (h : (DataW.weightsEach P ts ds).all (· ≤ reachBytes) = true) {i : Nat} {t : TypeId} {d : DataW H} (ht : ts[i]? = some t) (hd : ds[i]? = some d) : (d.weights P t).all (· ≤ reachBytes) = true := by
  rw [List.all_eq_true] at h ⊢
  exact fun n hn => h n (DataW.weights_mem_each ht hd n hn)
theorem sized_part {H : Type} {P : Program} {ts : List TypeId} {ds : List (DataW H)} (h : (DataW.weightsEach P ts ds).all (· ≤ reachBytes) = true) {i : Nat} {t : TypeId} {fs : Array Field} {parts : List (DataW H)} (ht : ts[i]? = some t) (hd : ds[i]? = some (.agg parts)) (hu : P.underlying t = some (.struct fs))
    {j : Nat} {u : TypeId} {d : DataW H} (hj : (fs.toList.map (·.type))[j]? = some u) (hp : parts[j]? = some d) : (d.weights P u).all (· ≤ reachBytes) = true := by
  have h1 := sized_at h ht hd
  simp only [DataW.weights, hu] at h1
  exact sized_at h1 hj hp
theorem str_size {H : Type} {l : List UInt8} (h : (((.lit (.string l)) : DataW H).weights Tryd.prog 9).all (· ≤ reachBytes) = true) : l.length ≤ 140737488351232 := of_decide_eq_true (List.all_eq_true.1 h l.length (by simp [DataW.weights]))

set_option maxRecDepth 100000 in
theorem openValF {H : Type} {enc : TypeId × Value → H} {W : World} {fuel : Nat} {cs : List Value} {y : DataW H × List MemPlace} (hl : cs.length = 3)
    (h : DataW.trod enc Tryd.prog W 0 (fun _ => true) true fuel 23 cs = some y) : ∃ x : V9, cs = [.int .i64 x.1, .int .i64 x.2.1, .string (S x.2.2)] ∧ y.1 = .agg [.lit (.int .i64 x.1), .lit (.int .i64 x.2.1), .lit (.string x.2.2)] ∧ ((-9223372036854775808 ≤ x.1 ∧ x.1 ≤ 9223372036854775807) ∧ (-9223372036854775808 ≤ x.2.1 ∧ x.2.1 ≤ 9223372036854775807)) ∧ x.2.2.length ∈ y.1.weights Tryd.prog 23 := by
  have hc1 : Tryd.prog.cellsOf 3 = 1 := by kernel_rfl
  have hc2 : Tryd.prog.cellsOf 9 = 1 := by kernel_rfl
  have hc3 : Tryd.prog.cellsOf 2 = 1 := by kernel_rfl
  match cs, hl with
  | [z0, z1, z2], _ =>
    obtain ⟨y0, y1, y2, k, hD, _, t0, t1, t2⟩ := Deep.trod_struct3 Tryd.underlying23 h
    simp only [hc1, hc2, hc3, List.drop_zero, List.drop_succ_cons, List.take_succ_cons, List.take_zero] at t0 t1 t2
    obtain ⟨b0, e0, x0, w0⟩ := DataW.trod_int Tryd.underlying3 t0
    obtain ⟨b1, e1, x1, w1⟩ := DataW.trod_int Tryd.underlying2 t1
    obtain ⟨b2, e2, x2, w2⟩ := DataW.trod_string Tryd.underlying9 t2
    simp at e0 e1 e2
    subst e0 e1 e2
    have hy : y.1 = .agg [.lit (.int .i64 b0), .lit (.int .i64 b1), .lit (.string b2.data.toList)] := by
      rw [hD]; simp only; rw [x0, x1, x2]
    refine ⟨(b0, b1, b2.data.toList), by simp [S_of], hy, ⟨bounds_i64 w0, bounds_i64 w1⟩, ?_⟩
    rw [hy]
    simp [DataW.weights, Tryd.underlying23, DataW.weightsEach]

set_option maxRecDepth 100000 in
theorem openVal {H : Type} {enc : TypeId × Value → H} {W : World} {v : Value} {d : DataW H} {p : List MemPlace} {base : Nat} (hok : Value.okWide Tryd.prog W .any base 23 v)
    (h : DataW.Trod enc Tryd.prog W 0 (fun _ => true) true 23 v d p) : ∃ x : V9, v = vA x ∧ ((d.weights Tryd.prog 23).all (· ≤ reachBytes) = true → Vk x) := by
  obtain ⟨cs, rfl, hsz⟩ := okWide_struct Tryd.underlying23 hok
  have hC : Tryd.prog.cellsOf 23 = 3 := by kernel_rfl
  obtain ⟨fuel, hf⟩ := h
  obtain ⟨x, hx, hy, hb, hw⟩ := openValF (y := (d, p)) (cs := cs.toList) (by rw [Array.length_toList, hsz, hC]) hf
  refine ⟨x, ?_, fun hs => ⟨hb.1, hb.2, ?_⟩⟩
  · unfold vA
    congr 1
    apply Array.toList_inj.1
    exact hx
  · have h2 := of_decide_eq_true (List.all_eq_true.1 hs _ hw)
    simp only [reachBytes] at h2
    omega
end Go.Proofs.YtnelekbaniljkaaDoor

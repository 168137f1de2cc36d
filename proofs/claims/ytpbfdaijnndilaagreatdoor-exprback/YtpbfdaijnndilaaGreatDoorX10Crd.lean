/-
  What the program's variables hold, as the rows list it; the start that meets it; what an argument that is a process gives to a walk.
-/
import Derived.Test.YtpbfdaijnndilaaGreatDoorX10Shn
import Derived.Test.YtpbfdaijnndilaaGreatDoorRows
import Derived.Test.YtpbfdaijnndilaaGreatDoorTie
import Derived.Test.YtpbfdaijnndilaaGreatDoorCards
import Derived.ProofKit
import Derived.LaidMore
import Derived.OpenShut
import Derived.ShutString
import Derived.SizedLaws
import Derived.Deep.Slices
import Derived.Deep.Strs
import Derived.Stop.Joined
import Derived.Stop.LaidErr
import Derived.Lib.LaidTab
import Derived.Lib.SmallJoins
namespace Go.Proofs.YtpbfdaijnndilaaGreatDoor.x10
open Go.ChangeShapes Go.WideShapes Go.ChangeAt Go.WideMaps Go.WideElems Go.RowKit

theorem own10 : ownKnob Tryz.prog.godebug = none := by kernel_rfl
theorem laidOut10 : laidOutB Tryz.prog = true := by kernel_rfl
def laid7 : List (String × DataW Unit) := [("math/bits.deBruijn32tab", Rows.laid_math_bits_deBruijn32tab), ("math/bits.deBruijn64tab", Rows.laid_math_bits_deBruijn64tab), ("internal/strconv.uint64pow10", Rows.laid_internal_strconv_uint64pow10), ("strconv.ErrRange", Rows.laid_strconv_ErrRange), ("strconv.ErrSyntax", Rows.laid_strconv_ErrSyntax), ("wherry/expr.signs", Rows.laid_wherry_expr_signs), ("wherry/expr.marks", Rows.laid_wherry_expr_marks)]
theorem door_met (os : Os) (args : Array Value) : laidMetH Tryz.prog laid7 ((World.doorLaid Tryz.prog 400 os).forCall (fun _ _ => 0) ⟨#[], args, []⟩).memory :=
  laidMetH_of_parts3 (fuel := 8) (laidMet_of_run' 8 (by kernel_rfl) (by kernel_rfl)) (by kernel_rfl) (by kernel_rfl)
theorem laid_plain {W : World} (h : laidMetH Tryz.prog laid7 W) : laidMet Tryz.prog laid7 W := by
  rw [MakeChecks.laidMetH_plain _ _ _ (by kernel_rfl)] at h
  exact h
theorem star10 : "*" ++ "errors.errorString" = "*errors.errorString" := by decide
theorem rowErr (u : TypeId) (h : Tryz.prog.typeName? 3 u = some "*errors.errorString") : u = 188 :=
  typeName_ptr_named (nm := "errors.errorString") (by rw [star10]; kernel_rfl) (by kernel_rfl) (by decide) u (by rw [star10]; exact h)
/-- an array that reads as data, element by element -/
theorem trod_arr {H : Type} {enc : TypeId × Value → H} {P : Program} {w : World} {base : Nat} {sp : Nat → Bool} {held : Bool} {fuel : Nat} {t e : TypeId} {n c : Nat} {cs : List Value} {ds : List (DataW H)} {p : List MemPlace}
    (ht : P.underlying t = some (.array n e)) (hce : P.cellsOf e = c) (hct : P.cellsOf t = n * c) (h : DataW.trod enc P w base sp held fuel t cs = some (.agg ds, p)) : cs.length = n * c ∧ ∃ m, ∀ i, i < n → ∃ b, DataW.trod enc P w base sp held m e ((cs.drop (i * c)).take c) = some b ∧ ds[i]? = some b.1 := by
  cases fuel with
  | zero => simp [DataW.trod] at h
  | succ fuel =>
    simp only [DataW.trod, ht, hce, hct] at h
    split at h
    · rename_i hl
      obtain ⟨xs, hm, hx⟩ := Option.map_eq_some_iff.1 h
      have hxs : xs.map (·.1) = ds := by simpa using congrArg Prod.fst hx
      refine ⟨hl, fuel, fun i hi => ?_⟩
      obtain ⟨b, hb, hf⟩ := Lib.mapM_at hm i i (by simp [hi])
      exact ⟨b, hf, by rw [← hxs]; simp [hb]⟩
    · cases h
theorem marks_cells {enc : TypeId × Value → Unit} {W : World} {base : Nat} {sp : Nat → Bool} {held : Bool} {fuel : Nat} {cs : List Value} {p : List MemPlace} (h : DataW.trod enc Tryz.prog W base sp held fuel 148 cs = some (.agg (mks.map fun m => .lit (.string m)), p)) : cs = mksV.toList := by
  obtain ⟨hl, m, hi⟩ := trod_arr Tryz.underlying148 (c := 1) (by kernel_rfl) (by kernel_rfl) h
  apply List.ext_getElem?
  intro i
  by_cases h13 : i < 13
  · obtain ⟨b, hb, hd⟩ := hi i h13
    obtain ⟨s, hs, hx, -⟩ := DataW.trod_string Tryz.underlying9 hb
    have h1 : cs[i]? = some (.string s) := by
      have := congrArg (·[0]?) hs
      simpa [List.getElem?_take, List.getElem?_drop] using this
    rw [h1]
    rw [hx, List.getElem?_map] at hd
    obtain ⟨q, hq, hqe⟩ := Option.map_eq_some_iff.1 hd
    simp only [DataW.lit.injEq, Lit.string.injEq] at hqe
    subst hqe
    have : S s.data.toList = s := S_of s
    simp [mksV, hq, this]
  · rw [List.getElem?_eq_none (by omega), List.getElem?_eq_none (by show 13 ≤ i; omega)]
theorem signs_cells {enc : TypeId × Value → Unit} {W : World} {base : Nat} {sp : Nat → Bool} {held : Bool} {fuel : Nat} {cs : List Value} {p : List MemPlace} (h : DataW.trod enc Tryz.prog W base sp held fuel 108 cs = some (.agg (sgs.map fun q => .agg [.lit (.string q.1), .lit (.int .i64 q.2)]), p)) : cs = sgsV.toList := by
  obtain ⟨hl, m, hi⟩ := trod_arr Tryz.underlying108 (c := 2) (by kernel_rfl) (by kernel_rfl) h
  have hc1 : Tryz.prog.cellsOf 9 = 1 := by kernel_rfl
  have hc2 : Tryz.prog.cellsOf 3 = 1 := by kernel_rfl
  have key : ∀ i, i < 19 → ∃ q, sgs[i]? = some q ∧ cs[2 * i]? = some (.string (S q.1)) ∧ cs[2 * i + 1]? = some (.int .i64 q.2) := fun i h19 => by
    obtain ⟨b, hb, hd⟩ := hi i h19
    obtain ⟨y0, y1, k, hD, hlen, t0, t1⟩ := trod_struct2 Tryz.underlying107 hb
    simp only [hc1, hc2, List.drop_zero] at t0 t1
    obtain ⟨s, hs, hx, -⟩ := DataW.trod_string Tryz.underlying9 t0
    obtain ⟨z, hz, hy, -⟩ := DataW.trod_int Tryz.underlying3 t1
    have h1 : cs[2 * i]? = some (.string s) := by
      have := congrArg (·[0]?) hs
      simpa [List.getElem?_take, List.getElem?_drop, Nat.mul_comm] using this
    have h2 : cs[2 * i + 1]? = some (.int .i64 z) := by
      have := congrArg (·[0]?) hz
      simpa [List.getElem?_take, List.getElem?_drop, Nat.mul_comm] using this
    rw [hD] at hd
    simp only at hd
    rw [hx, hy, List.getElem?_map] at hd
    obtain ⟨q, hq, hqe⟩ := Option.map_eq_some_iff.1 hd
    simp only [DataW.agg.injEq, List.cons.injEq, DataW.lit.injEq, Lit.string.injEq, Lit.int.injEq, and_true, true_and] at hqe
    refine ⟨q, hq, ?_, ?_⟩
    · rw [h1, hqe.1, S_of]
    · rw [h2, hqe.2]
  apply List.ext_getElem?
  intro i
  by_cases h38 : i < 38
  · obtain ⟨q, hq, k1, k2⟩ := key (i / 2) (by omega)
    have hfl : ∀ j, j < 19 → ∀ q, sgs[j]? = some q → sgsV.toList[2 * j]? = some (.string (S q.1)) ∧ sgsV.toList[2 * j + 1]? = some (.int .i64 q.2) := by
      intro j hj q hq
      have h19 : j = 0 ∨ j = 1 ∨ j = 2 ∨ j = 3 ∨ j = 4 ∨ j = 5 ∨ j = 6 ∨ j = 7 ∨ j = 8 ∨ j = 9 ∨ j = 10 ∨ j = 11 ∨ j = 12 ∨ j = 13 ∨ j = 14 ∨ j = 15 ∨ j = 16 ∨ j = 17 ∨ j = 18 := by omega
      rcases h19 with rfl | rfl | rfl | rfl | rfl | rfl | rfl | rfl | rfl | rfl | rfl | rfl | rfl | rfl | rfl | rfl | rfl | rfl | rfl <;> (cases hq; exact ⟨rfl, rfl⟩)
    obtain ⟨f1, f2⟩ := hfl (i / 2) (by omega) q hq
    rcases Nat.mod_two_eq_zero_or_one i with e | e
    · have : i = 2 * (i / 2) := by omega
      rw [this, k1, f1]
    · have : i = 2 * (i / 2) + 1 := by omega
      rw [this, k2, f2]
  · rw [List.getElem?_eq_none (by omega), List.getElem?_eq_none (by show 38 ≤ i; omega)]
/-- a variable of data that stands first on the list -/
theorem var_head {n : String} {d : DataW Unit} {r : List (String × DataW Unit)} {W : World} {g : Nat} {t : TypeId} (h : laidMet Tryz.prog ((n, d) :: r) W) (hg : Tryz.prog.globalNamed n = some g) (ht : (Tryz.prog.globals[g]?).map (·.type) = some t) :
    ∃ (cs : Array Value) (fuel : Nat) (p : List MemPlace) (enc : TypeId × Value → Unit) (base : Nat) (sp : Nat → Bool) (held : Bool), W.var? Tryz.prog n = some cs ∧ DataW.trod enc Tryz.prog W base sp held fuel t cs.toList = some (d, p) := by
  obtain ⟨ps, ⟨g0, t0, cs0, f0, p0, q0, hg0, ht0, hv0, hd0, _, e0⟩, _, hrows⟩ := h
  obtain rfl := Option.some.inj (hg.symm.trans hg0)
  obtain rfl := Option.some.inj (ht.symm.trans ht0)
  exact ⟨cs0, f0, p0, _, _, _, _, hv0, hd0⟩
theorem signs_laid : Rows.laid_wherry_expr_signs (H := Unit) = .agg (sgs.map fun q => .agg [.lit (.string q.1), .lit (.int .i64 q.2)]) := rfl
theorem marks_laid : Rows.laid_wherry_expr_marks (H := Unit) = .agg (mks.map fun m => .lit (.string m)) := rfl
theorem gx_of {W : World} (h : laidMetH Tryz.prog laid7 W) : Gx W.heap.size W := by
  have h1 := (laid_plain h).tail.tail.tail
  have cS : Tryz.prog.cellsOf 190 = 1 := by kernel_rfl
  have c9 : Tryz.prog.cellsOf 9 = 1 := by kernel_rfl
  obtain ⟨a0, s0, hv0, _⟩ := laid_sentinel (g := 4) (ti := 137) h1 (by kernel_rfl) (by kernel_rfl) Tryz.underlying137 rowErr Tryz.underlying188 Tryz.underlying190 rfl rfl Tryz.underlying9 cS c9
  obtain ⟨a1, s1, hv1, _⟩ := laid_sentinel (g := 3) (ti := 137) h1.tail (by kernel_rfl) (by kernel_rfl) Tryz.underlying137 rowErr Tryz.underlying188 Tryz.underlying190 rfl rfl Tryz.underlying9 cS c9
  obtain ⟨cs2, f2, p2, e2, b2, sp2, hd2, hv2, ht2⟩ := var_head (g := 0) (t := 108) h1.tail.tail (by kernel_rfl) (by kernel_rfl)
  obtain ⟨cs3, f3, p3, e3, b3, sp3, hd3, hv3, ht3⟩ := var_head (g := 1) (t := 148) h1.tail.tail.tail (by kernel_rfl) (by kernel_rfl)
  rw [signs_laid] at ht2
  rw [marks_laid] at ht3
  have x2 : cs2 = sgsV := Array.toList_inj.1 (signs_cells ht2)
  have x3 : cs3 = mksV := Array.toList_inj.1 (marks_cells ht3)
  subst x2 x3
  have g0 : Tryz.prog.globalNamed "strconv.ErrRange" = some 4 := by kernel_rfl
  have g1 : Tryz.prog.globalNamed "strconv.ErrSyntax" = some 3 := by kernel_rfl
  have g2 : Tryz.prog.globalNamed "wherry/expr.signs" = some 0 := by kernel_rfl
  have g3 : Tryz.prog.globalNamed "wherry/expr.marks" = some 1 := by kernel_rfl
  exact fun W' hb => ⟨Go.Joins.var_stays g2 hv2 hb (Nat.le_refl _), Go.Joins.var_stays g3 hv3 hb (Nat.le_refl _), ⟨_, _, Go.Joins.var_stays g0 hv0 hb (Nat.le_refl _)⟩, ⟨_, _, Go.Joins.var_stays g1 hv1 hb (Nat.le_refl _)⟩⟩
theorem pow10_laid : Rows.laid_internal_strconv_uint64pow10 (H := Unit) = Lib.tabData .u64 Lib.pow10Tab := by
  unfold Rows.laid_internal_strconv_uint64pow10 Lib.tabData Lib.pow10Tab
  rfl
theorem gv_of {W : World} (h : laidMetH Tryz.prog laid7 W) : Gv W.heap.size W := by
  have h1 := (laid_plain h).tail.tail
  rw [pow10_laid] at h1
  exact Lib.tabBelow_of_tabIs (Lib.tabIs_of_head (g := 2) (t := 178) (e := 161) (n := 20) (by kernel_rfl) (by kernel_rfl) Tryz.underlying178 Tryz.underlying161 (by kernel_rfl) (by kernel_rfl) h1)
end Go.Proofs.YtpbfdaijnndilaaGreatDoor.x10

/-
  Package model: the rules of nodes.
-/
import Derived.Test.YtlmdoiagjepmbaaGreatDoorM11Plc
import Derived.Test.YtlmdoiagjepmbaaGreatDoorGExprC
import Derived.Test.YtlmdoiagjepmbaaGreatDoorX10Fue
import Derived.Maps.Own
import Derived.Deep.RegionHeld3
namespace Go.Proofs.YtlmdoiagjepmbaaGreatDoor.m11
open Go.Proofs.YtlmdoiagjepmbaaGreatDoor.x10
open Go.RowKit Go.Shelf Go.Sort
open Go.Lib hiding intOf
open Go.Maps

/-- the program's variables lie below all that is made -/
def Gg (w : World) : Prop := Gx w.heap.size w
theorem Gg.up {w w' : World} (h : Gg w) (hb : Below w.heap.size w w') : Gg w' := (Gx.below h hb).up hb.size

set_option maxHeartbeats 400000 in
theorem parses_any (s : List UInt8) {w : World} (hg : Gg w) : Calls Tryz.prog 68 #[.string (S s)] w fun e w' => e = .returned (.bool (prsB s)) ∧ Below w.heap.size w w' := by
  obtain ⟨⟨x, er, at'⟩, hr⟩ := prs_some s (n := 5000) (by omega)
  have HP : Hid (prsB s = (er == 0)) := by show _ = _; unfold prsB; rw [hr]
  have CP := Parse_any 5000 w hg (Nat.le_refl _) hr
  have HQ : Hid (∀ e w', PrP w (x, er, at') e w' → ∃ a l c, e = .returned (.tuple #[.slice a l c, .int .i64 er, .int .i64 at']) ∧ Below w.heap.size w w') := fun e w' hh => by
    obtain ⟨v, rfl, h1, h2⟩ := hh
    obtain ⟨pa, pc, rfl, -⟩ := row_slice h1
    exact ⟨_, _, _, rfl, h2⟩
  clear hr hg
  go_enter Tryz.func68, Tryz.ntmps68
  go_wp2_with (go_at_call 101; refine CP.mono ?_; rintro e w1 hh; obtain ⟨a, l, c, he, hb1⟩ := HQ.out _ _ hh; subst he; (have B1 : Hid (Below w.heap.size w w1) := hb1); clear hb1 hh CP)
  go_ret
  rw [HP.out]
  exact ⟨rfl, B1.out⟩

set_option maxHeartbeats 400000 in
theorem isNamed_any {w : World} {v : Value} {l : List Nd} (s : List UInt8) (hv : Ns w v l) (hn : l.length ≤ 4398046511104) : Calls Tryz.prog 61 #[v, .string (S s)] w fun e w' => e = .returned (.bool (l.any fun y => y.name == s)) ∧ Below w.heap.size w w' := by
  have hmf : ∀ (fn : Fn) (first cap : Array Value) (w : World), (Instr.makeFunc fn first cap).run Tryz.prog w = .ok (.func fn first cap) w := fun _ _ _ _ => rfl
  have B1 : Hid (Below w.heap.size w (w.alloc (.cells #[.string (S s)] 9))) := (Below.refl _ w).alloc (Nat.le_refl _) _
  have CC := containsFuncNode (kf := 100) (caps := #[.pointer (some ⟨w.heap.size, 0, none⟩)]) (fun y => y.name == s) (hv.up B1.out) (by omega) (enters_of Tryz.func100 (by kernel_rfl) rfl) (fun x _ W hW => named1_any x W ((hW.cell (p := ⟨w.heap.size, 0, none⟩) (by simp)).trans (World.cell?_alloc_new _ _ _ _)) (Nat.lt_of_lt_of_le (by simp) hW.size))
  obtain ⟨a, cap, rfl, -⟩ := hv
  generalize (l.any fun y => y.name == s) = r at *
  go_enter Tryz.func61, Tryz.ntmps61
  go_wp2_with (go_at_call 99; refine CC.mono ?_; rintro e w1 ⟨rfl, hb1⟩; (have B2 : Hid (Below w.heap.size w w1) := bel_of B1.out hb1 (Nat.le_refl _)); clear hb1 CC)
  go_ret
  exact ⟨rfl, B2.out⟩

/-- how a pair of bounds reads -/
def rdA (v : Value) : Option (DataW Unit × List MemPlace) := match v with
  | .agg c => (match c.toList with
    | [.int .i64 a, .int .i64 b] => some (.agg [.lit (.int .i64 a), .lit (.int .i64 b)], [])
    | _ => none)
  | _ => none
theorem rdA_inv {v : Value} {a b : Int} {ps : List MemPlace} (h : rdA v = some (.agg [.lit (.int .i64 a), .lit (.int .i64 b)], ps)) : v = .agg #[.int .i64 a, .int .i64 b] := by
  unfold rdA at h
  split at h
  · rename_i c
    split at h
    · rename_i hc
      simp only [Option.some.injEq, Prod.mk.injEq, DataW.agg.injEq, List.cons.injEq, DataW.lit.injEq, Lit.int.injEq, true_and, and_true] at h
      obtain ⟨⟨rfl, rfl⟩, -⟩ := h
      congr 1
      exact Array.toList_inj.1 hc
    · cases h
  · cases h
theorem intKey : Maps.Keyed Tryz.prog 3 := Maps.int_keyed Tryz.underlying3
def bD (a b : Int) : DataW Unit := .agg [.lit (.int .i64 a), .lit (.int .i64 b)]
def bnD : DataW Unit := (((DataW.map []).put (.int .i64 3) (bD 1 9)).put (.int .i64 7) (bD 1 1048576)).put (.int .i64 10) (bD 1 1048576)
/-- the map of bounds lies in block mb -/
def Bn (w : World) (mb : Nat) : Prop := ∃ n, w.ownsMap Tryz.prog 3 rdA mb n bnD
theorem Bn.up {w w' : World} {mb B : Nat} (h : Bn w mb) (hb : Below B w w') (hB : mb < B) : Bn w' mb := by
  obtain ⟨n, es, clock, h1, h2⟩ := h
  exact ⟨n, es, clock, (hb.block mb hB).trans h1, h2⟩
theorem wfI {k : Int} (h : -9223372036854775808 ≤ k ∧ k ≤ 9223372036854775807) : (Lit.int .i64 k).wf = true := by
  have h1 : IntKind.i64.min = -9223372036854775808 := by decide
  have h2 : IntKind.i64.max = 9223372036854775807 := by decide
  simp only [Lit.wf, h1, h2, Bool.and_eq_true, decide_eq_true_eq]
  exact h
theorem keyI {k : Int} (h : -9223372036854775808 ≤ k ∧ k ≤ 9223372036854775807) : keyOf Tryz.prog 3 (.int .i64 k) = some (.int .i64 k) := keyOf_int_mk Tryz.underlying3 (wfI h)
theorem bnD_at (k : Int) : bnD.atKey (.int .i64 k) (bD 0 0) = bD (bnd k).1 (bnd k).2 := by
  unfold bnd
  by_cases h1 : k = 3
  · subst h1; rfl
  · by_cases h2 : k = 7
    · subst h2; rfl
    · by_cases h3 : k = 10
      · subst h3; rfl
      · rw [if_neg h1, if_neg (by omega)]
        have e : bnD = .map [(.int .i64 3, bD 1 9), (.int .i64 7, bD 1 1048576), (.int .i64 10, bD 1 1048576)] := by kernel_rfl
        rw [e]
        simp [DataW.atKey, List.find?, Lit.sameKey, Ne.symm h1, Ne.symm h2, Ne.symm h3]
theorem Bn.look {w : World} {mb : Nat} (h : Bn w mb) {k : Int} (hk : -9223372036854775808 ≤ k ∧ k ≤ 9223372036854775807) : (Instr.lookup 90 (.map (some mb)) (.int .i64 k) false).run Tryz.prog w = .ok (.agg #[.int .i64 (bnd k).1, .int .i64 (bnd k).2]) w := by
  obtain ⟨n, h⟩ := h
  obtain ⟨u, ps, hrun, hR⟩ := h.lookup intKey Tryz.underlying90 (Tryz.zeroValue94 w) (zd := bD 0 0) (zp := []) rfl (keyI hk)
  rw [bnD_at] at hR
  rw [rdA_inv hR] at hrun
  exact hrun

set_option maxHeartbeats 400000 in
theorem bounds_any (w : World) : Calls Tryz.prog 58 #[] w fun e w' => ∃ mb, e = .returned (.map (some mb)) ∧ Bn w' mb ∧ mb < w'.heap.size ∧ Below w.heap.size w w' := by
  have hmm := @run_makeMap Tryz.prog
  obtain ⟨W1, r1, o1, g1⟩ := (World.ownsMap_made w Tryz.prog 3 rdA).update intKey Tryz.underlying90 (by unfold maxLen; omega) (keyI (k := 3) (by omega)) (val := .agg #[.int .i64 1, .int .i64 9]) rfl
  obtain ⟨W2, r2, o2, g2⟩ := o1.update intKey Tryz.underlying90 (by unfold maxLen; omega) (keyI (k := 7) (by omega)) (val := .agg #[.int .i64 1, .int .i64 1048576]) rfl
  obtain ⟨W3, r3, o3, g3⟩ := o2.update intKey Tryz.underlying90 (by unfold maxLen; omega) (keyI (k := 10) (by omega)) (val := .agg #[.int .i64 1, .int .i64 1048576]) rfl
  have HO : Hid (Bn W3 w.heap.size ∧ w.heap.size < W3.heap.size ∧ Below w.heap.size w W3) := by
    have hb0 : Below w.heap.size w (w.alloc (.map #[] 0)) := (Below.refl _ w).alloc (Nat.le_refl _) _
    have hb1 := hb0.grown g1 (by simp) (fun k hk => by cases hk; omega)
    have hb2 := hb1.grown g2 (by have := hb1.size; omega) (fun k hk => by cases hk; omega)
    have hb3 := hb2.grown g3 (by have := hb2.size; omega) (fun k hk => by cases hk; omega)
    have z1 := g1.size
    have z2 := g2.size
    have z3 := g3.size
    rw [World.size_alloc] at z1
    exact ⟨⟨_, o3⟩, by omega, hb3⟩
  clear o1 o2 o3 g1 g2 g3
  go_enter Tryz.func58, Tryz.ntmps58
  go_wp2
  go_ret
  exact ⟨_, rfl, HO.out⟩
end Go.Proofs.YtlmdoiagjepmbaaGreatDoor.m11

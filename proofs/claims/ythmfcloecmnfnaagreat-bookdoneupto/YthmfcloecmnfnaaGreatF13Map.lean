/-
  Package fold's effects: the map from an event's kind to what it does.
-/
import Derived.Test.YthmfcloecmnfnaaGreatF13Base
import Derived.Maps.OwnSet
namespace Go.Proofs.YthmfcloecmnfnaaGreat.f13
open Go.RowKit Go.Shelf Go.Sort
open Go.Lib hiding intOf
open Go.Maps
/-- how a function reads -/
def rdF (v : Value) : Option (DataW Unit × List MemPlace) := match v with
  | .func (.func k) e c => (if e.size = 0 ∧ c.size = 0 then some (.lit (.int .i64 (k : Int)), []) else none)
  | .nilFunc => some (.lit (.int .i64 (-1)), [])
  | _ => none
theorem rdF_inv {v : Value} {f : Nat} {ps : List MemPlace} (h : rdF v = some (.lit (.int .i64 (f : Int)), ps)) : v = .func (.func f) #[] #[] := by
  unfold rdF at h
  split at h
  · rename_i k e c
    split at h
    · rename_i hc
      simp only [Option.some.injEq, Prod.mk.injEq, DataW.lit.injEq, Lit.int.injEq, true_and] at h
      obtain ⟨h1, -⟩ := h
      have h2 : k = f := Int.ofNat_inj.1 h1
      subst h2
      rw [Array.size_eq_zero_iff.1 hc.1, Array.size_eq_zero_iff.1 hc.2]
    · cases h
  · simp only [Option.some.injEq, Prod.mk.injEq, DataW.lit.injEq, Lit.int.injEq, true_and] at h
    omega
  · cases h
theorem intKey : Maps.Keyed Tryz.prog 3 := Maps.int_keyed Tryz.underlying3
def fD (f : Nat) : DataW Unit := .lit (.int .i64 (f : Int))
def effD : DataW Unit := ((((((((((((((((((((((DataW.map []).put (.int .i64 1) (fD 58)).put (.int .i64 2) (fD 59)).put (.int .i64 3) (fD 60)).put (.int .i64 4) (fD 61)).put (.int .i64 6) (fD 62)).put (.int .i64 7) (fD 63)).put (.int .i64 8) (fD 64)).put (.int .i64 9) (fD 65)).put (.int .i64 10) (fD 66)).put (.int .i64 11) (fD 67)).put (.int .i64 12) (fD 68)).put (.int .i64 13) (fD 69)).put (.int .i64 14) (fD 70)).put (.int .i64 15) (fD 71)).put (.int .i64 16) (fD 71)).put (.int .i64 17) (fD 72)).put (.int .i64 18) (fD 73)).put (.int .i64 19) (fD 74)).put (.int .i64 20) (fD 75)).put (.int .i64 21) (fD 76)).put (.int .i64 22) (fD 77)).put (.int .i64 23) (fD 78)
theorem wfI {k : Int} (h : -9223372036854775808 ≤ k ∧ k ≤ 9223372036854775807) : (Lit.int .i64 k).wf = true := by
  have h1 : IntKind.i64.min = -9223372036854775808 := by decide
  have h2 : IntKind.i64.max = 9223372036854775807 := by decide
  simp only [Lit.wf, h1, h2, Bool.and_eq_true, decide_eq_true_eq]
  exact h
theorem keyI {k : Int} (h : -9223372036854775808 ≤ k ∧ k ≤ 9223372036854775807) : keyOf Tryz.prog 3 (.int .i64 k) = some (.int .i64 k) := keyOf_int_mk Tryz.underlying3 (wfI h)
/-- the map lies in block mb -/
def Em (w : World) (mb : Nat) : Prop := ∃ n, w.ownsMap Tryz.prog 3 rdF mb n effD
theorem Em.look {w : World} {mb : Nat} (h : Em w mb) {k : Int} (hk : -9223372036854775808 ≤ k ∧ k ≤ 9223372036854775807) (f : Nat) (hf : effD.atKey (.int .i64 k) (.lit (.int .i64 (-1))) = fD f) (hh : Maps.has effD (.int .i64 k) = true) : (Instr.lookup 129 (.map (some mb)) (.int .i64 k) true).run Tryz.prog w = .ok (.tuple #[.func (.func f) #[] #[], .bool true]) w := by
  obtain ⟨n, h⟩ := h
  obtain ⟨u, ps, hrun, hR⟩ := h.look_ok intKey Tryz.underlying129 (Tryz.zeroValue127 w) (zd := .lit (.int .i64 (-1))) (zp := []) rfl (keyI hk)
  rw [hf] at hR
  rw [rdF_inv hR, hh] at hrun
  exact hrun
set_option maxHeartbeats 4000000 in
set_option maxRecDepth 100000 in
theorem effects_any (w : World) : Calls Tryz.prog 54 #[] w fun e w' => ∃ mb, e = .returned (.map (some mb)) ∧ Em w' mb ∧ mb < w'.heap.size ∧ Below w.heap.size w w' := by
  have hmm := @run_makeMap Tryz.prog
  obtain ⟨W1, r1, o1, g1⟩ := (World.ownsMap_made w Tryz.prog 3 rdF).update intKey Tryz.underlying129 (by unfold maxLen; omega) (keyI (k := 1) (by omega)) (val := .func (.func 58) #[] #[]) rfl
  obtain ⟨W2, r2, o2, g2⟩ := o1.update intKey Tryz.underlying129 (by unfold maxLen; omega) (keyI (k := 2) (by omega)) (val := .func (.func 59) #[] #[]) rfl
  obtain ⟨W3, r3, o3, g3⟩ := o2.update intKey Tryz.underlying129 (by unfold maxLen; omega) (keyI (k := 3) (by omega)) (val := .func (.func 60) #[] #[]) rfl
  obtain ⟨W4, r4, o4, g4⟩ := o3.update intKey Tryz.underlying129 (by unfold maxLen; omega) (keyI (k := 4) (by omega)) (val := .func (.func 61) #[] #[]) rfl
  obtain ⟨W5, r5, o5, g5⟩ := o4.update intKey Tryz.underlying129 (by unfold maxLen; omega) (keyI (k := 6) (by omega)) (val := .func (.func 62) #[] #[]) rfl
  obtain ⟨W6, r6, o6, g6⟩ := o5.update intKey Tryz.underlying129 (by unfold maxLen; omega) (keyI (k := 7) (by omega)) (val := .func (.func 63) #[] #[]) rfl
  obtain ⟨W7, r7, o7, g7⟩ := o6.update intKey Tryz.underlying129 (by unfold maxLen; omega) (keyI (k := 8) (by omega)) (val := .func (.func 64) #[] #[]) rfl
  obtain ⟨W8, r8, o8, g8⟩ := o7.update intKey Tryz.underlying129 (by unfold maxLen; omega) (keyI (k := 9) (by omega)) (val := .func (.func 65) #[] #[]) rfl
  obtain ⟨W9, r9, o9, g9⟩ := o8.update intKey Tryz.underlying129 (by unfold maxLen; omega) (keyI (k := 10) (by omega)) (val := .func (.func 66) #[] #[]) rfl
  obtain ⟨W10, r10, o10, g10⟩ := o9.update intKey Tryz.underlying129 (by unfold maxLen; omega) (keyI (k := 11) (by omega)) (val := .func (.func 67) #[] #[]) rfl
  obtain ⟨W11, r11, o11, g11⟩ := o10.update intKey Tryz.underlying129 (by unfold maxLen; omega) (keyI (k := 12) (by omega)) (val := .func (.func 68) #[] #[]) rfl
  obtain ⟨W12, r12, o12, g12⟩ := o11.update intKey Tryz.underlying129 (by unfold maxLen; omega) (keyI (k := 13) (by omega)) (val := .func (.func 69) #[] #[]) rfl
  obtain ⟨W13, r13, o13, g13⟩ := o12.update intKey Tryz.underlying129 (by unfold maxLen; omega) (keyI (k := 14) (by omega)) (val := .func (.func 70) #[] #[]) rfl
  obtain ⟨W14, r14, o14, g14⟩ := o13.update intKey Tryz.underlying129 (by unfold maxLen; omega) (keyI (k := 15) (by omega)) (val := .func (.func 71) #[] #[]) rfl
  obtain ⟨W15, r15, o15, g15⟩ := o14.update intKey Tryz.underlying129 (by unfold maxLen; omega) (keyI (k := 16) (by omega)) (val := .func (.func 71) #[] #[]) rfl
  obtain ⟨W16, r16, o16, g16⟩ := o15.update intKey Tryz.underlying129 (by unfold maxLen; omega) (keyI (k := 17) (by omega)) (val := .func (.func 72) #[] #[]) rfl
  obtain ⟨W17, r17, o17, g17⟩ := o16.update intKey Tryz.underlying129 (by unfold maxLen; omega) (keyI (k := 18) (by omega)) (val := .func (.func 73) #[] #[]) rfl
  obtain ⟨W18, r18, o18, g18⟩ := o17.update intKey Tryz.underlying129 (by unfold maxLen; omega) (keyI (k := 19) (by omega)) (val := .func (.func 74) #[] #[]) rfl
  obtain ⟨W19, r19, o19, g19⟩ := o18.update intKey Tryz.underlying129 (by unfold maxLen; omega) (keyI (k := 20) (by omega)) (val := .func (.func 75) #[] #[]) rfl
  obtain ⟨W20, r20, o20, g20⟩ := o19.update intKey Tryz.underlying129 (by unfold maxLen; omega) (keyI (k := 21) (by omega)) (val := .func (.func 76) #[] #[]) rfl
  obtain ⟨W21, r21, o21, g21⟩ := o20.update intKey Tryz.underlying129 (by unfold maxLen; omega) (keyI (k := 22) (by omega)) (val := .func (.func 77) #[] #[]) rfl
  obtain ⟨W22, r22, o22, g22⟩ := o21.update intKey Tryz.underlying129 (by unfold maxLen; omega) (keyI (k := 23) (by omega)) (val := .func (.func 78) #[] #[]) rfl
  have HO : Hid (Em W22 w.heap.size ∧ w.heap.size < W22.heap.size ∧ Below w.heap.size w W22) := by
    have hb0 : Below w.heap.size w (w.alloc (.map #[] 0)) := (Below.refl _ w).alloc (Nat.le_refl _) _
    have z0 : (w.alloc (.map #[] 0)).heap.size = w.heap.size + 1 := by simp
    have hb1 := hb0.grown g1 (by have := hb0.size; omega) (fun k hk => by cases hk; omega)
    have z1 := g1.size
    have hb2 := hb1.grown g2 (by have := hb1.size; omega) (fun k hk => by cases hk; omega)
    have z2 := g2.size
    have hb3 := hb2.grown g3 (by have := hb2.size; omega) (fun k hk => by cases hk; omega)
    have z3 := g3.size
    have hb4 := hb3.grown g4 (by have := hb3.size; omega) (fun k hk => by cases hk; omega)
    have z4 := g4.size
    have hb5 := hb4.grown g5 (by have := hb4.size; omega) (fun k hk => by cases hk; omega)
    have z5 := g5.size
    have hb6 := hb5.grown g6 (by have := hb5.size; omega) (fun k hk => by cases hk; omega)
    have z6 := g6.size
    have hb7 := hb6.grown g7 (by have := hb6.size; omega) (fun k hk => by cases hk; omega)
    have z7 := g7.size
    have hb8 := hb7.grown g8 (by have := hb7.size; omega) (fun k hk => by cases hk; omega)
    have z8 := g8.size
    have hb9 := hb8.grown g9 (by have := hb8.size; omega) (fun k hk => by cases hk; omega)
    have z9 := g9.size
    have hb10 := hb9.grown g10 (by have := hb9.size; omega) (fun k hk => by cases hk; omega)
    have z10 := g10.size
    have hb11 := hb10.grown g11 (by have := hb10.size; omega) (fun k hk => by cases hk; omega)
    have z11 := g11.size
    have hb12 := hb11.grown g12 (by have := hb11.size; omega) (fun k hk => by cases hk; omega)
    have z12 := g12.size
    have hb13 := hb12.grown g13 (by have := hb12.size; omega) (fun k hk => by cases hk; omega)
    have z13 := g13.size
    have hb14 := hb13.grown g14 (by have := hb13.size; omega) (fun k hk => by cases hk; omega)
    have z14 := g14.size
    have hb15 := hb14.grown g15 (by have := hb14.size; omega) (fun k hk => by cases hk; omega)
    have z15 := g15.size
    have hb16 := hb15.grown g16 (by have := hb15.size; omega) (fun k hk => by cases hk; omega)
    have z16 := g16.size
    have hb17 := hb16.grown g17 (by have := hb16.size; omega) (fun k hk => by cases hk; omega)
    have z17 := g17.size
    have hb18 := hb17.grown g18 (by have := hb17.size; omega) (fun k hk => by cases hk; omega)
    have z18 := g18.size
    have hb19 := hb18.grown g19 (by have := hb18.size; omega) (fun k hk => by cases hk; omega)
    have z19 := g19.size
    have hb20 := hb19.grown g20 (by have := hb19.size; omega) (fun k hk => by cases hk; omega)
    have z20 := g20.size
    have hb21 := hb20.grown g21 (by have := hb20.size; omega) (fun k hk => by cases hk; omega)
    have z21 := g21.size
    have hb22 := hb21.grown g22 (by have := hb21.size; omega) (fun k hk => by cases hk; omega)
    have z22 := g22.size
    exact ⟨⟨_, o22⟩, by omega, hb22⟩
  clear o1 g1 o2 g2 o3 g3 o4 g4 o5 g5 o6 g6 o7 g7 o8 g8 o9 g9 o10 g10 o11 g11 o12 g12 o13 g13 o14 g14 o15 g15 o16 g16 o17 g17 o18 g18 o19 g19 o20 g20 o21 g21 o22 g22
  go_enter Tryz.func54, Tryz.ntmps54
  go_wp2
  go_ret
  exact ⟨_, rfl, HO.out⟩
end Go.Proofs.YthmfcloecmnfnaaGreat.f13

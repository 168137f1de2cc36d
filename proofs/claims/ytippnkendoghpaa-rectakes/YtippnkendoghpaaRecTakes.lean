/-
  Whatever bytes there are, package rec's Take tells the record that they are, or that they are none, as the document's does; the input reads as it did. For every input.
-/
import Derived.Test.YtippnkendoghpaaR12Two
import Derived.Test.YtippnkendoghpaaR12Dta
import Derived.Test.YtippnkendoghpaaR12Arg
namespace Go.Proofs.Ytippnkendoghpaa.recTakes
open Go.Proofs.Ytippnkendoghpaa.r12
open Go.ChangeShapes Go.WideShapes Go.ChangeAt Go.WideMaps Go.WideElems Go.RowKit Go.Shelf Go.Sort
open Go.Lib hiding intOf
open Go.ChangeMaps (open_string shut_string)

set_option maxHeartbeats 4000000 in
set_option maxRecDepth 100000 in
theorem walkY {s : List UInt8} {r : R12} (hs : s.length ≤ 140737488355328) (hi : Is s r) (w : World) : Calls Try.prog 4 #[.string (S s)] w fun e w' => e = .returned (.bool true) ∧ Below w.heap.size w w' := by
  have CT : ∀ W, Calls Try.prog 15 #[.string (S s)] W fun e w' => ∃ va vl vc, e = .returned (.tuple #[rV r (.slice va vl vc), .int .i64 0]) ∧ Vs w' (.slice va vl vc) r.v ∧ Below W.heap.size W w' := fun W => (r12.Take_any hs W).mono fun e w' hh => by
    rcases hh.1 with ⟨q, va, vl, vc, h1, h2, h3⟩ | ⟨h1, -⟩
    · obtain rfl := h1.one hi
      exact ⟨va, vl, vc, h2, h3, hh.2⟩
    · exact absurd hi (h1 r)
  have CD : ∀ W, Calls Try.prog 16 #[.string (S s)] W fun e w' => ∃ va vl vc, e = .returned (.tuple #[rV r (.slice va vl vc), .int .i64 0]) ∧ Vs w' (.slice va vl vc) r.v ∧ Below W.heap.size W w' := fun W => (dTake_rec hs W).mono fun e w' hh => by
    rcases hh.1 with ⟨q, va, vl, vc, h1, h2, h3⟩ | ⟨h1, -⟩
    · obtain rfl := h1.one hi
      exact ⟨va, vl, vc, h2, h3, hh.2⟩
    · exact absurd hi (h1 r)
  have HS : Hid (∀ W vv uu, Vs W vv r.v → Vs W uu r.v → Calls Try.prog 14 #[rV r vv, rV r uu] W fun e w' => e = .returned (.bool true) ∧ Below W.heap.size W w') := fun W vv uu h1 h2 => dSame_any h1 h2 hi.k.vl hi.k.vl true ⟨fun _ => rfl, fun _ => rfl⟩
  clear hs hi
  obtain ⟨cl, kd, fr, tm, k1, k2, k3, n, m, a, b, c, l⟩ := r
  unfold rV rC at CT CD HS
  simp only at CT CD HS
  go_enter Try.func4, Try.ntmps4
  go_wp2_with (first
    | (go_at_call 8; refine (shown_any _).mono ?_; rintro e w1 ⟨rfl, b1⟩; (have B1 : Hid (Below w.heap.size w w1) := b1); clear b1)
    | (go_at_call 15; refine (CT _).mono ?_; rintro e w2 ⟨va, vl, vc, rfl, v2, b2⟩; (have B2 : Hid (Below w.heap.size w w2) := bel_of B1.out b2 (Nat.le_refl _)); (have V2 : Hid (Vs w2 (.slice va vl vc) l) := v2); clear b2 v2 CT B1)
    | (go_at_call 16; refine (CD _).mono ?_; rintro e w3 ⟨va', vl', vc', rfl, v3, b3⟩; (have R2 : Rx (w2.alloc (.cells #[.int .i64 cl, .int .i64 kd, .int .u64 (fr : Int), .int .i64 tm, .int .u64 (k1 : Int), .int .u64 (k2 : Int), .int .u64 (k3 : Int), .int .i64 n, .int .i64 m, .string (S a), .string (S b), .string (S c), .slice va vl vc] 25)) w2.heap.size #[.int .i64 cl, .int .i64 kd, .int .u64 (fr : Int), .int .i64 tm, .int .u64 (k1 : Int), .int .u64 (k2 : Int), .int .u64 (k3 : Int), .int .i64 n, .int .i64 m, .string (S a), .string (S b), .string (S c), .slice va vl vc] := Rx.new _ _); (have hb2 : Below w2.heap.size w2 (w2.alloc (.cells #[.int .i64 cl, .int .i64 kd, .int .u64 (fr : Int), .int .i64 tm, .int .u64 (k1 : Int), .int .u64 (k2 : Int), .int .u64 (k3 : Int), .int .i64 n, .int .i64 m, .string (S a), .string (S b), .string (S c), .slice va vl vc] 25)) := (Below.refl _ _).alloc (Nat.le_refl _) _); (have R3 := R2.up b3); (have c0 := R3.cell (k := 0) (v := .int .i64 cl) rfl); (have c1 := R3.cell (k := 1) (v := .int .i64 kd) rfl); (have c2 := R3.cell (k := 2) (v := .int .u64 (fr : Int)) rfl); (have c3 := R3.cell (k := 3) (v := .int .i64 tm) rfl); (have c4 := R3.cell (k := 4) (v := .int .u64 (k1 : Int)) rfl); (have c5 := R3.cell (k := 5) (v := .int .u64 (k2 : Int)) rfl); (have c6 := R3.cell (k := 6) (v := .int .u64 (k3 : Int)) rfl); (have c7 := R3.cell (k := 7) (v := .int .i64 n) rfl); (have c8 := R3.cell (k := 8) (v := .int .i64 m) rfl); (have c9 := R3.cell (k := 9) (v := .string (S a)) rfl); (have c10 := R3.cell (k := 10) (v := .string (S b)) rfl); (have c11 := R3.cell (k := 11) (v := .string (S c)) rfl); (have c12 := R3.cell (k := 12) (v := .slice va vl vc) rfl); (have hz3 : w2.heap.size < w3.heap.size := R3.lt); (have B3 : Hid (Below w.heap.size w w3) := bel_of (bel_of B2.out hb2 (Nat.le_refl _)) b3 (Nat.le_refl _)); (have V3 : Hid (Vs w3 (.slice va vl vc) l ∧ Vs w3 (.slice va' vl' vc') l) := ⟨(V2.out.up hb2).up b3, v3⟩); clear R2 R3 hb2 b3 v3 CD B2 V2)
    | (go_at_call 14; refine (HS.out _ _ _ (V3.out.1.up ((Below.refl _ _).alloc (Nat.le_refl _) _)) (V3.out.2.up ((Below.refl _ _).alloc (Nat.le_refl _) _))).mono ?_; rintro e w4 ⟨rfl, b4⟩; (have B4 : Hid (Below w.heap.size w w4) := bel_of (B3.out.alloc B3.out.size _) b4 (Nat.le_refl _)); clear b4))
  go_ret
  exact ⟨rfl, B4.out⟩

set_option maxHeartbeats 4000000 in
set_option maxRecDepth 100000 in
theorem walkN {s : List UInt8} (hs : s.length ≤ 140737488355328) (hi : ∀ r, ¬ Is s r) (w : World) : Calls Try.prog 4 #[.string (S s)] w fun e w' => e = .returned (.bool true) ∧ Below w.heap.size w w' := by
  have CT : ∀ W, Calls Try.prog 15 #[.string (S s)] W fun e w' => e = .returned (.tuple #[rV r0 (.slice none 0 0), .int .i64 3]) ∧ Below W.heap.size W w' := fun W => (r12.Take_any hs W).mono fun e w' hh => by
    rcases hh.1 with ⟨q, va, vl, vc, h1, h2, h3⟩ | ⟨-, h2⟩
    · exact absurd h1 (hi q)
    · exact ⟨h2, hh.2⟩
  have CD : ∀ W, Calls Try.prog 16 #[.string (S s)] W fun e w' => e = .returned (.tuple #[rV r0 (.slice none 0 0), .int .i64 3]) ∧ Below W.heap.size W w' := fun W => (dTake_rec hs W).mono fun e w' hh => by
    rcases hh.1 with ⟨q, va, vl, vc, h1, h2, h3⟩ | ⟨-, h2⟩
    · exact absurd h1 (hi q)
    · exact ⟨h2, hh.2⟩
  have CS : ∀ W, Calls Try.prog 14 #[rV r0 (.slice none 0 0), rV r0 (.slice none 0 0)] W fun e w' => e = .returned (.bool true) ∧ Below W.heap.size W w' := fun W => dSame_any (Vs.nil W) (Vs.nil W) r0_k.vl r0_k.vl true ⟨fun _ => rfl, fun _ => rfl⟩
  have e0 : rV r0 (.slice none 0 0) = .agg #[.int .i64 0, .int .i64 0, .int .u64 0, .int .i64 0, .int .u64 0, .int .u64 0, .int .u64 0, .int .i64 0, .int .i64 0, .string ⟨#[]⟩, .string ⟨#[]⟩, .string ⟨#[]⟩, .slice none 0 0] := rfl
  rw [e0] at CT CD CS
  clear e0 hs hi
  go_enter Try.func4, Try.ntmps4
  go_wp2_with (first
    | (go_at_call 8; refine (shown_any _).mono ?_; rintro e w1 ⟨rfl, b1⟩; (have B1 : Hid (Below w.heap.size w w1) := b1); clear b1)
    | (go_at_call 15; refine (CT _).mono ?_; rintro e w2 ⟨rfl, b2⟩; (have B2 : Hid (Below w.heap.size w w2) := bel_of B1.out b2 (Nat.le_refl _)); clear b2 CT B1)
    | (go_at_call 16; refine (CD _).mono ?_; rintro e w3 ⟨rfl, b3⟩; (have R2 : Rx (w2.alloc (.cells #[.int .i64 0, .int .i64 0, .int .u64 0, .int .i64 0, .int .u64 0, .int .u64 0, .int .u64 0, .int .i64 0, .int .i64 0, .string ⟨#[]⟩, .string ⟨#[]⟩, .string ⟨#[]⟩, .slice none 0 0] 25)) w2.heap.size #[.int .i64 0, .int .i64 0, .int .u64 0, .int .i64 0, .int .u64 0, .int .u64 0, .int .u64 0, .int .i64 0, .int .i64 0, .string ⟨#[]⟩, .string ⟨#[]⟩, .string ⟨#[]⟩, .slice none 0 0] := Rx.new _ _); (have hb2 : Below w2.heap.size w2 (w2.alloc (.cells #[.int .i64 0, .int .i64 0, .int .u64 0, .int .i64 0, .int .u64 0, .int .u64 0, .int .u64 0, .int .i64 0, .int .i64 0, .string ⟨#[]⟩, .string ⟨#[]⟩, .string ⟨#[]⟩, .slice none 0 0] 25)) := (Below.refl _ _).alloc (Nat.le_refl _) _); (have R3 := R2.up b3); (have c0 := R3.cell (k := 0) (v := .int .i64 0) rfl); (have c1 := R3.cell (k := 1) (v := .int .i64 0) rfl); (have c2 := R3.cell (k := 2) (v := .int .u64 0) rfl); (have c3 := R3.cell (k := 3) (v := .int .i64 0) rfl); (have c4 := R3.cell (k := 4) (v := .int .u64 0) rfl); (have c5 := R3.cell (k := 5) (v := .int .u64 0) rfl); (have c6 := R3.cell (k := 6) (v := .int .u64 0) rfl); (have c7 := R3.cell (k := 7) (v := .int .i64 0) rfl); (have c8 := R3.cell (k := 8) (v := .int .i64 0) rfl); (have c9 := R3.cell (k := 9) (v := .string ⟨#[]⟩) rfl); (have c10 := R3.cell (k := 10) (v := .string ⟨#[]⟩) rfl); (have c11 := R3.cell (k := 11) (v := .string ⟨#[]⟩) rfl); (have c12 := R3.cell (k := 12) (v := .slice none 0 0) rfl); (have hz3 : w2.heap.size < w3.heap.size := R3.lt); (have B3 : Hid (Below w.heap.size w w3) := bel_of (bel_of B2.out hb2 (Nat.le_refl _)) b3 (Nat.le_refl _)); clear R2 R3 hb2 b3 CD B2)
    | (go_at_call 14; refine (CS _).mono ?_; rintro e w4 ⟨rfl, b4⟩; (have B4 : Hid (Below w.heap.size w w4) := bel_of (B3.out.alloc B3.out.size _) b4 (Nat.le_refl _)); clear b4))
  go_ret
  exact ⟨rfl, B4.out⟩
theorem walk {s : List UInt8} (hs : s.length ≤ 140737488355328) (w : World) : Calls Try.prog 4 #[.string (S s)] w fun e w' => e = .returned (.bool true) ∧ Below w.heap.size w w' := by
  by_cases h : ∃ r, Is s r
  · obtain ⟨r, hr⟩ := h
    exact walkY hs hr w
  · exact walkN hs (fun r hr => h ⟨r, hr⟩) w

set_option maxRecDepth 100000 in
theorem lifted (os : Os) (started : os.Started) (H : Type) (enc : TypeId × Value → H) :
    ReturnsInHanded {} Try.checked os 4 .any (Rows.recTakesSpec.pre6 enc Try.prog Try.f4 Rows.recTakesRow.domain false) (Rows.recTakesSpec.post enc Try.prog Try.f4 false true false false) := by
  refine returnsInHanded_of_change_sized (C := Try.checked) own12 started (by kernel_rfl) Try.func4
    (ChangeSpec.witness6 (enc := enc) (C := Try.checked) false ⟨#[], #[.string .empty], []⟩ 8 (by kernel_rfl) (by kernel_rfl) (by kernel_rfl) (by kernel_rfl)) ?_
  intro W base args ds gs before hval0 hW hcnd hsz0 _
  have hval : ∀ (j : Nat) t v, Try.f4.params[j]? = some t → args[j]? = some v → Value.okWide Try.prog W .any base t v := hval0
  have hsz : (DataW.weightsEach Try.prog (Try.f4.params.toList ++ Rows.recTakesSpec.plain.varTypes Try.prog) (ds ++ gs)).all (· ≤ reachBytes) = true := hsz0
  have hW' := hW
  obtain ⟨p, q, hA0, hV, rfl, hfz, hnd⟩ := hW
  have hA : DataW.TrodAll enc Try.prog W 0 (fun _ => true) true Try.f4.params.toList args.toList ds p := hA0
  rw [Try.params4] at hA hval hsz
  obtain ⟨v0, vs0, d0, ds0, p0, q0, hargs, rfl, rfl, h0, r0⟩ := trodAll_cons hA
  obtain ⟨rfl, rfl, rfl⟩ := trodAll_nil r0
  obtain rfl : args = #[v0] := by cases args; simp_all
  obtain ⟨rfl, rfl⟩ := trodVars_none hV
  obtain ⟨a0, rfl, rfl, rfl, w0⟩ := open_string Try.underlying9 (hval 0 9 v0 rfl rfl) h0
  have hl0 : a0.data.toList.length ≤ 140737488355328 := by
    have h2 := str_size (sized_at hsz (i := 0) (t := 9) (d := .lit (.string a0.data.toList)) rfl rfl)
    omega
  clear hA0 hval0
  have hwk := walk hl0 W
  rw [S_of] at hwk
  refine hwk.mono fun e W' ⟨he, bel⟩ => ?_
  subst he
  exact ⟨_, rfl, _, _, _, [], _, [], hW', trodAll_mk1 (shut_bool Try.underlying4 _), (trodAll_cons_mk (shut_string Try.underlying9 w0) trodAll_mk0), rfl, bel.frame _, fun h => by cases h⟩

theorem proved : Rows.RecTakesSaid :=
  OpenClaim.holds_of_wide 4 Try.f4 rfl rfl rfl rfl rfl rfl rfl ⟨rfl, rfl, rfl, rfl, rfl⟩ rfl rfl rfl rfl rfl (by kernel_rfl) Try.func4 (by kernel_rfl)
    (of_decide_eq_true (by kernel_rfl)) (by unfold Func.isWrapper; first | (rw [if_pos (by decide +kernel)]; kernel_rfl) | (rw [if_neg (by decide +kernel)]; exact ⟨rfl, rfl⟩))
    (fun os started H enc _ => lifted os started H enc)
end Go.Proofs.Ytippnkendoghpaa.recTakes

/-
  Proved: for every three values ValueOrder answers true, and changes nothing that was there before the call: of two values at most one is less, neither only if they are the same, and what is less than what is less is less. The program's own tables are as its text lays them (the card's tie).
-/
import Derived.Test.YtaahmnkfjkbliaaDoorV9Ord
namespace Go.Proofs.YtaahmnkfjkbliaaDoor.valueOrder
open Go.RowKit Go.Shelf Go.Sort
open Go.Lib hiding intOf

set_option maxHeartbeats 4000000 in
set_option maxRecDepth 100000 in
theorem walk (a b c : V9) {w : World} (hg : Gv w.heap.size w) : Calls Tryd.prog 7 #[vA a, vA b, vA c] w fun e w' => e = .returned (.bool true) ∧ Below w.heap.size w w' := by
  have CX := lesV_any a b
  have CY := lesV_any b a
  have CZ := lesV_any b c
  have CU := lesV_any a c
  have hcs : (a = b ∧ lesV a b = false ∧ lesV b a = false) ∨ (a ≠ b ∧ lesV a b = false ∧ lesV b a = true) ∨ (a ≠ b ∧ lesV a b = true ∧ lesV b a = false ∧ (lesV b c = false ∨ lesV b c = true ∧ lesV a c = true)) := by
    cases h1 : lesV a b with
    | true =>
      have hne : a ≠ b := by rintro rfl; rw [les_irrefl] at h1; cases h1
      refine .inr (.inr ⟨hne, rfl, les_asymm h1, ?_⟩)
      cases h2 : lesV b c with
      | false => exact .inl rfl
      | true => exact .inr ⟨rfl, les_trans h1 h2⟩
    | false =>
      cases h2 : lesV b a with
      | true => exact .inr (.inl ⟨(by rintro rfl; rw [les_irrefl] at h2; cases h2), rfl, rfl⟩)
      | false => exact .inl ⟨les_total h1 h2, rfl, rfl⟩
  generalize lesV a b = x at *
  generalize lesV b a = y at *
  generalize lesV b c = z at *
  generalize lesV a c = u at *
  obtain ⟨a1, a2, a3⟩ := a
  obtain ⟨b1, b2, b3⟩ := b
  obtain ⟨c1, c2, c3⟩ := c
  have B0 : Hid (Below w.heap.size w (((w.alloc (.cells #[.int .i64 a1, .int .i64 a2, .string (S a3)] 23)).alloc (.cells #[.int .i64 b1, .int .i64 b2, .string (S b3)] 23)).alloc (.cells #[.int .i64 c1, .int .i64 c2, .string (S c3)] 23))) := (((Below.refl _ w).alloc (Nat.le_refl _) _).alloc (by simp) _).alloc (by simp; omega) _
  have CS := shown9_any (hg.below B0.out) B0.out.size
  have HX : Hid (∀ W, Below (((w.alloc (.cells #[.int .i64 a1, .int .i64 a2, .string (S a3)] 23)).alloc (.cells #[.int .i64 b1, .int .i64 b2, .string (S b3)] 23)).alloc (.cells #[.int .i64 c1, .int .i64 c2, .string (S c3)] 23)).heap.size (((w.alloc (.cells #[.int .i64 a1, .int .i64 a2, .string (S a3)] 23)).alloc (.cells #[.int .i64 b1, .int .i64 b2, .string (S b3)] 23)).alloc (.cells #[.int .i64 c1, .int .i64 c2, .string (S c3)] 23)) W → _) := fun W hW => box3 (n := w.heap.size) rfl hW
  unfold vA at CX CY CZ CU ⊢
  clear hg
  rcases hcs with ⟨he, rfl, rfl⟩ | ⟨hne, rfl, rfl⟩ | ⟨hne, rfl, rfl, hz⟩
  · simp only [Prod.mk.injEq] at he
    obtain ⟨rfl, rfl, rfl⟩ := he
    go_enter Tryd.func7, Tryd.ntmps7
    go_wp2_with (first
      | (go_at_call 9; refine CS.mono ?_; rintro e w1 ⟨rfl, b1'⟩; (have B1 : Hid (Below _ _ w1) := b1'); obtain ⟨p1, p2, p3⟩ := HX.out w1 B1.out; clear b1' CS)
      | (go_at_call 22; refine (CX _).mono ?_; rintro e w2 ⟨rfl, b2'⟩; (have B2 : Hid (Below _ _ w2) := bel_of B1.out b2' (Nat.le_refl _)); clear p1 p2 p3; obtain ⟨p1, p2, p3⟩ := HX.out w2 B2.out; clear b2' CX)
      | (go_at_call 22; refine (CY _).mono ?_; rintro e w3 ⟨rfl, b3'⟩; (have B3 : Hid (Below _ _ w3) := bel_of B2.out b3' (Nat.le_refl _)); clear p1 p2 p3; obtain ⟨p1, p2, p3⟩ := HX.out w3 B3.out; clear b3' CY)
      | (go_at_call 22; refine (CZ _).mono ?_; rintro e w4 ⟨rfl, b4'⟩; (have B4 : Hid (Below _ _ w4) := bel_of B3.out b4' (Nat.le_refl _)); clear p1 p2 p3; obtain ⟨p1, p2, p3⟩ := HX.out w4 B4.out; clear b4' CZ)
      | (go_at_call 22; refine (CU _).mono ?_; rintro e w5 ⟨rfl, b5'⟩; (have B5 : Hid (Below _ _ w5) := bel_of B4.out b5' (Nat.le_refl _)); clear p1 p2 p3; obtain ⟨p1, p2, p3⟩ := HX.out w5 B5.out; clear b5' CU))
    go_ret
    exact ⟨rfl, bel_of B0.out B5.out (Nat.le_refl _)⟩
  · have hd := ne_ways hne
    clear hne
    rcases hd with d1 | ⟨d1, d2⟩ | ⟨d1, d2, d3⟩
    all_goals
      go_enter Tryd.func7, Tryd.ntmps7
      go_wp2_with (first
        | (go_at_call 9; refine CS.mono ?_; rintro e w1 ⟨rfl, b1'⟩; (have B1 : Hid (Below _ _ w1) := b1'); obtain ⟨p1, p2, p3⟩ := HX.out w1 B1.out; clear b1' CS)
        | (go_at_call 22; refine (CX _).mono ?_; rintro e w2 ⟨rfl, b2'⟩; (have B2 : Hid (Below _ _ w2) := bel_of B1.out b2' (Nat.le_refl _)); clear p1 p2 p3; obtain ⟨p1, p2, p3⟩ := HX.out w2 B2.out; clear b2' CX)
        | (go_at_call 22; refine (CY _).mono ?_; rintro e w3 ⟨rfl, b3'⟩; (have B3 : Hid (Below _ _ w3) := bel_of B2.out b3' (Nat.le_refl _)); clear p1 p2 p3; obtain ⟨p1, p2, p3⟩ := HX.out w3 B3.out; clear b3' CY)
        | (go_at_call 22; refine (CZ _).mono ?_; rintro e w4 ⟨rfl, b4'⟩; (have B4 : Hid (Below _ _ w4) := bel_of B3.out b4' (Nat.le_refl _)); clear p1 p2 p3; obtain ⟨p1, p2, p3⟩ := HX.out w4 B4.out; clear b4' CZ)
        | (go_at_call 22; refine (CU _).mono ?_; rintro e w5 ⟨rfl, b5'⟩; (have B5 : Hid (Below _ _ w5) := bel_of B4.out b5' (Nat.le_refl _)); clear p1 p2 p3; obtain ⟨p1, p2, p3⟩ := HX.out w5 B5.out; clear b5' CU))
      go_ret
      exact ⟨rfl, bel_of B0.out B5.out (Nat.le_refl _)⟩
  · have hd := ne_ways hne
    clear hne
    rcases hd with d1 | ⟨d1, d2⟩ | ⟨d1, d2, d3⟩ <;> rcases hz with rfl | ⟨rfl, rfl⟩
    all_goals
      go_enter Tryd.func7, Tryd.ntmps7
      go_wp2_with (first
        | (go_at_call 9; refine CS.mono ?_; rintro e w1 ⟨rfl, b1'⟩; (have B1 : Hid (Below _ _ w1) := b1'); obtain ⟨p1, p2, p3⟩ := HX.out w1 B1.out; clear b1' CS)
        | (go_at_call 22; refine (CX _).mono ?_; rintro e w2 ⟨rfl, b2'⟩; (have B2 : Hid (Below _ _ w2) := bel_of B1.out b2' (Nat.le_refl _)); clear p1 p2 p3; obtain ⟨p1, p2, p3⟩ := HX.out w2 B2.out; clear b2' CX)
        | (go_at_call 22; refine (CY _).mono ?_; rintro e w3 ⟨rfl, b3'⟩; (have B3 : Hid (Below _ _ w3) := bel_of B2.out b3' (Nat.le_refl _)); clear p1 p2 p3; obtain ⟨p1, p2, p3⟩ := HX.out w3 B3.out; clear b3' CY)
        | (go_at_call 22; refine (CZ _).mono ?_; rintro e w4 ⟨rfl, b4'⟩; (have B4 : Hid (Below _ _ w4) := bel_of B3.out b4' (Nat.le_refl _)); clear p1 p2 p3; obtain ⟨p1, p2, p3⟩ := HX.out w4 B4.out; clear b4' CZ)
        | (go_at_call 22; refine (CU _).mono ?_; rintro e w5 ⟨rfl, b5'⟩; (have B5 : Hid (Below _ _ w5) := bel_of B4.out b5' (Nat.le_refl _)); clear p1 p2 p3; obtain ⟨p1, p2, p3⟩ := HX.out w5 B5.out; clear b5' CU))
      go_ret
      exact ⟨rfl, bel_of B0.out B5.out (Nat.le_refl _)⟩

open Go.ChangeShapes Go.WideShapes Go.ChangeAt Go.WideMaps Go.WideElems in
set_option maxRecDepth 100000 in
theorem lifted (os : Os) (started : os.Started) (H : Type) (enc : TypeId × Value → H) :
    ReturnsInHanded {} Tryd.checked os 7 .any (fun w args => (Rows.valueOrderSpec.pre enc Tryd.prog Tryd.f7 [] false w args ∧ laidMetH Tryd.prog laid9 w) ∧ sizedMet enc Tryd.prog Tryd.f7 (OpenSpec.ofChange Rows.valueOrderSpec) false w args)
      (Rows.valueOrderSpec.post enc Tryd.prog Tryd.f7 false true false false) := by
  refine returnsInHanded_of_change_and (C := Tryd.checked) (X := fun w _ => laidMetH Tryd.prog laid9 w) (fun _ _ _ hh h => h.of_heap hh) own9 started (by kernel_rfl) Tryd.func7
    (ChangeSpec.witness_shaped (enc := enc) (C := Tryd.checked) (os := os) (X := fun w _ => laidMetH Tryd.prog laid9 w) false (World.doorLaid Tryd.prog 400 os) #[.agg #[.int .i64 0, .int .i64 0, .string .empty], .agg #[.int .i64 0, .int .i64 0, .string .empty], .agg #[.int .i64 0, .int .i64 0, .string .empty]] 8 rfl (World.shaped_of_RefB (by kernel_rfl) (by kernel_rfl)) (by kernel_rfl) (by kernel_rfl) (by kernel_rfl) (door_met os _)) ?_
  intro W base args ds gs before hval0 hW hcnd hsz0 hL _
  have hval : ∀ (j : Nat) t v, Tryd.f7.params[j]? = some t → args[j]? = some v → Value.okWide Tryd.prog W .any base t v := hval0
  have hW' := hW
  obtain ⟨p, q, hA0, hV, rfl, hfz, hnd⟩ := hW
  have hA : DataW.TrodAll enc Tryd.prog W 0 (fun _ => true) true Tryd.f7.params.toList args.toList ds p := hA0
  rw [Tryd.params7] at hA hval
  obtain ⟨v0, vs0, d0, ds0, p0, q0, hargs, rfl, rfl, h0, r0⟩ := trodAll_cons hA
  obtain ⟨v1, vs1, d1, ds1, p1, q1, rfl, rfl, rfl, h1, r1⟩ := trodAll_cons r0
  obtain ⟨v2, vs2, d2, ds2, p2, q2, rfl, rfl, rfl, h2, r2⟩ := trodAll_cons r1
  obtain ⟨rfl, rfl, rfl⟩ := trodAll_nil r2
  obtain rfl : args = #[v0, v1, v2] := by cases args; simp_all
  obtain ⟨rfl, rfl⟩ := trodVars_none hV
  have lt0 : ∀ x ∈ p0, x.block < W.heap.size := by obtain ⟨m, hm⟩ := h0; exact DataW.trod_lt m _ _ _ hm
  have lt1 : ∀ x ∈ p1, x.block < W.heap.size := by obtain ⟨m, hm⟩ := h1; exact DataW.trod_lt m _ _ _ hm
  have lt2 : ∀ x ∈ p2, x.block < W.heap.size := by obtain ⟨m, hm⟩ := h2; exact DataW.trod_lt m _ _ _ hm
  obtain ⟨x0, rfl, -⟩ := openVal (hval 0 23 v0 rfl rfl) h0
  obtain ⟨x1, rfl, -⟩ := openVal (hval 1 23 v1 rfl rfl) h1
  obtain ⟨x2, rfl, -⟩ := openVal (hval 2 23 v2 rfl rfl) h2
  clear hA0 hval0
  refine (walk x0 x1 x2 (gv_of hL)).mono fun e W' ⟨he, bel⟩ => ?_
  subst he
  exact ⟨_, rfl, _, _, _, [], _, [], hW', trodAll_mk1 (shut_bool Tryd.underlying4 _), (trodAll_cons_mk (Below.trod laidOut9 (by kernel_rfl) (of_decide_eq_true (by kernel_rfl)) h0 bel lt0) (trodAll_cons_mk (Below.trod laidOut9 (by kernel_rfl) (of_decide_eq_true (by kernel_rfl)) h1 bel lt1) (trodAll_cons_mk (Below.trod laidOut9 (by kernel_rfl) (of_decide_eq_true (by kernel_rfl)) h2 bel lt2) trodAll_mk0))), rfl, bel.frame _, fun h => by cases h⟩
theorem said : Rows.ValueOrderSaid :=
  OpenClaim.holds_of_wide 7 Tryd.f7 rfl rfl rfl rfl rfl rfl rfl ⟨rfl, rfl, rfl, rfl, rfl⟩ rfl rfl rfl rfl rfl (by kernel_rfl) Tryd.func7 (by kernel_rfl)
    (of_decide_eq_true (by kernel_rfl)) (by unfold Func.isWrapper; first | (rw [if_pos (by decide +kernel)]; kernel_rfl) | (rw [if_neg (by decide +kernel)]; exact ⟨rfl, rfl⟩))
    (fun os started H enc _ => lifted os started H enc)
theorem proved : Rows.ValueOrderCardSaid :=
  Claim7.holds_tied_plain_at .later [] [.data, .data, .data] true (true, "56e91a075cffa44262a3916c20c4f80ca298e481936aacf4d9325e14358247f9") false
    said (fun _ h => by cases h) (by kernel_rfl) (fun _ h => by cases h) valueOrder_row_tie rfl ⟨rfl, rfl⟩ (by kernel_rfl) rfl
    (fun f fn hf hfn => by
      obtain rfl : f = 7 := Option.some.inj ((show Tryd.prog.funcNamed "wherry/wherrylaw09.ValueOrder" = some 7 by kernel_rfl).symm.trans hf) |>.symm
      obtain rfl : fn = Tryd.f7 := (Option.some.inj (Tryd.func7.symm.trans hfn)).symm
      exact ⟨by kernel_rfl, fun j t ht => by
        rw [Tryd.params7] at ht
        have hm : t ∈ [23, 23, 23] := by simpa using Array.mem_of_getElem? ht
        have hall : ([23, 23, 23].all fun u => !Tryd.prog.wantsStandIn u) = true := by kernel_rfl
        exact (show Tryd.prog.wantsStandIn t = false by simpa using List.all_eq_true.1 hall t hm)⟩)
    (by kernel_rfl)
end Go.Proofs.YtaahmnkfjkbliaaDoor.valueOrder

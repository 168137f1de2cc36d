/-
  Proved: for every bytes ModelTakes answers true, and changes nothing that was there before the call: the process that package model's Take takes of them, or why there is none, is the document's. The program's own tables are as its text lays them (the card's tie).
-/
import Derived.Test.YtedohcapkmnkiaaGreatDoorM11Shn
import Derived.Test.YtedohcapkmnkiaaGreatDoorM11Arg
import Derived.Test.YtedohcapkmnkiaaGreatDoorM11Dt
namespace Go.Proofs.YtedohcapkmnkiaaGreatDoor.modelTakes
open Go.Proofs.YtedohcapkmnkiaaGreatDoor.x10 hiding bel_of
open Go.Proofs.YtedohcapkmnkiaaGreatDoor.m11
open Go.RowKit Go.Shelf Go.Sort
open Go.Lib hiding intOf

theorem tk_small (l : List UInt8) : (tkP l).1.nodes.length ≤ 40 ∧ (tkP l).1.flows.length ≤ 80 := by
  rw [← dkP_eq]
  have lp : ∀ {α : Type} (f : Ds → α × Ds) (n : Nat) (d : Ds), (dLoop f n d).1.length ≤ n := by
    intro α f n
    induction n with
    | zero => intro d; simp [dLoop]
    | succ n ih =>
      intro d
      by_cases h : d.2 = 0
      · rw [dLoop_go h]
        simp only [List.length_cons]
        have := ih (f d).2
        omega
      · rw [dLoop_stop h]; simp
  unfold dkP
  split
  · simp [p0]
  · split
    · simp [p0]
    · refine ⟨?_, ?_⟩
      · unfold dProc
        simp only
        exact Nat.le_trans (lp _ _ _) (dCnt_le 40 _).2
      · unfold dProc
        simp only
        exact Nat.le_trans (lp _ _ _) (dCnt_le 80 _).2
set_option maxRecDepth 100000 in
set_option maxHeartbeats 4000000 in
theorem walk {w : World} (l : List UInt8) (hl : l.length ≤ 140737488355328) (hg : Gg w) : Calls Tryz.prog 3 #[.string (S l)] w fun e w' => e = .returned (.bool true) ∧ Below w.heap.size w w' := by
  have CH := shown_any hg
  have CT : ∀ W, Calls Tryz.prog 5 #[.string (S l)] W (TkR W (tkP l)) := fun W => Take_any l hl W
  have CD : ∀ W, Calls Tryz.prog 6 #[.string (S l)] W (TkR W (tkP l)) := fun W => by rw [← dkP_eq]; exact dTake_any l W
  have hsm := tk_small l
  obtain ⟨P, er, hP⟩ : ∃ P er, tkP l = (P, er) := ⟨_, _, rfl⟩
  rw [hP] at CT CD hsm
  have HS : Hid (∀ W n1 f1 n2 f2, Po W n1 f1 P → Po W n2 f2 P → Calls Tryz.prog 7 #[pV P.id n1 f1, pV P.id n2 f2] W fun e w' => e = .returned (.bool true) ∧ Below W.heap.size W w') := fun W n1 f1 n2 f2 h1 h2 => Same_eq h1 h2 (by have := hsm.1; simp only at this; omega) (by have := hsm.2; simp only at this; omega)
  unfold TkR at CT CD
  unfold pV at HS
  simp only at CT CD
  clear hsm hP hg hl
  go_enter Tryz.func3, Tryz.ntmps3
  go_wp2_with (first
    | (go_at_call 4; refine CH.mono ?_; rintro e w1 ⟨rfl, b1⟩; (have B1 : Hid (Below w.heap.size w w1) := b1); clear b1 CH)
    | (go_at_call 5; refine (CT _).mono ?_; rintro e w2 ⟨na, nc, fa, fc, rfl, v2, b2⟩; (have B2 : Hid (Below w.heap.size w w2) := bel_of B1.out b2 (Nat.le_refl _)); (have V2 : Hid (Po w2 (.slice na P.nodes.length nc) (.slice fa P.flows.length fc) P) := v2); clear b2 v2 CT B1)
    | (go_at_call 6; refine (CD _).mono ?_; rintro e w3 ⟨ma, mc, ga, gc, rfl, v3, b3⟩; (have hb2 : Below w2.heap.size w2 (w2.alloc (.cells #[.string (S P.id), .slice na P.nodes.length nc, .slice fa P.flows.length fc] 26)) := (Below.refl _ _).alloc (Nat.le_refl _) _); (have hR2 : Bo 26 (w2.alloc (.cells #[.string (S P.id), .slice na P.nodes.length nc, .slice fa P.flows.length fc] 26)) w2.heap.size #[.string (S P.id), .slice na P.nodes.length nc, .slice fa P.flows.length fc] := Array.getElem?_push_size); (have R3 : Bo 26 w3 w2.heap.size #[.string (S P.id), .slice na P.nodes.length nc, .slice fa P.flows.length fc] := (b3.block _ hR2.lt).trans hR2); (have c0 : w3.cell? ⟨w2.heap.size, 0, none⟩ = some (.string (S P.id)) := R3.c 0); (have c1 : w3.cell? ⟨w2.heap.size, 1, none⟩ = some (.slice na P.nodes.length nc) := R3.c 1); (have c2 : w3.cell? ⟨w2.heap.size, 2, none⟩ = some (.slice fa P.flows.length fc) := R3.c 2); (have hz3 : w2.heap.size < w3.heap.size := R3.lt); (have B3 : Hid (Below w.heap.size w w3) := bel_of (bel_of B2.out hb2 (Nat.le_refl _)) b3 (Nat.le_refl _)); (have V3 : Hid (Po w3 (.slice na P.nodes.length nc) (.slice fa P.flows.length fc) P ∧ Po w3 (.slice ma P.nodes.length mc) (.slice ga P.flows.length gc) P) := ⟨(V2.out.up hb2).up b3, v3⟩); clear hR2 R3 hb2 b3 v3 CD B2 V2)
    | (go_at_call 7; refine (HS.out _ _ _ _ _ (V3.out.1.up ((Below.refl _ _).alloc (Nat.le_refl _) _)) (V3.out.2.up ((Below.refl _ _).alloc (Nat.le_refl _) _))).mono ?_; rintro e w4 ⟨rfl, b4⟩; (have B4 : Hid (Below w.heap.size w w4) := bel_of (B3.out.alloc B3.out.size _) b4 (Nat.le_refl _)); clear b4))
  go_ret
  exact ⟨rfl, B4.out⟩

open Go.ChangeShapes Go.WideShapes Go.ChangeAt Go.WideMaps Go.WideElems in
set_option maxRecDepth 100000 in
theorem lifted (os : Os) (started : os.Started) (H : Type) (enc : TypeId × Value → H) :
    ReturnsInHanded {} Tryz.checked os 3 .any (fun w args => (Rows.modelTakesSpec.pre enc Tryz.prog Tryz.f3 [] false w args ∧ laidMetH Tryz.prog laid7 w) ∧ sizedMet enc Tryz.prog Tryz.f3 (OpenSpec.ofChange Rows.modelTakesSpec) false w args)
      (Rows.modelTakesSpec.post enc Tryz.prog Tryz.f3 false true false false) := by
  refine returnsInHanded_of_change_and (C := Tryz.checked) (X := fun w _ => laidMetH Tryz.prog laid7 w) (fun _ _ _ hh h => h.of_heap hh) own11 started (by kernel_rfl) Tryz.func3
    (ChangeSpec.witness_shaped (enc := enc) (C := Tryz.checked) (os := os) (X := fun w _ => laidMetH Tryz.prog laid7 w) false (World.doorLaid Tryz.prog 400 os) #[.string .empty] 8 rfl (World.shaped_of_RefB (by kernel_rfl) (by kernel_rfl)) (by kernel_rfl) (by kernel_rfl) (by kernel_rfl) (door_met os _)) ?_
  intro W base args ds gs before hval0 hW hcnd hsz0 hL _
  have hval : ∀ (j : Nat) t v, Tryz.f3.params[j]? = some t → args[j]? = some v → Value.okWide Tryz.prog W .any base t v := hval0
  have hW' := hW
  obtain ⟨p, q, hA0, hV, rfl, hfz, hnd⟩ := hW
  have hA : DataW.TrodAll enc Tryz.prog W 0 (fun _ => true) true Tryz.f3.params.toList args.toList ds p := hA0
  have hsz : (DataW.weightsEach Tryz.prog (Tryz.f3.params.toList ++ Rows.modelTakesSpec.plain.varTypes Tryz.prog) (ds ++ gs)).all (· ≤ reachBytes) = true := hsz0
  rw [Tryz.params3] at hA hval hsz
  obtain ⟨v0, vs0, d0, ds0, p0, q0, hargs, rfl, rfl, h0, r0⟩ := trodAll_cons hA
  obtain ⟨rfl, rfl, rfl⟩ := trodAll_nil r0
  obtain rfl : args = #[v0] := by cases args; simp_all
  obtain ⟨rfl, rfl⟩ := trodVars_none hV
  have lt0 : ∀ x ∈ p0, x.block < W.heap.size := by obtain ⟨m, hm⟩ := h0; exact DataW.trod_lt m _ _ _ hm
  obtain ⟨s1, rfl, rfl, rfl, w1⟩ := Go.ChangeMaps.open_string Tryz.underlying9 (hval 0 9 v0 rfl rfl) h0
  have z1 := str_size (sized_at hsz (i := 0) rfl rfl)
  clear hA0 hval0
  have hwk := walk s1.data.toList (by omega) (gg_of hL)
  rw [S_of] at hwk
  refine hwk.mono fun e W' ⟨he, bel⟩ => ?_
  subst he
  exact ⟨_, rfl, _, _, _, [], _, [], hW', trodAll_mk1 (shut_bool Tryz.underlying4 _), (trodAll_cons_mk (Below.trod laidOut11 (by kernel_rfl) (of_decide_eq_true (by kernel_rfl)) h0 bel lt0) trodAll_mk0), rfl, bel.frame _, fun h => by cases h⟩
theorem said : Rows.ModelTakesSaid :=
  OpenClaim.holds_of_wide 3 Tryz.f3 rfl rfl rfl rfl rfl rfl rfl ⟨rfl, rfl, rfl, rfl, rfl⟩ rfl rfl rfl rfl rfl (by kernel_rfl) Tryz.func3 (by kernel_rfl)
    (of_decide_eq_true (by kernel_rfl)) (by unfold Func.isWrapper; first | (rw [if_pos (by decide +kernel)]; kernel_rfl) | (rw [if_neg (by decide +kernel)]; exact ⟨rfl, rfl⟩))
    (fun os started H enc _ => lifted os started H enc)
theorem proved : Rows.ModelTakesCardSaid :=
  Claim7.holds_tied_plain_at .later [] [.data, .data, .data, .sentinel, .sentinel, .data, .data] true (true, "cdd51340031ad8f748d5084bc13cc5242e6e4e140dccba0eb1cce7ced828675c") true
    said (fun _ h => by cases h) (by kernel_rfl) (fun _ h => by cases h) modelTakes_row_tie rfl ⟨rfl, rfl⟩ (by kernel_rfl) rfl
    (fun f fn hf hfn => by
      obtain rfl : f = 3 := Option.some.inj ((show Tryz.prog.funcNamed "wherry/wherrylaw11.ModelTakes" = some 3 by kernel_rfl).symm.trans hf) |>.symm
      obtain rfl : fn = Tryz.f3 := (Option.some.inj (Tryz.func3.symm.trans hfn)).symm
      exact ⟨by kernel_rfl, fun j t ht => by
        rw [Tryz.params3] at ht
        have hm : t ∈ [9] := by simpa using Array.mem_of_getElem? ht
        have hall : ([9].all fun u => !Tryz.prog.wantsStandIn u) = true := by kernel_rfl
        exact (show Tryz.prog.wantsStandIn t = false by simpa using List.all_eq_true.1 hall t hm)⟩)
    (by kernel_rfl)
end Go.Proofs.YtedohcapkmnkiaaGreatDoor.modelTakes

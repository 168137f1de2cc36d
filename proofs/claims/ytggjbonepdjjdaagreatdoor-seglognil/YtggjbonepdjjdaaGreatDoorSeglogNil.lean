/-
  For every number: a log that is nil says so, and a disk that is nil. (What the program's own variables hold at the start is as the program's text lays it.)
-/
import Derived.Test.YtggjbonepdjjdaaGreatDoorG6Nil
import Derived.Test.YtggjbonepdjjdaaGreatDoorG6Card
namespace Go.Proofs.YtggjbonepdjjdaaGreatDoor.seglogNil
open Go.RowKit Go.Shelf Go.Sort Go.Proofs.YtggjbonepdjjdaaGreatDoor
open Go.Lib hiding intOf
attribute [local go_sem] Oper.semAt_some

theorem logNil (W : World) : (binOp .eql 28 (.pointer none) (.pointer none)).run Tryz.prog W = .ok (.bool true) W := by kernel_rfl
set_option maxRecDepth 100000 in
set_option maxHeartbeats 8000000 in
theorem walk (n : Int) (w : World) (hv : Gv w.heap.size w) : Calls Tryz.prog 7 #[.int .u64 n] w fun r w' => r = .returned (.bool true) ∧ Below w.heap.size w w' := by
  have hS := shown6_any w hv
  have hq := logNil
  clear hv
  refine (callsIn_wide (n := 9)).1 ?_
  refine callsIn_of_wp_marks Tryz.func7 rfl trivial ?_ rfl
  simp only [Tryz.ntmps7, List.size_toArray, List.length_cons, List.length_nil, Nat.reduceAdd, Nat.reduceSub, Array.replicate_succ, Array.replicate_zero, List.push_toArray, List.append_toArray, List.nil_append, List.cons_append]
  gi_wp2_with (first
    | (refine ⟨trivial, ?_⟩; gi_at_call 9; refine (callsIn_wide.2 hS).mono ?_; rintro e w1 ⟨rfl, B1⟩; have HB : Hid (Below w.heap.size w w1) := B1; clear B1 hS)
    | (refine ⟨trivial, ?_⟩; gi_at_call 27; refine (callsIn_wide.2 (gAppend_nil _ _)).mono ?_; rintro e w2 ⟨rfl, rfl⟩)
    | (refine ⟨trivial, ?_⟩; gi_at_call 28; refine (callsIn_wide.2 (gFlush_nil _)).mono ?_; rintro e w2 ⟨rfl, rfl⟩)
    | (refine ⟨trivial, ?_⟩; gi_at_call 32; refine (callsIn_wide.2 (gRead_nil _ _)).mono ?_; rintro e w2 ⟨rfl, rfl⟩)
    | (refine ⟨trivial, ?_⟩; gi_at_call 30; refine (callsIn_wide.2 (gDrop_nil _ _)).mono ?_; rintro e w2 ⟨rfl, rfl⟩)
    | (refine ⟨trivial, ?_⟩; gi_at_call 12; refine (callsIn_wide.2 (Open_nil _ _ _)).mono ?_; rintro e w2 ⟨rfl, rfl⟩))
  refine ⟨trivial, ?_⟩
  obtain ⟨W3, hW3⟩ : ∃ W3, W3 = (w1.alloc (.cells #[.string ⟨#[97]⟩] 9)).alloc (.cells #[.int .i64 0] 3) := ⟨_, rfl⟩
  have hs3 : W3.heap.size = w1.heap.size + 1 + 1 := by rw [hW3]; simp
  have b3 : Bx W3 (w1.heap.size + 1) (.int .i64 0) 3 := by
    rw [hW3]
    have := Bx.new (w1.alloc (.cells #[.string ⟨#[97]⟩] 9)) (.int .i64 0) 3
    rwa [World.size_alloc] at this
  have hB3 : Below w.heap.size w W3 := by rw [hW3]; exact (HB.out.alloc HB.out.size _).alloc (by simp; have := HB.out.size; omega) _
  rw [← hW3]
  refine (callsIn_wide.2 (From_mk none n W3)).mono ?_
  rintro e w5 ⟨rfl, k2, k3, hB5, hs5⟩
  have hS5 := fromN_sq (b3 := W3.heap.size + 1) k2
  rw [hs3] at hS5
  have b5 := b3.below hB5 b3.lt
  have hBw5 : Below w.heap.size w w5 := hB3.trans (hB5.mono hB3.size)
  have hw1 := HB.out.size
  clear k2 k3 hB3 hB5 b3 hW3
  gi_wp2
  refine range_sq2 (r1 := 42) (r2 := 43) (e1 := encE1) (e2 := encE2) rfl hS5
    (fun s pre W => Bx W (w1.heap.size + 1) (.int .i64 0) 3 ∧ Below w.heap.size w W)
    (fun _ _ _ _ => False)
    ?hI ?hIx ?start ?assign ?body ?done ?stop
  case hI =>
    rintro s pre A B ⟨h1, h2⟩ hs
    exact ⟨hs.bx h1 (.inl (by omega)), hs.below h2 (Nat.le_refl _) (by omega)⟩
  case hIx => rintro s c pre A B h; exact h.elim
  case start =>
    intro W0 hB h0
    exact ⟨b5.below hB b5.lt, hBw5.trans (hB.mono hBw5.size)⟩
  case assign =>
    intro mm l' x W K hK
    gi_wp2
    exact hK
  case stop => rintro s c pre W h; exact h.elim
  case body =>
    rintro mm l' s pre x Wp W ⟨h1, h2⟩ hsb hnx
    have := hnx.length_le
    simp at this
  case done =>
    rintro s W ⟨h1, h2⟩ hD
    rw [hs5, hs3] at hD
    have c1 := h1.cell
    have HB6 : Hid (Below w.heap.size w W) := h2
    clear h2
    gi_wp2_with (first
      | (refine ⟨trivial, ?_⟩; gi_at_call 18; refine (callsIn_wide.2 (gFirst_nil _)).mono ?_; rintro e w2 ⟨rfl, rfl⟩)
      | (refine ⟨trivial, ?_⟩; gi_at_call 20; refine (callsIn_wide.2 (gNext_nil _)).mono ?_; rintro e w2 ⟨rfl, rfl⟩)
      | (refine ⟨trivial, ?_⟩; gi_at_call 21; refine (callsIn_wide.2 (gSure_nil _)).mono ?_; rintro e w2 ⟨rfl, rfl⟩))
    refine ⟨by simp, .inl ⟨_, _, rfl, takes hD, ?_⟩⟩
    exact ⟨_, results_tmp rfl _ _ _, rfl, below_take HB6.out (Nat.le_refl _) (by omega) _⟩

open Go.ChangeShapes Go.WideShapes Go.ChangeAt Go.WideMaps Go.WideElems in
set_option maxRecDepth 100000 in
theorem lifted (os : Os) (started : os.Started) (H : Type) (enc : TypeId × Value → H) :
    ReturnsInHanded {} Tryz.checked os 7 .any (fun w args => (Rows.seglogNilSpec.pre enc Tryz.prog Tryz.f7 [] false w args ∧ laidMetH Tryz.prog laid5 w) ∧ sizedMet enc Tryz.prog Tryz.f7 (OpenSpec.ofChange Rows.seglogNilSpec) false w args)
      (Rows.seglogNilSpec.post enc Tryz.prog Tryz.f7 false true false false) := by
  refine returnsInHanded_of_change_and (C := Tryz.checked) (X := fun w _ => laidMetH Tryz.prog laid5 w) (fun _ _ _ hh h => h.of_heap hh) own6 started (by kernel_rfl) Tryz.func7
    (ChangeSpec.witness_shaped (enc := enc) (C := Tryz.checked) (os := os) (X := fun w _ => laidMetH Tryz.prog laid5 w) false (World.doorLaid Tryz.prog 400 os) #[.int .u64 0] 8 rfl (World.shaped_of_RefB (by kernel_rfl) (by kernel_rfl)) (by kernel_rfl) (by kernel_rfl) (by kernel_rfl) (door_met os _)) ?_
  intro W base args ds gs before hval0 hW _ _ hL _
  have hval : ∀ (j : Nat) t v, Tryz.f7.params[j]? = some t → args[j]? = some v → Value.okWide Tryz.prog W .any base t v := hval0
  have hW' := hW
  obtain ⟨p, q, hA0, hV, rfl, hfz, hnd⟩ := hW
  have hA : DataW.TrodAll enc Tryz.prog W 0 (fun _ => true) true Tryz.f7.params.toList args.toList ds p := hA0
  rw [Tryz.params7] at hA hval
  obtain ⟨v0, vs0, d0, ds0, p0, q0, hargs, rfl, rfl, h0, r0⟩ := trodAll_cons hA
  obtain ⟨rfl, rfl, rfl⟩ := trodAll_nil r0
  obtain rfl : args = #[v0] := by cases args; simp_all
  obtain ⟨rfl, rfl⟩ := trodVars_none hV
  obtain ⟨a0, rfl, rfl, rfl, w0⟩ := open_int Tryz.underlying36 (hval 0 36 v0 rfl rfl) h0
  clear hA0 hval0
  refine (walk a0 W (gv_of hL)).mono fun e W' ⟨he, bel⟩ => ?_
  subst he
  exact ⟨_, rfl, _, _, _, [], _, [], hW', trodAll_mk1 (shut_bool Tryz.underlying4 _), (trodAll_cons_mk (shut_int Tryz.underlying36 w0) trodAll_mk0), rfl, bel.frame _, fun h => by cases h⟩
theorem said : Rows.SeglogNilSaid :=
  OpenClaim.holds_of_wide 7 Tryz.f7 rfl rfl rfl rfl rfl rfl rfl ⟨rfl, rfl, rfl, rfl, rfl⟩ rfl rfl rfl rfl rfl (by kernel_rfl) Tryz.func7 (by kernel_rfl)
    (of_decide_eq_true (by kernel_rfl)) (by unfold Func.isWrapper; first | (rw [if_pos (by decide +kernel)]; kernel_rfl) | (rw [if_neg (by decide +kernel)]; exact ⟨rfl, rfl⟩))
    (fun os started H enc _ => lifted os started H enc)
theorem proved : Rows.SeglogNilCardSaid :=
  Claim7.holds_tied_plain_at .later [] [.data, .data, .data, .sentinel, .sentinel] true (true, "65ec0acd9b8d2047447ff68180561059e21d4ea64fe7dd9f6a03af7811de51ad") true
    said (fun _ h => by cases h) (by kernel_rfl) (fun _ h => by cases h) seglogNil_row_tie rfl ⟨rfl, rfl⟩ (by kernel_rfl) rfl
    (fun f fn hf hfn => by
      obtain rfl : f = 7 := Option.some.inj ((show Tryz.prog.funcNamed "wherry/wherrylaw06.SeglogNil" = some 7 by kernel_rfl).symm.trans hf) |>.symm
      obtain rfl : fn = Tryz.f7 := (Option.some.inj (Tryz.func7.symm.trans hfn)).symm
      exact ⟨by kernel_rfl, fun j t ht => by
        rw [Tryz.params7] at ht
        have hm : t ∈ [36] := by simpa using Array.mem_of_getElem? ht
        have hall : ([36].all fun u => !Tryz.prog.wantsStandIn u) = true := by kernel_rfl
        exact (show Tryz.prog.wantsStandIn t = false by simpa using List.all_eq_true.1 hall t hm)⟩)
    (by kernel_rfl)
end Go.Proofs.YtggjbonepdjjdaaGreatDoor.seglogNil

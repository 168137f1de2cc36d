/-
  Proved: for every text ValueTakes answers true, and changes nothing that was there before the call: whatever bytes there are, the value, or the variables, that begin them are taken as the document says. The program's own tables are as its text lays them (the card's tie).
-/
import Derived.Test.YtaahmnkfjkbliaaDoorV9Args
import Derived.Test.YtaahmnkfjkbliaaDoorV9Dtv
namespace Go.Proofs.YtaahmnkfjkbliaaDoor.valueTakes
open Go.RowKit Go.Shelf Go.Sort
open Go.Lib hiding intOf

set_option maxHeartbeats 400000 in
theorem read9 (l : List UInt8) (w : World) : Calls Tryd.prog 25 #[.string (S l)] w fun r w' => r = .returned (.pointer (some ⟨w.heap.size, 0, none⟩)) ∧ Rd w' w.heap.size l 0 ∧ Below w.heap.size w w' ∧ w'.heap.size = w.heap.size + 1 := by
  go_enter Tryd.func25, Tryd.ntmps25
  go_wp2
  go_ret
  exact ⟨rfl, ⟨by go_simp, by go_simp, by go_simp, by go_simp, by simp⟩, (Below.refl _ _).alloc (Nat.le_refl _) _, by simp⟩
theorem rd_new (l : List UInt8) (w : World) : Rd (w.alloc (.cells #[.string (S l), .int .i64 0] 42)) w.heap.size l 0 := ⟨by go_simp, by go_simp, by go_simp, by go_simp, by simp⟩
theorem tk_len {l : List UInt8} {L : List Vr} (h : tkL l = some L) : L.length ≤ 16 := by
  unfold tkL at h
  split at h
  · split at h
    · split at h
      · rename_i hr; cases h; exact (rgt_iff.1 hr).1
      · cases h
    · cases h
  · cases h
theorem tl_len (l : List UInt8) : (tlR l).1.length ≤ 16 := by
  unfold tlR
  cases h : tkL l with
  | none => simp
  | some L => exact tk_len h

set_option maxHeartbeats 4000000 in
set_option maxRecDepth 100000 in
theorem walk (l : List UInt8) (hl : l.length ≤ 140737488355328) {w : World} (hg : Gv w.heap.size w) : Calls Tryd.prog 4 #[.string (S l)] w fun e w' => e = .returned (.bool true) ∧ Below w.heap.size w w' := by
  have CS := shown9_any hg (Nat.le_refl _)
  obtain ⟨x, kb, hx⟩ : ∃ x kb, tkR l 0 = (x, kb) := ⟨(tkR l 0).1, (tkR l 0).2, rfl⟩
  have HK : Hid (∀ W b e w', TkP W b l 0 e w' → e = .returned (.tuple #[vA x, .bool kb]) ∧ But b W w') := fun W b e w' hh => by
    unfold TkP at hh
    rw [hx] at hh
    exact ⟨hh.1, hh.2.1⟩
  have hLL := tl_len l
  obtain ⟨L, lb, hL⟩ : ∃ L lb, tlR l = (L, lb) := ⟨(tlR l).1, (tlR l).2, rfl⟩
  have HL : Hid (∀ W b e w', TlP W b l e w' → ∃ v', e = .returned (.tuple #[v', .bool lb]) ∧ Vs w' v' L ∧ But b W w') := fun W b e w' hh => by
    unfold TlP at hh
    rw [hL] at hh
    exact hh
  rw [hL] at hLL
  simp only at hLL
  have HSM : Hid (∀ W a b, Vs W a L → Vs W b L → Calls Tryd.prog 29 #[a, b] W fun e w' => e = .returned (.bool true) ∧ Below W.heap.size W w') := fun W a b ha hb => by
    have := Same9_any ha hb (by omega) (by omega)
    rwa [decide_eq_true rfl] at this
  have HT1 : Hid (∀ W b, Rd W b l 0 → Calls Tryd.prog 24 #[.pointer (some ⟨b, 0, none⟩)] W (TkP W b l 0)) := fun W b h => Take_any h hl
  have HT2 : Hid (∀ W b, Rd W b l 0 → Calls Tryd.prog 26 #[.pointer (some ⟨b, 0, none⟩)] W (TkP W b l 0)) := fun W b h => dTake_any h hl
  have HT3 : Hid (∀ W b, Rd W b l 0 → Calls Tryd.prog 27 #[.pointer (some ⟨b, 0, none⟩)] W (TlP W b l)) := fun W b h => TakeVars_any h hl
  have HT4 : Hid (∀ W b, Rd W b l 0 → Calls Tryd.prog 28 #[.pointer (some ⟨b, 0, none⟩)] W (TlP W b l)) := fun W b h => dTkv_any h hl
  obtain ⟨x1, x2, x3⟩ := x
  unfold vA at HK
  clear hx hL hLL hl hg
  go_enter Tryd.func4, Tryd.ntmps4
  go_wp2_with (first
    | (go_at_call 9; refine CS.mono ?_; rintro e w1 ⟨rfl, b1⟩; (have B1 : Hid (Below w.heap.size w w1) := b1); have CR := read9 l w1; clear b1 CS)
    | (go_at_call 25; refine CR.mono ?_; rintro e w2 ⟨rfl, r2, b2, sz2⟩; clear sz2; (have B2 : Hid (Below w.heap.size w w2) := bel_of B1.out b2 (Nat.le_refl _)); (have hz2 : w.heap.size ≤ w1.heap.size := B1.out.size); have CK := HT1.out w2 _ r2; clear b2 r2 CR)
    | (go_at_call 24; refine CK.mono ?_; rintro e w3 hh; obtain ⟨he, b3⟩ := HK.out _ _ _ _ hh; subst he; (have B3' : Hid (Below w.heap.size w w3) := B2.out.trans (b3.below hz2 B2.out.size)); (have V1 : Hid (B3 (w3.alloc (.cells #[.int .i64 x1, .int .i64 x2, .string (S x3)] 23)) w3.heap.size (.int .i64 x1) (.int .i64 x2) (.string (S x3))) := B3.new _ _ _ _); (have r3 := rd_new l (w3.alloc (.cells #[.int .i64 x1, .int .i64 x2, .string (S x3)] 23))); rw [World.size_alloc] at r3; have CD := HT2.out _ _ r3; clear hh b3 r3 CK)
    | (go_at_call 26; refine CD.mono ?_; rintro e w4 hh; obtain ⟨he, b4⟩ := HK.out _ _ _ _ hh; subst he; (have Bb : Below (w3.alloc (.cells #[.int .i64 x1, .int .i64 x2, .string (S x3)] 23)).heap.size (w3.alloc (.cells #[.int .i64 x1, .int .i64 x2, .string (S x3)] 23)) w4 := ((Below.refl _ _).alloc (Nat.le_refl _) (.cells #[.string (S l), .int .i64 0] 42)).trans (b4.below (by simp) (by simp))); (have V1b : Hid (B3 (w4.alloc (.cells #[.int .i64 x1, .int .i64 x2, .string (S x3)] 23)) w3.heap.size (.int .i64 x1) (.int .i64 x2) (.string (S x3))) := (V1.out.up Bb).up ((Below.refl _ _).alloc (Nat.le_refl _) _)); (have V2 : Hid (B3 (w4.alloc (.cells #[.int .i64 x1, .int .i64 x2, .string (S x3)] 23)) w4.heap.size (.int .i64 x1) (.int .i64 x2) (.string (S x3))) := B3.new _ _ _ _); (have B4 : Hid (Below w.heap.size w (w4.alloc (.cells #[.int .i64 x1, .int .i64 x2, .string (S x3)] 23))) := ((B3'.out.alloc B3'.out.size _).trans (Bb.mono (by have := B3'.out.size; simp; omega))).alloc (by have h1 := Bb.size; have h2 := B3'.out.size; rw [World.size_alloc] at h1; omega) _); have CR2 := read9 l (w4.alloc (.cells #[.int .i64 x1, .int .i64 x2, .string (S x3)] 23)); clear hh b4 Bb CD V1)
    | (go_at_call 25; refine CR2.mono ?_; rintro e w5 ⟨rfl, r5, b5, sz5⟩; clear sz5; (have B5 : Hid (Below (w4.alloc (.cells #[.int .i64 x1, .int .i64 x2, .string (S x3)] 23)).heap.size (w4.alloc (.cells #[.int .i64 x1, .int .i64 x2, .string (S x3)] 23)) w5) := b5); rw [World.size_alloc] at r5; have CT := HT3.out w5 _ r5; clear b5 r5 CR2)
    | (go_at_call 27; refine CT.mono ?_; rintro e w6 hh; obtain ⟨v6, he, h6, b6⟩ := HL.out _ _ _ _ hh; subst he; (have B6 : Hid (Below (w4.alloc (.cells #[.int .i64 x1, .int .i64 x2, .string (S x3)] 23)).heap.size (w4.alloc (.cells #[.int .i64 x1, .int .i64 x2, .string (S x3)] 23)) w6) := B5.out.trans (b6.below (by rw [World.size_alloc]; exact Nat.le_refl _) B5.out.size)); (have U6 : Hid (Vs w6 v6 L) := h6); have CU := HT4.out _ _ (rd_new l w6); clear hh b6 h6 CT)
    | (go_at_call 28; refine CU.mono ?_; rintro e w7 hh; obtain ⟨v7, he, h7, b7⟩ := HL.out _ _ _ _ hh; subst he; (have Bc : Below w6.heap.size w6 w7 := ((Below.refl _ w6).alloc (Nat.le_refl _) (.cells #[.string (S l), .int .i64 0] 42)).trans (b7.below (Nat.le_refl _) (by rw [World.size_alloc]; exact Nat.le_succ _))); (have B7 : Hid (Below (w4.alloc (.cells #[.int .i64 x1, .int .i64 x2, .string (S x3)] 23)).heap.size (w4.alloc (.cells #[.int .i64 x1, .int .i64 x2, .string (S x3)] 23)) w7) := bel_of B6.out Bc (Nat.le_refl _)); have CZ := HSM.out w7 _ _ (U6.out.up Bc) h7; clear hh b7 Bc h7 CU U6)
    | (go_at_call 29; refine CZ.mono ?_; rintro e w8 ⟨rfl, b8⟩; (have B8 := bel_of B7.out b8 (Nat.le_refl _)); (have p1 := V1b.out.up B8); (have p2 := V2.out.up B8); (have c0 := p1.c0); (have c1 := p1.c1); (have c2 := p1.c2); (have d0 := p2.c0); (have d1 := p2.c1); (have d2 := p2.c2); (have B9 : Hid (Below w.heap.size w w8) := bel_of B4.out B8 (Nat.le_refl _)); clear b8 p1 p2 B8 CZ))
  go_ret
  exact ⟨rfl, B9.out⟩

open Go.ChangeShapes Go.WideShapes Go.ChangeAt Go.WideMaps Go.WideElems in
set_option maxRecDepth 100000 in
theorem lifted (os : Os) (started : os.Started) (H : Type) (enc : TypeId × Value → H) :
    ReturnsInHanded {} Tryd.checked os 4 .any (fun w args => (Rows.valueTakesSpec.pre enc Tryd.prog Tryd.f4 [] false w args ∧ laidMetH Tryd.prog laid9 w) ∧ sizedMet enc Tryd.prog Tryd.f4 (OpenSpec.ofChange Rows.valueTakesSpec) false w args)
      (Rows.valueTakesSpec.post enc Tryd.prog Tryd.f4 false true false false) := by
  refine returnsInHanded_of_change_and (C := Tryd.checked) (X := fun w _ => laidMetH Tryd.prog laid9 w) (fun _ _ _ hh h => h.of_heap hh) own9 started (by kernel_rfl) Tryd.func4
    (ChangeSpec.witness_shaped (enc := enc) (C := Tryd.checked) (os := os) (X := fun w _ => laidMetH Tryd.prog laid9 w) false (World.doorLaid Tryd.prog 400 os) #[.string .empty] 8 rfl (World.shaped_of_RefB (by kernel_rfl) (by kernel_rfl)) (by kernel_rfl) (by kernel_rfl) (by kernel_rfl) (door_met os _)) ?_
  intro W base args ds gs before hval0 hW hcnd hsz0 hL _
  have hval : ∀ (j : Nat) t v, Tryd.f4.params[j]? = some t → args[j]? = some v → Value.okWide Tryd.prog W .any base t v := hval0
  have hW' := hW
  obtain ⟨p, q, hA0, hV, rfl, hfz, hnd⟩ := hW
  have hA : DataW.TrodAll enc Tryd.prog W 0 (fun _ => true) true Tryd.f4.params.toList args.toList ds p := hA0
  have hsz : (DataW.weightsEach Tryd.prog (Tryd.f4.params.toList ++ Rows.valueTakesSpec.plain.varTypes Tryd.prog) (ds ++ gs)).all (· ≤ reachBytes) = true := hsz0
  rw [Tryd.params4] at hA hval hsz
  obtain ⟨v0, vs0, d0, ds0, p0, q0, hargs, rfl, rfl, h0, r0⟩ := trodAll_cons hA
  obtain ⟨rfl, rfl, rfl⟩ := trodAll_nil r0
  obtain rfl : args = #[v0] := by cases args; simp_all
  obtain ⟨rfl, rfl⟩ := trodVars_none hV
  have lt0 : ∀ x ∈ p0, x.block < W.heap.size := by obtain ⟨m, hm⟩ := h0; exact DataW.trod_lt m _ _ _ hm
  obtain ⟨s1, rfl, rfl, rfl, w1⟩ := Go.ChangeMaps.open_string Tryd.underlying9 (hval 0 9 v0 rfl rfl) h0
  have z1 := str_size (sized_at hsz (i := 0) rfl rfl)
  clear hA0 hval0
  have hwk := walk s1.data.toList (by omega) (gv_of hL)
  rw [S_of] at hwk
  refine hwk.mono fun e W' ⟨he, bel⟩ => ?_
  subst he
  exact ⟨_, rfl, _, _, _, [], _, [], hW', trodAll_mk1 (shut_bool Tryd.underlying4 _), (trodAll_cons_mk (Below.trod laidOut9 (by kernel_rfl) (of_decide_eq_true (by kernel_rfl)) h0 bel lt0) trodAll_mk0), rfl, bel.frame _, fun h => by cases h⟩
theorem said : Rows.ValueTakesSaid :=
  OpenClaim.holds_of_wide 4 Tryd.f4 rfl rfl rfl rfl rfl rfl rfl ⟨rfl, rfl, rfl, rfl, rfl⟩ rfl rfl rfl rfl rfl (by kernel_rfl) Tryd.func4 (by kernel_rfl)
    (of_decide_eq_true (by kernel_rfl)) (by unfold Func.isWrapper; first | (rw [if_pos (by decide +kernel)]; kernel_rfl) | (rw [if_neg (by decide +kernel)]; exact ⟨rfl, rfl⟩))
    (fun os started H enc _ => lifted os started H enc)
theorem proved : Rows.ValueTakesCardSaid :=
  Claim7.holds_tied_plain_at .later [] [.data, .data, .data] true (true, "56e91a075cffa44262a3916c20c4f80ca298e481936aacf4d9325e14358247f9") false
    said (fun _ h => by cases h) (by kernel_rfl) (fun _ h => by cases h) valueTakes_row_tie rfl ⟨rfl, rfl⟩ (by kernel_rfl) rfl
    (fun f fn hf hfn => by
      obtain rfl : f = 4 := Option.some.inj ((show Tryd.prog.funcNamed "wherry/wherrylaw09.ValueTakes" = some 4 by kernel_rfl).symm.trans hf) |>.symm
      obtain rfl : fn = Tryd.f4 := (Option.some.inj (Tryd.func4.symm.trans hfn)).symm
      exact ⟨by kernel_rfl, fun j t ht => by
        rw [Tryd.params4] at ht
        have hm : t ∈ [9] := by simpa using Array.mem_of_getElem? ht
        have hall : ([9].all fun u => !Tryd.prog.wantsStandIn u) = true := by kernel_rfl
        exact (show Tryd.prog.wantsStandIn t = false by simpa using List.all_eq_true.1 hall t hm)⟩)
    (by kernel_rfl)
end Go.Proofs.YtaahmnkfjkbliaaDoor.valueTakes

/-
  Proved: for every slice of variables, name and value ValuePuts answers true, and changes nothing that was there before the call: what is put, and what is asked for, is as the document says, and the list that was handed in stays as it was. The program's own tables are as its text lays them (the card's tie).
-/
import Derived.Test.YtaahmnkfjkbliaaDoorV9Vars
import Derived.Test.YtaahmnkfjkbliaaDoorV9Dpt
namespace Go.Proofs.YtaahmnkfjkbliaaDoor.valuePuts
open Go.RowKit Go.Shelf Go.Sort
open Go.Lib hiding intOf

theorem own_none9 (W : World) (T : TypeId) : (W.alloc (.cells #[] T)).ownsRow W.heap.size T 4 (.slice (some ⟨W.heap.size, 0, none⟩) 0 0) 0 [] := ⟨by simp, .inr ⟨W.heap.size, 0, #[], rfl, Nat.le_refl _, heap_alloc_new W _, Nat.le_refl _, by unfold maxLen; omega, by simp, by simp⟩⟩
theorem fitW (n : Nat) (h : n * 48 ≤ 140737488355328) : (0 + n + (0 + n) / 4 + 192) * 48 ≤ 281474976710656 := by omega
theorem putV_len {l : List Vr} {k : ByteArray} {x : V9} : (putV l k x).1.length ≤ 16 := by
  unfold putV
  split
  · split
    · simp
    · rename_i h1 h2
      simp only [Bool.and_eq_true] at h1
      have hl := (rgt_iff.1 h1.1.1).1
      simp only
      rw [put_len]
      split
      · exact hl
      · rename_i hh
        have : l.length ≠ 16 := fun e => h2 ⟨by simpa using hh, e⟩
        omega
  · simp

set_option maxHeartbeats 8000000 in
set_option maxRecDepth 100000 in
theorem walk (k : ByteArray) (x : V9) {w : World} {v : Value} {l : List Vr} (hv : Vs w v l) (hn : l.length * 48 ≤ 140737488355328) (hs : Sm9 l) (hk : k.size ≤ 140737488355328) (hg : Gv w.heap.size w) :
    Calls Tryd.prog 5 #[v, .string k, vA x] w fun e w' => e = .returned (.bool true) ∧ Below w.heap.size w w' := by
  obtain ⟨i0, hi0, hz0, hz1, hz2⟩ := info_parts infoVar
  have HPT : Hid (∀ W, Below w.heap.size w W → Calls Tryd.prog 30 #[v, .string k, vA x] W (PuR W l k x)) := fun W hW => Put_any k x (hv.up hW) (by omega) hs hk
  have HDP : Hid (∀ W, Below w.heap.size w W → Calls Tryd.prog 31 #[v, .string k, vA x] W (PuR W l k x)) := fun W hW => dPut_any k x (hv.up hW) (by omega) hs hk
  have HGT : Hid (∀ W, Below w.heap.size w W → Calls Tryd.prog 32 #[v, .string k] W fun e w' => e = .returned (gA (getV l k)) ∧ Below W.heap.size W w') := fun W hW => Get_any k (hv.up hW) (by omega)
  have HDG : Hid (∀ W, Below w.heap.size w W → Calls Tryd.prog 33 #[v, .string k] W fun e w' => e = .returned (gA (getV l k)) ∧ Below W.heap.size W w') := fun W hW => dGet_any k (hv.up hW) (by omega)
  have HSM : Hid (∀ W u, Below w.heap.size w W → Vs W u l → Calls Tryd.prog 29 #[v, u] W fun e w' => e = .returned (.bool true) ∧ Below W.heap.size W w') := fun W u hW hu => by
    have := Same9_any (hv.up hW) hu (by omega) (by omega)
    rwa [decide_eq_true rfl] at this
  have HS2 : Hid (∀ W a b, Vs W a (putV l k x).1 → Vs W b (putV l k x).1 → Calls Tryd.prog 29 #[a, b] W fun e w' => e = .returned (.bool true) ∧ Below W.heap.size W w') := fun W a b ha hb => by
    have hpl := putV_len (l := l) (k := k) (x := x)
    have := Same9_any ha hb (by omega) (by omega)
    rwa [decide_eq_true rfl] at this
  obtain ⟨g, gb, hgv⟩ : ∃ g gb, getV l k = (g, gb) := ⟨_, _, rfl⟩
  rw [hgv] at HGT HDG
  obtain ⟨g1, g2, g3⟩ := g
  obtain ⟨pl, pe, hpv⟩ : ∃ pl pe, putV l k x = (pl, pe) := ⟨_, _, rfl⟩
  have HPR : Hid (∀ W e w', PuR W l k x e w' → ∃ v', e = .returned (.tuple #[v', .int .i64 (pe : Int)]) ∧ Vs w' v' pl ∧ Below W.heap.size W w') := fun W e w' h => by
    unfold PuR at h
    rw [hpv] at h
    exact h
  rw [hpv] at HS2
  clear hpv hgv
  have HV : Hid (Vs w v l) := hv
  obtain ⟨x1, x2, x3⟩ := x
  obtain ⟨W1, hW1⟩ : ∃ W1, w.alloc (.cells #[.int .i64 x1, .int .i64 x2, .string (S x3)] 23) = W1 := ⟨_, rfl⟩
  have B0 : Hid (Below w.heap.size w W1) := by rw [← hW1]; exact (Below.refl _ w).alloc (Nat.le_refl _) _
  have CS := shown9_any (hg.below B0.out) B0.out.size
  have hcx : ∀ i, W1.cell? ⟨w.heap.size, i, none⟩ = (#[.int .i64 x1, .int .i64 x2, .string (S x3)] : Array Value)[i]? := fun i => by rw [← hW1]; exact World.cell?_alloc_new _ _ _ _
  have hzz : w.heap.size < W1.heap.size := by rw [← hW1]; simp
  have HCX : Hid (∀ W, Below W1.heap.size W1 W → W.cell? ⟨w.heap.size, 0, none⟩ = some (.int .i64 x1) ∧ W.cell? ⟨w.heap.size, 1, none⟩ = some (.int .i64 x2) ∧ W.cell? ⟨w.heap.size, 2, none⟩ = some (.string (S x3))) := fun W hW => ⟨(hW.cell (p := ⟨w.heap.size, 0, none⟩) hzz).trans (hcx 0), (hW.cell (p := ⟨w.heap.size, 1, none⟩) hzz).trans (hcx 1), (hW.cell (p := ⟨w.heap.size, 2, none⟩) hzz).trans (hcx 2)⟩
  unfold vA at HPT HDP ⊢
  unfold gA vA at HGT HDG
  have hfit := fitW l.length hn
  have hvl := vcs_len l
  have hv1 := vcs_one l
  obtain ⟨a, cap, rfl, hc, -⟩ := hv
  clear hcx hg
  have HW : Hid (∀ W, Below W1.heap.size W1 W → Below w.heap.size w W) := fun W hW => bel_of B0.out hW (Nat.le_refl _)
  cases a with
  | none =>
    have hcp0 := hc.2 rfl
    subst hcp0
    have hl0 : l = [] := List.eq_nil_of_length_eq_zero (by omega)
    subst hl0
    go_enter Tryd.func5, Tryd.ntmps5
    go_wp2_with (first
      | (go_at_call 9; (try rw [hW1]); refine CS.mono ?_; rintro e w1 ⟨rfl, b1⟩; (have B1 : Hid (Below W1.heap.size W1 w1) := b1); (have hown := own_none9 w1 57); have hz1s := b1.size; clear b1 CS)
      | (at_builtin; refine wpList_append_own_none rfl _ _ 24 rfl w1.heap.size 57 i0 4 Tryd.underlying24 hi0 _ _ _ rfl hown rfl ?_; (have B2 : Hid (Below W1.heap.size W1 (w1.alloc (.cells #[] 57))) := B1.out.alloc B1.out.size _); (have V2 : Hid (Vs (w1.alloc (.cells #[] 57)) (Value.slice (some ⟨w1.heap.size, 0, none⟩) 0 0) []) := Vs.row (l := []) hown); obtain ⟨s0, s1, s2⟩ := HCX.out _ B2.out; have C1 := HPT.out _ (HW.out _ B2.out); clear hown)
      | (go_at_call 30; refine C1.mono ?_; rintro e w3 hh; obtain ⟨v3, rfl, V3', b3⟩ := HPR.out _ _ _ hh; (have V3 : Hid (Vs w3 v3 pl) := V3'); (have B3 : Hid (Below W1.heap.size W1 w3) := bel_of B2.out b3 (Nat.le_refl _)); (have V2b : Hid (Vs w3 (Value.slice (some ⟨w1.heap.size, 0, none⟩) 0 0) []) := V2.out.up b3); clear s0 s1 s2; obtain ⟨s0, s1, s2⟩ := HCX.out w3 B3.out; have C2 := HDP.out w3 (HW.out w3 B3.out); clear hh V3' b3 C1 V2)
      | (go_at_call 31; refine C2.mono ?_; rintro e w4 hh; obtain ⟨v4, rfl, V4', b4⟩ := HPR.out _ _ _ hh; (have B4 : Hid (Below W1.heap.size W1 w4) := bel_of B3.out b4 (Nat.le_refl _)); (have V2c : Hid (Vs w4 (Value.slice (some ⟨w1.heap.size, 0, none⟩) 0 0) []) := V2b.out.up b4); have C3 := HS2.out w4 _ _ (V3.out.up b4) V4'; clear s0 s1 s2 hh V4' b4 C2 V2b V3)
      | (go_at_call 29; refine C3.mono ?_; rintro e w5 ⟨rfl, b5⟩; (have B5 : Hid (Below W1.heap.size W1 w5) := bel_of B4.out b5 (Nat.le_refl _)); have C4 := HSM.out w5 _ (HW.out w5 B5.out) (V2c.out.up b5); clear b5 C3 V2c)
      | (go_at_call 29; refine C4.mono ?_; rintro e w6 ⟨rfl, b6⟩; (have B6 : Hid (Below W1.heap.size W1 w6) := bel_of B5.out b6 (Nat.le_refl _)); have C5 := HGT.out w6 (HW.out w6 B6.out); clear b6 C4)
      | (go_at_call 32; refine C5.mono ?_; rintro e w7 ⟨rfl, b7⟩; (have B7 : Hid (Below W1.heap.size W1 w7) := bel_of B6.out b7 (Nat.le_refl _)); (have C6 := HDG.out (w7.alloc (.cells #[.int .i64 g1, .int .i64 g2, .string (S g3)] 23)) (HW.out _ (B7.out.alloc B7.out.size _))); clear b7 C5)
      | (go_at_call 33; refine C6.mono ?_; rintro e w8 ⟨rfl, b8⟩; (have B8 : Hid (Below W1.heap.size W1 w8) := bel_of (B7.out.alloc B7.out.size _) b8 (Nat.le_refl _)); (have k0 := (b8.cell (p := ⟨w7.heap.size, 0, none⟩) (by simp)).trans (World.cell?_alloc_new _ _ _ _)); (have k1 := (b8.cell (p := ⟨w7.heap.size, 1, none⟩) (by simp)).trans (World.cell?_alloc_new _ _ _ _)); (have k2 := (b8.cell (p := ⟨w7.heap.size, 2, none⟩) (by simp)).trans (World.cell?_alloc_new _ _ _ _)); (have hz8 : w7.heap.size < w8.heap.size := by have := b8.size; rw [World.size_alloc] at this; omega); clear b8 C6))
    go_ret
    exact ⟨rfl, HW.out _ (B8.out.alloc B8.out.size _)⟩
  | some ad =>
    go_enter Tryd.func5, Tryd.ntmps5
    go_wp2_with (first
      | (go_at_call 9; (try rw [hW1]); refine CS.mono ?_; rintro e w1 ⟨rfl, b1⟩; (have B1 : Hid (Below W1.heap.size W1 w1) := b1); (have V1 := HV.out.up (bel_of (HW.out w1 b1) ((Below.refl w1.heap.size w1).alloc (Nat.le_refl _) (.cells #[] 57)) (Nat.le_refl _))); (have hcl := V1.cells); (have hown := own_none9 w1 57); have hz1s := b1.size; clear b1 CS V1)
      | (at_builtin; refine wpList_append_own_wide _ rfl _ _ 24 rfl w1.heap.size 57 i0 _ 4 48 Tryd.underlying24 hi0 hz0 hz1 hz2 rfl (by decide) _ _ _ rfl hown ad l.length cap (vcs l) rfl hvl hcl hv1 (by unfold maxLen; omega) hfit (by simp) ?_; intro v2 w2 ho hgw _; (have B2 : Hid (Below W1.heap.size W1 w2) := (B1.out.alloc B1.out.size _).grown hgw (by simp; omega) (fun k hk => by have := (World.ownsRow.lt hown k hk).1; omega)); (have V2 : Hid (Vs w2 v2 l) := Vs.row (by simpa using ho)); obtain ⟨s0, s1, s2⟩ := HCX.out w2 B2.out; have C1 := HPT.out w2 (HW.out w2 B2.out); clear ho hgw hown hcl)
      | (go_at_call 30; refine C1.mono ?_; rintro e w3 hh; obtain ⟨v3, rfl, V3', b3⟩ := HPR.out _ _ _ hh; (have V3 : Hid (Vs w3 v3 pl) := V3'); (have B3 : Hid (Below W1.heap.size W1 w3) := bel_of B2.out b3 (Nat.le_refl _)); (have V2b : Hid (Vs w3 v2 l) := V2.out.up b3); clear s0 s1 s2; obtain ⟨s0, s1, s2⟩ := HCX.out w3 B3.out; have C2 := HDP.out w3 (HW.out w3 B3.out); clear hh V3' b3 C1 V2)
      | (go_at_call 31; refine C2.mono ?_; rintro e w4 hh; obtain ⟨v4, rfl, V4', b4⟩ := HPR.out _ _ _ hh; (have B4 : Hid (Below W1.heap.size W1 w4) := bel_of B3.out b4 (Nat.le_refl _)); (have V2c : Hid (Vs w4 v2 l) := V2b.out.up b4); have C3 := HS2.out w4 _ _ (V3.out.up b4) V4'; clear s0 s1 s2 hh V4' b4 C2 V2b V3)
      | (go_at_call 29; refine C3.mono ?_; rintro e w5 ⟨rfl, b5⟩; (have B5 : Hid (Below W1.heap.size W1 w5) := bel_of B4.out b5 (Nat.le_refl _)); have C4 := HSM.out w5 _ (HW.out w5 B5.out) (V2c.out.up b5); clear b5 C3 V2c)
      | (go_at_call 29; refine C4.mono ?_; rintro e w6 ⟨rfl, b6⟩; (have B6 : Hid (Below W1.heap.size W1 w6) := bel_of B5.out b6 (Nat.le_refl _)); have C5 := HGT.out w6 (HW.out w6 B6.out); clear b6 C4)
      | (go_at_call 32; refine C5.mono ?_; rintro e w7 ⟨rfl, b7⟩; (have B7 : Hid (Below W1.heap.size W1 w7) := bel_of B6.out b7 (Nat.le_refl _)); (have C6 := HDG.out (w7.alloc (.cells #[.int .i64 g1, .int .i64 g2, .string (S g3)] 23)) (HW.out _ (B7.out.alloc B7.out.size _))); clear b7 C5)
      | (go_at_call 33; refine C6.mono ?_; rintro e w8 ⟨rfl, b8⟩; (have B8 : Hid (Below W1.heap.size W1 w8) := bel_of (B7.out.alloc B7.out.size _) b8 (Nat.le_refl _)); (have k0 := (b8.cell (p := ⟨w7.heap.size, 0, none⟩) (by simp)).trans (World.cell?_alloc_new _ _ _ _)); (have k1 := (b8.cell (p := ⟨w7.heap.size, 1, none⟩) (by simp)).trans (World.cell?_alloc_new _ _ _ _)); (have k2 := (b8.cell (p := ⟨w7.heap.size, 2, none⟩) (by simp)).trans (World.cell?_alloc_new _ _ _ _)); (have hz8 : w7.heap.size < w8.heap.size := by have := b8.size; rw [World.size_alloc] at this; omega); clear b8 C6))
    go_ret
    exact ⟨rfl, HW.out _ (B8.out.alloc B8.out.size _)⟩

open Go.ChangeShapes Go.WideShapes Go.ChangeAt Go.WideMaps Go.WideElems in
set_option maxRecDepth 100000 in
theorem lifted (os : Os) (started : os.Started) (H : Type) (enc : TypeId × Value → H) :
    ReturnsInHanded {} Tryd.checked os 5 .any (fun w args => (Rows.valuePutsSpec.pre enc Tryd.prog Tryd.f5 [] false w args ∧ laidMetH Tryd.prog laid9 w) ∧ sizedMet enc Tryd.prog Tryd.f5 (OpenSpec.ofChange Rows.valuePutsSpec) false w args)
      (Rows.valuePutsSpec.post enc Tryd.prog Tryd.f5 false true false false) := by
  refine returnsInHanded_of_change_and (C := Tryd.checked) (X := fun w _ => laidMetH Tryd.prog laid9 w) (fun _ _ _ hh h => h.of_heap hh) own9 started (by kernel_rfl) Tryd.func5
    (ChangeSpec.witness_shaped (enc := enc) (C := Tryd.checked) (os := os) (X := fun w _ => laidMetH Tryd.prog laid9 w) false (World.doorLaid Tryd.prog 400 os) #[.slice none 0 0, .string .empty, .agg #[.int .i64 0, .int .i64 0, .string .empty]] 8 rfl (World.shaped_of_RefB (by kernel_rfl) (by kernel_rfl)) (by kernel_rfl) (by kernel_rfl) (by kernel_rfl) (door_met os _)) ?_
  intro W base args ds gs before hval0 hW hcnd hsz0 hL _
  have hval : ∀ (j : Nat) t v, Tryd.f5.params[j]? = some t → args[j]? = some v → Value.okWide Tryd.prog W .any base t v := hval0
  have hW' := hW
  obtain ⟨p, q, hA0, hV, rfl, hfz, hnd⟩ := hW
  have hA : DataW.TrodAll enc Tryd.prog W 0 (fun _ => true) true Tryd.f5.params.toList args.toList ds p := hA0
  have hsz : (DataW.weightsEach Tryd.prog (Tryd.f5.params.toList ++ Rows.valuePutsSpec.plain.varTypes Tryd.prog) (ds ++ gs)).all (· ≤ reachBytes) = true := hsz0
  rw [Tryd.params5] at hA hval hsz
  obtain ⟨v0, vs0, d0, ds0, p0, q0, hargs, rfl, rfl, h0, r0⟩ := trodAll_cons hA
  obtain ⟨v1, vs1, d1, ds1, p1, q1, rfl, rfl, rfl, h1, r1⟩ := trodAll_cons r0
  obtain ⟨v2, vs2, d2, ds2, p2, q2, rfl, rfl, rfl, h2, r2⟩ := trodAll_cons r1
  obtain ⟨rfl, rfl, rfl⟩ := trodAll_nil r2
  obtain rfl : args = #[v0, v1, v2] := by cases args; simp_all
  obtain ⟨rfl, rfl⟩ := trodVars_none hV
  have lt0 : ∀ x ∈ p0, x.block < W.heap.size := by obtain ⟨m, hm⟩ := h0; exact DataW.trod_lt m _ _ _ hm
  have lt1 : ∀ x ∈ p1, x.block < W.heap.size := by obtain ⟨m, hm⟩ := h1; exact DataW.trod_lt m _ _ _ hm
  have lt2 : ∀ x ∈ p2, x.block < W.heap.size := by obtain ⟨m, hm⟩ := h2; exact DataW.trod_lt m _ _ _ hm
  obtain ⟨l0, hv0, k0⟩ := openVars (hval 0 24 v0 rfl rfl) h0
  obtain ⟨s1, rfl, rfl, rfl, w1⟩ := Go.ChangeMaps.open_string Tryd.underlying9 (hval 1 9 v1 rfl rfl) h1
  obtain ⟨x2, rfl, -⟩ := openVal (hval 2 23 v2 rfl rfl) h2
  have z0 := k0 (sized_at hsz (i := 0) rfl rfl)
  have z1 := str_size (sized_at hsz (i := 1) rfl rfl)
  clear hA0 hval0
  refine (walk s1 x2 hv0 z0.1 z0.2 (by simp at z1; omega) (gv_of hL)).mono fun e W' ⟨he, bel⟩ => ?_
  subst he
  exact ⟨_, rfl, _, _, _, [], _, [], hW', trodAll_mk1 (shut_bool Tryd.underlying4 _), (trodAll_cons_mk (Below.trod laidOut9 (by kernel_rfl) (of_decide_eq_true (by kernel_rfl)) h0 bel lt0) (trodAll_cons_mk (Below.trod laidOut9 (by kernel_rfl) (of_decide_eq_true (by kernel_rfl)) h1 bel lt1) (trodAll_cons_mk (Below.trod laidOut9 (by kernel_rfl) (of_decide_eq_true (by kernel_rfl)) h2 bel lt2) trodAll_mk0))), rfl, bel.frame _, fun h => by cases h⟩
theorem said : Rows.ValuePutsSaid :=
  OpenClaim.holds_of_wide 5 Tryd.f5 rfl rfl rfl rfl rfl rfl rfl ⟨rfl, rfl, rfl, rfl, rfl⟩ rfl rfl rfl rfl rfl (by kernel_rfl) Tryd.func5 (by kernel_rfl)
    (of_decide_eq_true (by kernel_rfl)) (by unfold Func.isWrapper; first | (rw [if_pos (by decide +kernel)]; kernel_rfl) | (rw [if_neg (by decide +kernel)]; exact ⟨rfl, rfl⟩))
    (fun os started H enc _ => lifted os started H enc)
theorem proved : Rows.ValuePutsCardSaid :=
  Claim7.holds_tied_plain_at .later [] [.data, .data, .data] true (true, "56e91a075cffa44262a3916c20c4f80ca298e481936aacf4d9325e14358247f9") false
    said (fun _ h => by cases h) (by kernel_rfl) (fun _ h => by cases h) valuePuts_row_tie rfl ⟨rfl, rfl⟩ (by kernel_rfl) rfl
    (fun f fn hf hfn => by
      obtain rfl : f = 5 := Option.some.inj ((show Tryd.prog.funcNamed "wherry/wherrylaw09.ValuePuts" = some 5 by kernel_rfl).symm.trans hf) |>.symm
      obtain rfl : fn = Tryd.f5 := (Option.some.inj (Tryd.func5.symm.trans hfn)).symm
      exact ⟨by kernel_rfl, fun j t ht => by
        rw [Tryd.params5] at ht
        have hm : t ∈ [24, 9, 23] := by simpa using Array.mem_of_getElem? ht
        have hall : ([24, 9, 23].all fun u => !Tryd.prog.wantsStandIn u) = true := by kernel_rfl
        exact (show Tryd.prog.wantsStandIn t = false by simpa using List.all_eq_true.1 hall t hm)⟩)
    (by kernel_rfl)
end Go.Proofs.YtaahmnkfjkbliaaDoor.valuePuts

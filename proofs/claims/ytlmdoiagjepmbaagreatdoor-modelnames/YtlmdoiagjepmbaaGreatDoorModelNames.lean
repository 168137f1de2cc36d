/-
  Proved: for every process ModelNames answers true, and changes nothing that was there before the call: a process that may be may be with other names too, and loops as it did. The program's own tables are as its text lays them (the card).
-/
import Derived.Test.YtlmdoiagjepmbaaGreatDoorGNames
import Derived.Test.YtlmdoiagjepmbaaGreatDoorM11Arg
namespace Go.Proofs.YtlmdoiagjepmbaaGreatDoor.modelNames
open Go.Proofs.YtlmdoiagjepmbaaGreatDoor.x10 hiding bel_of
open Go.Proofs.YtlmdoiagjepmbaaGreatDoor.m11
open Go.RowKit Go.Shelf Go.Sort
open Go.Lib hiding intOf

set_option maxRecDepth 100000 in
set_option maxHeartbeats 3000000 in
theorem walk {w : World} {nv fv : Value} {P : Pc} (hp : Po w nv fv P) (hz : Pz P) (hg : Gg w) : Calls Tryz.prog 3 #[pV P.id nv fv] w fun e w' => e = .returned (.bool true) ∧ Below w.heap.size w w' := by
  obtain ⟨i0, hi0, hz0, hz1, hz2⟩ := info_parts infoN
  obtain ⟨W1, hW1⟩ : ∃ W1, w.alloc (.cells #[.string (S P.id), nv, fv] 25) = W1 := ⟨_, rfl⟩
  have hB1 : Below w.heap.size w W1 := by rw [← hW1]; exact (Below.refl _ w).alloc (Nat.le_refl _) _
  have hpb : Pb W1 w.heap.size nv fv P := by rw [← hW1]; exact Pb.new hp
  have CS := shown_any (hg.up hB1)
  have HB : Hid (∀ W, Below W1.heap.size W1 W → Pb W w.heap.size nv fv P ∧ Below w.heap.size w W) := fun W hW => ⟨hpb.up hW, bel_of hB1 hW (Nat.le_refl _)⟩
  have HC : Hid (∀ W, Below W1.heap.size W1 W → Calls Tryz.prog 6 #[.agg #[.string (S P.id), nv, fv]] W fun e w' => e = .returned (.tuple #[.int .i64 (chk P).1, .int .i64 (chk P).2]) ∧ Below W1.heap.size W1 w') := fun W hW => (Check_any (hpb.up hW).po hz ((hg.up hB1).up hW)).mono fun _ _ ⟨h1, h2⟩ => ⟨h1, bel_of hW h2 (Nat.le_refl _)⟩
  have HO : Hid (∀ W, Below W1.heap.size W1 W → Calls Tryz.prog 7 #[.agg #[.string (S P.id), nv, fv]] W fun e w' => e = .returned (.bool (lps P)) ∧ Below W.heap.size W w') := fun W hW => Loops_any (hpb.up hW).po hz ((hg.up hB1).up hW)
  have HW : Hid (_ = W1) := hW1
  have hnl := hz.nl
  rcases chk_err P with he | he
  · have HRL : Hid (lps (ren P P.nodes.length) = lps P) := (ren_lps he).symm
    have HRC : Hid (chk (ren P P.nodes.length) = (0, -1)) := ren_chk he
    obtain ⟨HOK, hck⟩ : Hid (Oki P) ∧ chk P = (0, -1) := chk_zero he
    rw [hck] at HC
    have h40 : P.nodes.length ≤ 40 ∧ 0 < P.nodes.length := by
      have := HOK.out.wh
      unfold whl at this
      simp only [Bool.or_eq_false_iff, decide_eq_false_iff_not, beq_eq_false_iff_ne] at this
      omega
    obtain ⟨h40, hpos⟩ := h40
    have HQC : Hid (∀ W nq, Below W1.heap.size W1 W → Ns W nq (ren P P.nodes.length).nodes → Calls Tryz.prog 6 #[.agg #[.string (S P.id), nq, fv]] W fun e w' => e = .returned (.tuple #[.int .i64 0, .int .i64 (-1)]) ∧ Below W.heap.size W w') := fun W nq hW hn => by
      have := Check_any (P := ren P P.nodes.length) (w := W) (nv := nq) (fv := fv) ⟨hn, (hpb.up hW).po.fs⟩ (ren_pz hz _) ((hg.up hB1).up hW)
      rw [HRC.out] at this
      exact this
    have HQO : Hid (∀ W nq, Below W1.heap.size W1 W → Ns W nq (ren P P.nodes.length).nodes → Calls Tryz.prog 7 #[.agg #[.string (S P.id), nq, fv]] W fun e w' => e = .returned (.bool (lps P)) ∧ Below W.heap.size W w') := fun W nq hW hn => by
      have := Loops_any (P := ren P P.nodes.length) (w := W) (nv := nq) (fv := fv) ⟨hn, (hpb.up hW).po.fs⟩ (ren_pz hz _) ((hg.up hB1).up hW)
      rw [HRL.out] at this
      exact this
    obtain ⟨nb, no, ncp, hsl, hncp, hnlt, -⟩ := hpb.po.ns.at hpos
    subst hsl
    obtain ⟨fa, fc, rfl, -⟩ := hp.fs
    have HCL : Hid (∀ W, Below W1.heap.size W1 W → ∀ j u, (ncs P.nodes)[j]? = some u → W.cell? ((⟨nb, no, none⟩ : Addr).add j) = some u) := fun W hW => Ns.cells (hpb.up hW).po.ns
    have hfit : (0 + P.nodes.length + (0 + P.nodes.length) / 4 + 192) * 80 ≤ 281474976710656 := by omega
    have hnle : (P.nodes.length : Int) ≤ 100 := by omega
    unfold pV
    clear hp hz hg hW1 hB1 hpb he hck HRL HRC
    generalize lps P = lp at *
    go_enter Tryz.func3, Tryz.ntmps3
    go_wp2_with (first
      | (go_at_call 5; rw [HW.out]; refine CS.mono ?_; rintro e w1 ⟨rfl, b1⟩; (have CC := HC.out w1 b1); obtain ⟨⟨c0, c1, c2, -, -⟩, -⟩ := HB.out w1 b1; clear b1 CS HC)
      | (go_at_call 6; refine CC.mono ?_; rintro e w2 ⟨rfl, b2⟩; clear c0 c1 c2; obtain ⟨⟨c0, c1, c2, -, -⟩, -⟩ := HB.out w2 b2; (have B2 : Hid (Below W1.heap.size W1 w2) := b2); (have d1 := (HB.out _ ((b2.alloc b2.size (.cells #[.string (S P.id), .slice (some ⟨nb, no, none⟩) P.nodes.length ncp, .slice fa P.flows.length fc] 25)).alloc (by have := b2.size; simp; omega) (.cells #[] 32))).1.c1); (have hown := own_none7 (w2.alloc (.cells #[.string (S P.id), .slice (some ⟨nb, no, none⟩) P.nodes.length ncp, .slice fa P.flows.length fc] 25)) 32); rw [World.size_alloc] at hown; (have hcl := HCL.out _ ((b2.alloc b2.size (.cells #[.string (S P.id), .slice (some ⟨nb, no, none⟩) P.nodes.length ncp, .slice fa P.flows.length fc] 25)).alloc (by have := b2.size; simp; omega) (.cells #[] 32))); clear b2 CC)
      | (at_builtin; refine wpList_append_own_wide _ rfl _ _ 22 rfl _ 32 i0 _ 7 80 Tryz.underlying22 hi0 hz0 hz1 hz2 rfl (by decide) _ _ _ rfl hown ⟨nb, no, none⟩ P.nodes.length ncp (ncs P.nodes) rfl (ncs_len _) hcl (ncs_one _) (by unfold maxLen; omega) hfit (by simp) ?_; intro v5 w5 ho5 hg5 _; obtain ⟨g, gc, rfl, e1, e2, e3⟩ := Qn.start B2.out hpos ho5 hg5; (have FQ0 : Hid _ := e3); clear ho5 hg5 e3 hcl hown d1 c0 c1 c2))
    obtain ⟨qb, hqb⟩ : ∃ b, b = w2.heap.size := ⟨_, rfl⟩
    rw [← hqb] at FQ0 ⊢
    clear hqb e1 e2 HCL
    have FQ1 : Hid (Qn W1 qb g gc (w5.setCell ⟨qb, 1, none⟩ (.slice (some ⟨g, 0, none⟩) P.nodes.length gc)) P.id (.slice fa P.flows.length fc) (ren P 0).nodes) := by rw [ren_zero]; exact FQ0.out
    clear FQ0
    go_loopw [7] (fun v7 wr => ∃ k : Nat, v7 = .int .i64 (k : Int) ∧ k ≤ P.nodes.length ∧ Hid (Qn W1 qb g gc wr P.id (.slice fa P.flows.length fc) (ren P k).nodes)) (fun v7 _ => P.nodes.length - (intOf v7).toNat)
    case atStart => exact ⟨0, rfl, Nat.zero_le _, FQ1.out⟩
    case round =>
      obtain ⟨k, rfl, hk, HF⟩ := hrel
      clear FQ1
      have q1 := HF.out.q.c 1
      have q0 := HF.out.q.c 0
      have q2 := HF.out.q.c 2
      rw [ren_len] at q0 q1 q2
      simp only [List.getElem?_toArray, List.getElem?_cons_zero, List.getElem?_cons_succ] at q0 q1 q2
      by_cases hkl : k < P.nodes.length
      · have hkl' : (k : Int) < (P.nodes.length : Int) := by omega
        have hk0 : (0 : Int) ≤ (k : Int) := by omega
        have hkr : k < (ren P k).nodes.length := by rw [ren_len]; exact hkl
        have hcv := conv2 wr (k := k) (by omega)
        obtain ⟨x1, hx1⟩ : ∃ c, c = UInt8.ofNat (97 + k / 26) := ⟨_, rfl⟩
        obtain ⟨x2, hx2⟩ : ∃ c, c = UInt8.ofNat (97 + k % 26) := ⟨_, rfl⟩
        rw [← hx1, ← hx2] at hcv
        have hrw := HF.out.row.up ((Below.refl _ wr).alloc (Nat.le_refl _) (.cells #[.int .u8 (97 + (k : Int) / 26), .int .u8 (97 + (k : Int) % 26)] 5))
        have s1 : (wr.alloc (.cells #[.int .u8 (97 + (k : Int) / 26), .int .u8 (97 + (k : Int) % 26)] 5)).cell? ⟨g, k * 7 + 3, none⟩ = some (.string (S (ren P k).nodes[k].name)) := by
          have := hrw.key hkr 3 (by omega)
          rw [Nat.zero_add] at this
          exact this
        have s2 := hrw.f (k * 7 + 3)
        have HNM : Hid _ := ren_next hkr
        have HST : Hid _ := HF.out.step (.cells #[.int .u8 (97 + (k : Int) / 26), .int .u8 (97 + (k : Int) % 26)] 5) hkr (nmN k)
        rw [← HNM.out] at HST
        generalize (ren P k).nodes[k].name = nm0 at *
        clear hrw
        have HSE : Hid (∀ W : World, W.setCell ⟨g, k * 7 + 3, none⟩ (.string (S (nmN k))) = W.setCell ⟨g, k * 7 + 3, none⟩ (.string (⟨#[122]⟩ ++ S [x1, x2] ++ ⟨#[95]⟩))) := fun W => by
          have : S (nmN k) = ⟨#[122]⟩ ++ S [x1, x2] ++ ⟨#[95]⟩ := by
            rw [hx1, hx2]
            apply ByteArray.ext
            rfl
          rw [this]
        clear hx1 hx2
        go_wp2
        go_roundw
        case rel => exact ⟨k + 1, by simp, by omega, by show Qn _ _ _ _ _ _ _ _; rw [← HSE.out]; exact HST.out⟩
        case measure => simp [intOf]; omega
      · have hkl' : ¬ (k : Int) < (P.nodes.length : Int) := by omega
        obtain rfl : k = P.nodes.length := by omega
        have HN : Hid (Below W1.heap.size W1 wr ∧ Ns wr (.slice (some ⟨g, 0, none⟩) P.nodes.length gc) (ren P P.nodes.length).nodes) := ⟨HF.out.bel, by have := HF.out.row.ns HF.out.cp; rw [ren_len] at this; exact this⟩
        have B0 : Hid (Below w.heap.size w wr) := (HB.out wr HF.out.bel).2
        have CQ := HQC.out wr _ HN.out.1 HN.out.2
        have HQB : Hid (Bo 25 wr qb #[.string (S P.id), .slice (some ⟨g, 0, none⟩) P.nodes.length gc, .slice fa P.flows.length fc]) := by
          have := HF.out.q
          rw [ren_len] at this
          exact this
        clear HF
        go_wp2_with (go_at_call 6; refine CQ.mono ?_; rintro e u1 ⟨rfl, hb1⟩; (have HX : Hid (∀ W, Below u1.heap.size u1 W → Below W1.heap.size W1 W ∧ Ns W (.slice (some ⟨g, 0, none⟩) P.nodes.length gc) (ren P P.nodes.length).nodes ∧ Bo 25 W qb #[.string (S P.id), .slice (some ⟨g, 0, none⟩) P.nodes.length gc, .slice fa P.flows.length fc] ∧ Below w.heap.size w W) := fun W hW => have h1 := bel_of HN.out.1 (hb1.trans (hW.mono hb1.size)) (Nat.le_refl _); ⟨h1, HN.out.2.up (hb1.trans (hW.mono hb1.size)), ((hb1.trans (hW.mono hb1.size)).block qb HQB.out.lt).trans HQB.out, (HB.out W h1).2⟩); clear hb1 CQ q0 q1 q2)
        have C1 : ∀ W, Below u1.heap.size u1 W → Calls Tryz.prog 7 #[.agg #[.string (S P.id), .slice (some ⟨nb, no, none⟩) P.nodes.length ncp, .slice fa P.flows.length fc]] W fun e w' => e = .returned (.bool lp) ∧ Below u1.heap.size u1 w' := fun W hW => (HO.out W (HX.out W hW).1).mono fun e w' hh => ⟨hh.1, bel_of hW hh.2 (Nat.le_refl _)⟩
        have C2 : ∀ W, Below u1.heap.size u1 W → Calls Tryz.prog 7 #[.agg #[.string (S P.id), .slice (some ⟨g, 0, none⟩) P.nodes.length gc, .slice fa P.flows.length fc]] W fun e w' => e = .returned (.bool lp) ∧ Below u1.heap.size u1 w' := fun W hW => (HQO.out W _ (HX.out W hW).1 (HX.out W hW).2.1).mono fun e w' hh => ⟨hh.1, bel_of hW hh.2 (Nat.le_refl _)⟩
        have HS : Hid (∀ W, Below u1.heap.size u1 W → W.cell? ⟨w.heap.size, 0, none⟩ = some (.string (S P.id)) ∧ W.cell? ⟨w.heap.size, 1, none⟩ = some (.slice (some ⟨nb, no, none⟩) P.nodes.length ncp) ∧ W.cell? ⟨w.heap.size, 2, none⟩ = some (.slice fa P.flows.length fc) ∧ W.cell? ⟨qb, 0, none⟩ = some (.string (S P.id)) ∧ W.cell? ⟨qb, 1, none⟩ = some (.slice (some ⟨g, 0, none⟩) P.nodes.length gc) ∧ W.cell? ⟨qb, 2, none⟩ = some (.slice fa P.flows.length fc)) := fun W hW => have h1 := (HB.out W (HX.out W hW).1).1; have h2 := (HX.out W hW).2.2.1; ⟨h1.c0, h1.c1, h1.c2, h2.c 0, h2.c 1, h2.c 2⟩
        have HE : Hid (∀ W, Below u1.heap.size u1 W → Below w.heap.size w W) := fun W hW => (HX.out W hW).2.2.2
        obtain ⟨k0, k1, k2, k3, k4, k5⟩ := HS.out u1 (Below.refl _ _)
        clear HX HQB HN B0 HO HQO HQC
        go_region_held3 (fun W => W.cell? ⟨w.heap.size, 0, none⟩ = some (.string (S P.id)) ∧ W.cell? ⟨w.heap.size, 1, none⟩ = some (.slice (some ⟨nb, no, none⟩) P.nodes.length ncp) ∧ W.cell? ⟨w.heap.size, 2, none⟩ = some (.slice fa P.flows.length fc) ∧ W.cell? ⟨qb, 0, none⟩ = some (.string (S P.id)) ∧ W.cell? ⟨qb, 1, none⟩ = some (.slice (some ⟨g, 0, none⟩) P.nodes.length gc) ∧ W.cell? ⟨qb, 2, none⟩ = some (.slice fa P.flows.length fc))
          (first | go_keep | exact HS.out _ (Below.refl _ _) | exact HS.out _ (Below.refl _ _).drew | exact HS.out _ hX)
          (first
            | (go_at_call 7; refine (C1 _ (by first | exact Below.refl _ _ | exact (Below.refl _ _).drew | exact hX)).mono ?_; rintro e u2 ⟨rfl, hX⟩; (have B2' : Hid (Below w.heap.size w u2) := HE.out _ hX); clear C1)
            | (go_at_call 7; refine (C2 _ (by first | exact Below.refl _ _ | exact (Below.refl _ _).drew | exact hX)).mono ?_; rintro e u2 ⟨rfl, hX⟩; (have B2' : Hid (Below w.heap.size w u2) := HE.out _ hX); clear C2))
        all_goals
          go_wp2
          go_ret
          exact ⟨by simp, B2'.out⟩
  · clear hnl
    obtain ⟨na, nc, rfl, -⟩ := hp.ns
    obtain ⟨fa, fc, rfl, -⟩ := hp.fs
    rw [he] at HC
    unfold pV
    clear he hp hz hg hW1 hB1 hpb HO
    generalize (chk P).2 = at' at *
    by_cases hn : 100 < P.nodes.length
    · have hn' : (100 : Int) < (P.nodes.length : Int) := by omega
      go_enter Tryz.func3, Tryz.ntmps3
      go_wp2_with (first
        | (go_at_call 5; rw [HW.out]; refine CS.mono ?_; rintro e w1 ⟨rfl, b1⟩; (have CC := HC.out w1 b1); obtain ⟨⟨c0, c1, c2, -, -⟩, -⟩ := HB.out w1 b1; clear b1 CS HC)
        | (go_at_call 6; refine CC.mono ?_; rintro e w2 ⟨rfl, b2⟩; clear c0 c1 c2; obtain ⟨⟨c0, c1, c2, -, -⟩, b9⟩ := HB.out w2 b2; (have B2 : Hid (Below w.heap.size w w2) := b9); clear b9 b2 CC))
      go_ret
      exact ⟨by simp, B2.out⟩
    · have hn' : ¬ (100 : Int) < (P.nodes.length : Int) := by omega
      go_enter Tryz.func3, Tryz.ntmps3
      go_wp2_with (first
        | (go_at_call 5; rw [HW.out]; refine CS.mono ?_; rintro e w1 ⟨rfl, b1⟩; (have CC := HC.out w1 b1); obtain ⟨⟨c0, c1, c2, -, -⟩, -⟩ := HB.out w1 b1; clear b1 CS HC)
        | (go_at_call 6; refine CC.mono ?_; rintro e w2 ⟨rfl, b2⟩; clear c0 c1 c2; obtain ⟨⟨c0, c1, c2, -, -⟩, b9⟩ := HB.out w2 b2; (have B2 : Hid (Below w.heap.size w w2) := b9); clear b9 b2 CC))
      go_ret
      exact ⟨by simp, B2.out⟩


open Go.ChangeShapes Go.WideShapes Go.ChangeAt Go.WideMaps Go.WideElems in
set_option maxRecDepth 100000 in
theorem lifted (os : Os) (started : os.Started) (H : Type) (enc : TypeId × Value → H) :
    ReturnsInHanded {} Tryz.checked os 3 .any (fun w args => (Rows.modelNamesSpec.pre enc Tryz.prog Tryz.f3 [] false w args ∧ laidMetH Tryz.prog laid7 w) ∧ sizedMet enc Tryz.prog Tryz.f3 (OpenSpec.ofChange Rows.modelNamesSpec) false w args)
      (Rows.modelNamesSpec.post enc Tryz.prog Tryz.f3 false true false false) := by
  refine returnsInHanded_of_change_and (C := Tryz.checked) (X := fun w _ => laidMetH Tryz.prog laid7 w) (fun _ _ _ hh h => h.of_heap hh) own11 started (by kernel_rfl) Tryz.func3
    (ChangeSpec.witness_shaped (enc := enc) (C := Tryz.checked) (os := os) (X := fun w _ => laidMetH Tryz.prog laid7 w) false (World.doorLaid Tryz.prog 400 os) #[.agg #[.string .empty, .slice none 0 0, .slice none 0 0]] 8 rfl (World.shaped_of_RefB (by kernel_rfl) (by kernel_rfl)) (by kernel_rfl) (by kernel_rfl) (by kernel_rfl) (door_met os _)) ?_
  intro W base args ds gs before hval0 hW hcnd hsz0 hL _
  have hval : ∀ (j : Nat) t v, Tryz.f3.params[j]? = some t → args[j]? = some v → Value.okWide Tryz.prog W .any base t v := hval0
  have hW' := hW
  obtain ⟨p, q, hA0, hV, rfl, hfz, hnd⟩ := hW
  have hA : DataW.TrodAll enc Tryz.prog W 0 (fun _ => true) true Tryz.f3.params.toList args.toList ds p := hA0
  have hsz : (DataW.weightsEach Tryz.prog (Tryz.f3.params.toList ++ Rows.modelNamesSpec.plain.varTypes Tryz.prog) (ds ++ gs)).all (· ≤ reachBytes) = true := hsz0
  rw [Tryz.params3] at hA hval hsz
  obtain ⟨v0, vs0, d0, ds0, p0, q0, hargs, rfl, rfl, h0, r0⟩ := trodAll_cons hA
  obtain ⟨rfl, rfl, rfl⟩ := trodAll_nil r0
  obtain rfl : args = #[v0] := by cases args; simp_all
  obtain ⟨rfl, rfl⟩ := trodVars_none hV
  have lt0 : ∀ x ∈ p0, x.block < W.heap.size := by obtain ⟨m, hm⟩ := h0; exact DataW.trod_lt m _ _ _ hm
  obtain ⟨P, nv, fv, rfl, hpo, hpz⟩ := openProc (hval 0 25 v0 rfl rfl) h0
  have hz := hpz (sized_at hsz (i := 0) rfl rfl)
  clear hA0 hval0
  refine (walk hpo hz (gg_of hL)).mono fun e W' ⟨he, bel⟩ => ?_
  subst he
  exact ⟨_, rfl, _, _, _, [], _, [], hW', trodAll_mk1 (shut_bool Tryz.underlying4 _), (trodAll_cons_mk (Below.trod laidOut11 (by kernel_rfl) (of_decide_eq_true (by kernel_rfl)) h0 bel lt0) trodAll_mk0), rfl, bel.frame _, fun h => by cases h⟩
theorem said : Rows.ModelNamesSaid :=
  OpenClaim.holds_of_wide 3 Tryz.f3 rfl rfl rfl rfl rfl rfl rfl ⟨rfl, rfl, rfl, rfl, rfl⟩ rfl rfl rfl rfl rfl (by kernel_rfl) Tryz.func3 (by kernel_rfl)
    (of_decide_eq_true (by kernel_rfl)) (by unfold Func.isWrapper; first | (rw [if_pos (by decide +kernel)]; kernel_rfl) | (rw [if_neg (by decide +kernel)]; exact ⟨rfl, rfl⟩))
    (fun os started H enc _ => lifted os started H enc)
theorem proved : Rows.ModelNamesCardSaid :=
  Claim7.holds_tied_plain_at .later [] [.data, .data, .data, .sentinel, .sentinel, .data, .data] true (true, "6b3e2f32df09579b23b1571f5a803df6437aa8e6256f6e90d5367955ddb691b1") true
    said (fun _ h => by cases h) (by kernel_rfl) (fun _ h => by cases h) modelNames_row_tie rfl ⟨rfl, rfl⟩ (by kernel_rfl) rfl
    (fun f fn hf hfn => by
      obtain rfl : f = 3 := Option.some.inj ((show Tryz.prog.funcNamed "wherry/wherrylaw11.ModelNames" = some 3 by kernel_rfl).symm.trans hf) |>.symm
      obtain rfl : fn = Tryz.f3 := (Option.some.inj (Tryz.func3.symm.trans hfn)).symm
      exact ⟨by kernel_rfl, fun j t ht => by
        rw [Tryz.params3] at ht
        have hm : t ∈ [25] := by simpa using Array.mem_of_getElem? ht
        have hall : ([25].all fun u => !Tryz.prog.wantsStandIn u) = true := by kernel_rfl
        exact (show Tryz.prog.wantsStandIn t = false by simpa using List.all_eq_true.1 hall t hm)⟩)
    (by kernel_rfl)
end Go.Proofs.YtlmdoiagjepmbaaGreatDoor.modelNames

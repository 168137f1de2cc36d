/-
  Proved: for every process ModelRounds answers true, and changes nothing that was there before the call: a process in which one can't go round without waiting can be gone through in an order. The program's own tables are as its text lays them (the card).
-/
import Derived.Test.YtlmdoiagjepmbaaGreatDoorM11Rw
import Derived.Test.YtlmdoiagjepmbaaGreatDoorM11Arg
namespace Go.Proofs.YtlmdoiagjepmbaaGreatDoor.modelRounds
open Go.Proofs.YtlmdoiagjepmbaaGreatDoor.x10 hiding bel_of
open Go.Proofs.YtlmdoiagjepmbaaGreatDoor.m11
open Go.RowKit Go.Shelf Go.Sort
open Go.Lib hiding intOf

/-- what is known of node i when j flows were looked at -/
def okj (P : Pc) (D : List Bool) (i j : Nat) : Bool := D[i]? == some false && (P.flows.take j).all fun f => !(blk P D i f)
theorem okj_next {P : Pc} {D : List Bool} {i j : Nat} (hj : j < P.flows.length) (h : okj P D i j = true) : okj P D i (j + 1) = !(blk P D i P.flows[j]) := by
  unfold okj at h ⊢
  rw [Bool.and_eq_true] at h
  rw [tk_succ hj, List.all_append, h.1, h.2]
  simp
theorem okj_no {P : Pc} {D : List Bool} {i j : Nat} (h : okj P D i j = false) : may1 P D i = false := by
  unfold okj at h
  unfold may1
  cases h1 : (D[i]? == some false) with
  | false => rfl
  | true =>
    rw [h1, Bool.true_and] at h
    rw [Bool.true_and]
    obtain ⟨f, hf, hb⟩ := List.all_eq_false.1 h
    exact List.all_eq_false.2 ⟨f, List.mem_of_mem_take hf, hb⟩
theorem okj_end {P : Pc} {D : List Bool} {i : Nat} : okj P D i P.flows.length = may1 P D i := by
  unfold okj may1
  rw [List.take_length]
theorem okj_zero {P : Pc} {D : List Bool} {i : Nat} {v : Bool} (h : D[i]? = some v) : okj P D i 0 = !v := by
  unfold okj
  rw [h]
  cases v <;> rfl

set_option maxRecDepth 100000 in
set_option maxHeartbeats 3000000 in
theorem walk {w : World} {nv fv : Value} {P : Pc} (hp : Po w nv fv P) (hz : Pz P) (hg : Gg w) : Calls Tryz.prog 4 #[pV P.id nv fv] w fun e w' => e = .returned (.bool true) ∧ Below w.heap.size w w' := by
  obtain ⟨i0, hi0, hz0, hz1, hz2⟩ := info_parts infoB
  obtain ⟨W1, hW1⟩ : ∃ W1, w.alloc (.cells #[.string (S P.id), nv, fv] 25) = W1 := ⟨_, rfl⟩
  have hB1 : Below w.heap.size w W1 := by rw [← hW1]; exact (Below.refl _ w).alloc (Nat.le_refl _) _
  have hpb : Pb W1 w.heap.size nv fv P := by rw [← hW1]; exact Pb.new hp
  have CS := shown_any (hg.up hB1)
  have HB : Hid (∀ W, Below W1.heap.size W1 W → Pb W w.heap.size nv fv P ∧ Below w.heap.size w W) := fun W hW => ⟨hpb.up hW, bel_of hB1 hW (Nat.le_refl _)⟩
  have HC : Hid (∀ W, Below W1.heap.size W1 W → Calls Tryz.prog 6 #[.agg #[.string (S P.id), nv, fv]] W fun e w' => e = .returned (.tuple #[.int .i64 (chk P).1, .int .i64 (chk P).2]) ∧ Below W1.heap.size W1 w') := fun W hW => (Check_any (hpb.up hW).po hz ((hg.up hB1).up hW)).mono fun _ _ ⟨h1, h2⟩ => ⟨h1, bel_of hW h2 (Nat.le_refl _)⟩
  have HO : Hid (∀ W, Below W1.heap.size W1 W → Calls Tryz.prog 7 #[.agg #[.string (S P.id), nv, fv]] W fun e w' => e = .returned (.bool (lps P)) ∧ Below W1.heap.size W1 w') := fun W hW => (Loops_any (hpb.up hW).po hz ((hg.up hB1).up hW)).mono fun _ _ ⟨h1, h2⟩ => ⟨h1, bel_of hW h2 (Nat.le_refl _)⟩
  have HW : Hid (_ = W1) := hW1
  have hmk := mk_bools hi0 hz0 hz1 hz2 P.nodes.length hz.nl
  have hnl := hz.nl
  have hfl := hz.fl
  have HZ : Hid (∀ W : World, Cb (W.alloc (.cells (madeCells (Value.bool false).cells (P.nodes.length * 1)) 4)) W.heap.size (List.replicate P.nodes.length false)) := fun W => Cb.new W P.nodes.length
  obtain ⟨na, nc, rfl, -⟩ := hp.ns
  obtain ⟨fa, fc, rfl, -⟩ := hp.fs
  generalize madeCells (Value.bool false).cells (P.nodes.length * 1) = Z at *
  unfold pV
  clear hp hz hg hW1 hB1 hpb hz0 hz1 hz2 hi0
  rcases chk_err P with he | he
  · have HL : Hid (lps P = decide (0 < (trns P (P.nodes.length + 1)).count false)) := lps_order he
    obtain ⟨HOK, hck⟩ : Hid (Oki P) ∧ chk P = (0, -1) := chk_zero he
    rw [hck] at HC
    clear he hck
    generalize lps P = lp at *
    have HM : Hid (∀ W, Below W1.heap.size W1 W → W.cell? ⟨w.heap.size, 1, none⟩ = some (.slice na P.nodes.length nc) ∧ (W.alloc (.cells Z 4)).cell? ⟨w.heap.size, 1, none⟩ = some (.slice na P.nodes.length nc) ∧ Rw W1 W.heap.size (W.alloc (.cells Z 4)) (trns P 0)) := by
      intro W hW
      have h1 : Below W1.heap.size W1 (W.alloc (.cells Z 4)) := hW.alloc hW.size _
      exact ⟨(HB.out _ hW).1.c1, (HB.out _ h1).1.c1, ⟨hW.size, h1, HZ.out W⟩⟩
    have HCN : Hid ((trns P 0).count false = P.nodes.length) := by show _ = _; simp [trns]
    go_enter Tryz.func4, Tryz.ntmps4
    go_wp2_with (first
      | (go_at_call 5; rw [HW.out]; refine CS.mono ?_; rintro e w1 ⟨rfl, b1⟩; (have CC := HC.out w1 b1); obtain ⟨⟨c0, c1, c2, -, -⟩, -⟩ := HB.out w1 b1; clear b1 CS HC)
      | (go_at_call 6; refine CC.mono ?_; rintro e w2 ⟨rfl, b2⟩; clear c0 c1 c2; (have CO := HO.out w2 b2); obtain ⟨⟨c0, c1, c2, -, -⟩, -⟩ := HB.out w2 b2; clear b2 CC HO)
      | (go_at_call 7; refine CO.mono ?_; rintro e w3 ⟨rfl, b3⟩; obtain ⟨d1, d2, d3⟩ := HM.out w3 b3; (have FW0 : Hid _ := d3); clear b3 CO c0 c1 c2 HM d3))
    obtain ⟨bd, hbd⟩ : ∃ b, b = w3.heap.size := ⟨_, rfl⟩
    rw [← hbd] at FW0 ⊢
    clear d1 d2 hbd
    go_loopw [9, 8] (fun v9 v8 wr => ∃ t c : Nat, v9 = .int .i64 (t : Int) ∧ v8 = .int .i64 (c : Int) ∧ t ≤ P.nodes.length + 1 ∧ Hid (c = (trns P t).count false) ∧ Hid (Rw W1 bd wr (trns P t))) (fun v9 _ _ => P.nodes.length + 1 - (intOf v9).toNat)
    case atStart => exact ⟨0, P.nodes.length, rfl, rfl, Nat.zero_le _, HCN.out.symm, FW0.out⟩
    case round =>
      obtain ⟨t, c, rfl, rfl, ht, HK, HF⟩ := hrel
      obtain ⟨wo, hwo⟩ : ∃ wo, wo = wr := ⟨_, rfl⟩
      subst hwo
      clear FW0
      obtain ⟨⟨c0, c1, c2, clt, c5⟩, -⟩ := HB.out wo HF.out.bel
      clear c5 clt
      by_cases htl : t ≤ P.nodes.length
      · have htl' : (t : Int) ≤ (P.nodes.length : Int) := by omega
        have hDl : Hid ((trns P t).length = P.nodes.length) := trns_len P t
        have HSW : Hid (trns P (t + 1) = swp P (trns P t) P.nodes.length) := by show _ = _; rfl
        have HF0 : Hid (Rw W1 bd wo (swp P (trns P t) 0)) := HF.out
        have HK0 : Hid (c = (swp P (trns P t) 0).count false) := HK.out
        clear HF HK
        go_wp2
        go_loopw [10, 8] (fun v10 v8 wr => ∃ i c : Nat, v10 = .int .i64 (i : Int) ∧ v8 = .int .i64 (c : Int) ∧ i ≤ P.nodes.length ∧ Hid (c = (swp P (trns P t) i).count false) ∧ Hid (Rw W1 bd wr (swp P (trns P t) i))) (fun v10 _ _ => P.nodes.length - (intOf v10).toNat)
        case atStart => exact ⟨0, c, rfl, rfl, Nat.zero_le _, HK0.out, HF0.out⟩
        case round =>
          obtain ⟨i, c, rfl, rfl, hi, HK, HF⟩ := hrel
          obtain ⟨wp, hwp⟩ : ∃ wp, wp = wr := ⟨_, rfl⟩
          subst hwp
          clear HF0 HK0 c0 c1 c2
          obtain ⟨⟨c0, c1, c2, clt, c5⟩, -⟩ := HB.out wp HF.out.bel
          by_cases hil : i < P.nodes.length
          · have hil' : (i : Int) < (P.nodes.length : Int) := by omega
            have hi0 : (0 : Int) ≤ (i : Int) := by omega
            have HST : Hid (swp P (trns P t) (i + 1) = stp1 P (swp P (trns P t) i) i) := by show _ = _; rfl
            have hDn : (swp P (trns P t) i).length = P.nodes.length := (swp_len P _ i).trans hDl.out
            have hcn : c ≤ P.nodes.length := by rw [HK.out, ← hDn]; exact List.count_le_length
            generalize swp P (trns P t) i = D at *
            obtain ⟨d, hd⟩ : ∃ d, D[i]? = some d := ⟨_, List.getElem?_eq_getElem (by omega)⟩
            have m1 := HF.out.row.c hd
            have HD : Hid (D[i]? = some d ∧ D.length = P.nodes.length) := ⟨hd, hDn⟩
            have HOZ : Hid (okj P D i 0 = !d) := okj_zero hd
            clear hd hDn
            obtain ⟨nb, no, ncc, hsl, -, -, hcell⟩ := c5.ns.at hil
            cases hsl
            have n0' := (hcell _ (Below.refl _ _) i hil).c0
            have HWK : Hid (wai (P.nd (i : Int)).kind = wai P.nodes[i].kind) := by show _ = _; rw [nd_at P hil]
            have CWA := refWaits_any P.nodes[i].kind
            generalize P.nodes[i].kind = ki at *
            generalize hwk : wai ki = wk at *
            clear hcell
            go_wp2
            go_loopw [12, 11] (fun v12 v11 wr => ∃ j : Nat, v12 = .int .i64 (j : Int) ∧ v11 = .bool (okj P D i j) ∧ j ≤ P.flows.length ∧ wr = wp) (fun v12 _ _ => P.flows.length - (intOf v12).toNat)
            case atStart => exact ⟨0, rfl, by rw [HOZ.out], Nat.zero_le _, rfl⟩
            case round =>
              obtain ⟨j, rfl, rfl, hj, rfl⟩ := hrel
              clear HOZ
              by_cases hjl : j < P.flows.length
              · have hjl' : (j : Int) < (P.flows.length : Int) := by omega
                have hj0 : (0 : Int) ≤ (j : Int) := by omega
                cases hok : okj P D i j with
                | true =>
                  have HNX : Hid (okj P D i (j + 1) = !(blk P D i P.flows[j])) := okj_next hjl hok
                  obtain ⟨a, b, ha, hb, ha', hb', -⟩ := HOK.out.ends hjl
                  obtain ⟨fb, fo, fcc, hsl, -, -, hcell⟩ := c5.fs.at hjl
                  cases hsl
                  obtain ⟨m2, m3, -⟩ := hcell _ (Below.refl _ _) j hjl
                  obtain ⟨e, hd⟩ : ∃ e, D[b]? = some e := ⟨_, List.getElem?_eq_getElem (by rw [HD.out.2]; exact hb')⟩
                  have m4 := HF.out.row.c hd
                  have HBK : Hid (blk P D i P.flows[j] = (P.flows[j].src == (i : Int) && !wk && !e)) := by
                    show _ = _
                    unfold blk
                    rw [HWK.out, hb, Int.toNat_natCast, hd]
                    rfl
                  rw [hb] at m3
                  have i1 : (0 : Int) ≤ (b : Int) := by omega
                  have i2 : (b : Int) < (P.nodes.length : Int) := by omega
                  clear hcell hd ha ha' hb hb' hok
                  generalize P.flows[j].src = sx at *
                  by_cases hs : sx = (i : Int)
                  · subst hs
                    rw [beq_self_eq_true, Bool.true_and] at HBK
                    cases wk with
                    | true =>
                      rw [HBK.out] at HNX
                      go_wp2_with (go_at_call 8; refine (CWA _).mono ?_; rintro e1 w9 ⟨rfl, hw9⟩; rw [hw9]; clear hw9 w9)
                      go_roundw
                      case rel => exact ⟨j + 1, by simp, by rw [HNX.out]; rfl, by omega, by trivial⟩
                      case measure => simp [intOf]; omega
                    | false =>
                      cases e with
                      | true =>
                        rw [HBK.out] at HNX
                        go_wp2_with (go_at_call 8; refine (CWA _).mono ?_; rintro e1 w9 ⟨rfl, hw9⟩; rw [hw9]; clear hw9 w9)
                        go_roundw
                        case rel => exact ⟨j + 1, by simp, by rw [HNX.out]; rfl, by omega, by trivial⟩
                        case measure => simp [intOf]; omega
                      | false =>
                        rw [HBK.out] at HNX
                        go_wp2_with (go_at_call 8; refine (CWA _).mono ?_; rintro e1 w9 ⟨rfl, hw9⟩; rw [hw9]; clear hw9 w9)
                        go_roundw
                        case rel => exact ⟨j + 1, by simp, by rw [HNX.out]; rfl, by omega, by trivial⟩
                        case measure => simp [intOf]; omega
                  · have hs' : (sx == (i : Int)) = false := by simpa using hs
                    rw [HBK.out, hs'] at HNX
                    go_wp2_with (go_at_call 8; refine (CWA _).mono ?_; rintro e1 w9 ⟨rfl, hw9⟩; rw [hw9]; clear hw9 w9)
                    go_roundw
                    case rel => exact ⟨j + 1, by simp, by rw [HNX.out]; rfl, by omega, by trivial⟩
                    case measure => simp [intOf]; omega
                | false =>
                  have HNO : Hid (may1 P D i = false) := okj_no hok
                  clear hok
                  go_wp2
                  go_roundw
                  case rel => exact ⟨i + 1, c, by simp, rfl, by omega, by show _ = _; rw [HST.out, stp1, HNO.out]; exact HK.out, by rw [HST.out, stp1, HNO.out]; exact HF.out⟩
                  case measure => simp [intOf]; omega
              · have hjl' : ¬ (j : Int) < (P.flows.length : Int) := by omega
                obtain rfl : j = P.flows.length := by omega
                cases hok : okj P D i P.flows.length with
                | true =>
                  have HNO : Hid (may1 P D i = true) := okj_end.symm.trans hok
                  have hmy := HNO.out
                  unfold may1 at hmy
                  rw [Bool.and_eq_true, beq_iff_eq] at hmy
                  have hct := set_count hmy.1
                  obtain rfl : d = false := Option.some.inj (HD.out.1.symm.trans hmy.1)
                  obtain ⟨c', hc'⟩ : ∃ c', c = c' + 1 := ⟨c - 1, by rw [HK.out]; omega⟩
                  have HC' : Hid (c' = (D.set i true).count false) := by show _ = _; have := HK.out; omega
                  have i7 : (c : Int) - 1 = (c' : Int) := by omega
                  have i11 : IntKind.i64.wrap (c' : Int) = (c' : Int) := by rw [IntKind.wrap_i64]; omega
                  have i12 : IntKind.i64.wrap ((c : Int) - 1) = (c' : Int) := by rw [i7, i11]
                  have m5 := HF.out.row.f i
                  clear hok hmy hct hc'
                  go_wp2
                  go_roundw
                  case rel => exact ⟨i + 1, c', by simp, rfl, by omega, by show _ = _; rw [HST.out, stp1, HNO.out]; exact HC'.out, by rw [HST.out, stp1, HNO.out]; exact HF.out.set i⟩
                  case measure => simp [intOf]; omega
                | false =>
                  have HNO : Hid (may1 P D i = false) := okj_no hok
                  clear hok
                  go_wp2
                  go_roundw
                  case rel => exact ⟨i + 1, c, by simp, rfl, by omega, by show _ = _; rw [HST.out, stp1, HNO.out]; exact HK.out, by rw [HST.out, stp1, HNO.out]; exact HF.out⟩
                  case measure => simp [intOf]; omega
          · have hil' : ¬ (i : Int) < (P.nodes.length : Int) := by omega
            obtain rfl : i = P.nodes.length := by omega
            clear c5
            go_wp2
            go_roundw
            case rel => exact ⟨t + 1, c, by simp, rfl, by omega, by show _ = _; rw [HSW.out]; exact HK.out, by rw [HSW.out]; exact HF.out⟩
            case measure => simp [intOf]; omega
      · have htl' : ¬ (t : Int) ≤ (P.nodes.length : Int) := by omega
        obtain rfl : t = P.nodes.length + 1 := by omega
        have B9 : Hid (Below w.heap.size w wo) := (HB.out wo HF.out.bel).2
        have HE : Hid (lp = decide (0 < c)) := by show _ = _; rw [HL.out, HK.out]
        clear HK HF HL
        by_cases hc : 0 < c
        · obtain rfl : lp = true := by rw [HE.out]; simpa using hc
          have hc' : (0 : Int) < (c : Int) := by omega
          go_wp2
          go_ret
          exact ⟨by simp, B9.out⟩
        · obtain rfl : lp = false := by rw [HE.out]; simpa using hc
          obtain rfl : c = 0 := by omega
          go_wp2
          go_ret
          exact ⟨by simp, B9.out⟩
  · have HL : Hid (lps P = false) := by show _ = _; unfold lps; rw [he]; rfl
    rw [he] at HC
    rw [HL.out] at HO
    clear he HL
    generalize (chk P).2 = at' at *
    go_enter Tryz.func4, Tryz.ntmps4
    go_wp2_with (first
      | (go_at_call 5; rw [HW.out]; refine CS.mono ?_; rintro e w1 ⟨rfl, b1⟩; (have CC := HC.out w1 b1); obtain ⟨⟨c0, c1, c2, -, -⟩, -⟩ := HB.out w1 b1; clear b1 CS HC)
      | (go_at_call 6; refine CC.mono ?_; rintro e w2 ⟨rfl, b2⟩; clear c0 c1 c2; (have CO := HO.out w2 b2); obtain ⟨⟨c0, c1, c2, -, -⟩, -⟩ := HB.out w2 b2; clear b2 CC HO)
      | (go_at_call 7; refine CO.mono ?_; rintro e w3 ⟨rfl, b3⟩; (have B2 : Hid (Below w.heap.size w w3) := (HB.out w3 b3).2); clear b3 CO c0 c1 c2))
    go_ret
    exact ⟨by simp, B2.out⟩


open Go.ChangeShapes Go.WideShapes Go.ChangeAt Go.WideMaps Go.WideElems in
set_option maxRecDepth 100000 in
theorem lifted (os : Os) (started : os.Started) (H : Type) (enc : TypeId × Value → H) :
    ReturnsInHanded {} Tryz.checked os 4 .any (fun w args => (Rows.modelRoundsSpec.pre enc Tryz.prog Tryz.f4 [] false w args ∧ laidMetH Tryz.prog laid7 w) ∧ sizedMet enc Tryz.prog Tryz.f4 (OpenSpec.ofChange Rows.modelRoundsSpec) false w args)
      (Rows.modelRoundsSpec.post enc Tryz.prog Tryz.f4 false true false false) := by
  refine returnsInHanded_of_change_and (C := Tryz.checked) (X := fun w _ => laidMetH Tryz.prog laid7 w) (fun _ _ _ hh h => h.of_heap hh) own11 started (by kernel_rfl) Tryz.func4
    (ChangeSpec.witness_shaped (enc := enc) (C := Tryz.checked) (os := os) (X := fun w _ => laidMetH Tryz.prog laid7 w) false (World.doorLaid Tryz.prog 400 os) #[.agg #[.string .empty, .slice none 0 0, .slice none 0 0]] 8 rfl (World.shaped_of_RefB (by kernel_rfl) (by kernel_rfl)) (by kernel_rfl) (by kernel_rfl) (by kernel_rfl) (door_met os _)) ?_
  intro W base args ds gs before hval0 hW hcnd hsz0 hL _
  have hval : ∀ (j : Nat) t v, Tryz.f4.params[j]? = some t → args[j]? = some v → Value.okWide Tryz.prog W .any base t v := hval0
  have hW' := hW
  obtain ⟨p, q, hA0, hV, rfl, hfz, hnd⟩ := hW
  have hA : DataW.TrodAll enc Tryz.prog W 0 (fun _ => true) true Tryz.f4.params.toList args.toList ds p := hA0
  have hsz : (DataW.weightsEach Tryz.prog (Tryz.f4.params.toList ++ Rows.modelRoundsSpec.plain.varTypes Tryz.prog) (ds ++ gs)).all (· ≤ reachBytes) = true := hsz0
  rw [Tryz.params4] at hA hval hsz
  obtain ⟨v0, vs0, d0, ds0, p0, q0, hargs, rfl, rfl, h0, r0⟩ := trodAll_cons hA
  obtain ⟨rfl, rfl, rfl⟩ := trodAll_nil r0
  obtain rfl : args = #[v0] := by cases args; simp_all
  obtain ⟨rfl, rfl⟩ := trodVars_none hV
  have lt0 : ∀ x ∈ p0, x.block < W.heap.size := by obtain ⟨m, hm⟩ := h0; exact DataW.trod_lt m _ _ _ hm
  obtain ⟨P, nv, fv, rfl, hpo, hpz⟩ := openProc (hval 0 25 v0 rfl rfl) h0
  have hz := hpz (sized_at hsz (i := 0) rfl rfl)
  clear hA0 hval0
  refine (walk hpo hz (gg_of hL)).mono fun e W' ⟨he, bel⟩ => ?_
  subst he
  exact ⟨_, rfl, _, _, _, [], _, [], hW', trodAll_mk1 (shut_bool Tryz.underlying4 _), (trodAll_cons_mk (Below.trod laidOut11 (by kernel_rfl) (of_decide_eq_true (by kernel_rfl)) h0 bel lt0) trodAll_mk0), rfl, bel.frame _, fun h => by cases h⟩
theorem said : Rows.ModelRoundsSaid :=
  OpenClaim.holds_of_wide 4 Tryz.f4 rfl rfl rfl rfl rfl rfl rfl ⟨rfl, rfl, rfl, rfl, rfl⟩ rfl rfl rfl rfl rfl (by kernel_rfl) Tryz.func4 (by kernel_rfl)
    (of_decide_eq_true (by kernel_rfl)) (by unfold Func.isWrapper; first | (rw [if_pos (by decide +kernel)]; kernel_rfl) | (rw [if_neg (by decide +kernel)]; exact ⟨rfl, rfl⟩))
    (fun os started H enc _ => lifted os started H enc)
theorem proved : Rows.ModelRoundsCardSaid :=
  Claim7.holds_tied_plain_at .later [] [.data, .data, .data, .sentinel, .sentinel, .data, .data] true (true, "6b3e2f32df09579b23b1571f5a803df6437aa8e6256f6e90d5367955ddb691b1") true
    said (fun _ h => by cases h) (by kernel_rfl) (fun _ h => by cases h) modelRounds_row_tie rfl ⟨rfl, rfl⟩ (by kernel_rfl) rfl
    (fun f fn hf hfn => by
      obtain rfl : f = 4 := Option.some.inj ((show Tryz.prog.funcNamed "wherry/wherrylaw11.ModelRounds" = some 4 by kernel_rfl).symm.trans hf) |>.symm
      obtain rfl : fn = Tryz.f4 := (Option.some.inj (Tryz.func4.symm.trans hfn)).symm
      exact ⟨by kernel_rfl, fun j t ht => by
        rw [Tryz.params4] at ht
        have hm : t ∈ [25] := by simpa using Array.mem_of_getElem? ht
        have hall : ([25].all fun u => !Tryz.prog.wantsStandIn u) = true := by kernel_rfl
        exact (show Tryz.prog.wantsStandIn t = false by simpa using List.all_eq_true.1 hall t hm)⟩)
    (by kernel_rfl)
end Go.Proofs.YtlmdoiagjepmbaaGreatDoor.modelRounds

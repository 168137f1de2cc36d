/-
  Proved: for every process ModelFlows answers true, and changes nothing that was there before the call: the flows out of all nodes of a process that may be, and those into all, are all its flows, each once. The program's own tables are as its text lays them (the card's tie).
-/
import Derived.Test.YtkbhngdabfoboabGreatDoorGFlow
import Derived.Test.YtkbhngdabfoboabGreatDoorM11Arg
namespace Go.Proofs.YtkbhngdabfoboabGreatDoor.modelFlows
open Go.Proofs.YtkbhngdabfoboabGreatDoor.x10 hiding bel_of
open Go.Proofs.YtkbhngdabfoboabGreatDoor.m11
open Go.RowKit Go.Shelf Go.Sort
open Go.Lib hiding intOf

set_option maxRecDepth 100000 in
set_option maxHeartbeats 3000000 in
theorem walk {w : World} {nv fv : Value} {P : Pc} (hp : Po w nv fv P) (hz : Pz P) (hg : Gg w) : Calls Tryz.prog 3 #[pV P.id nv fv] w fun e w' => e = .returned (.bool true) ∧ Below w.heap.size w w' := by
  obtain ⟨i0, hi0, hz0, hz1, hz2⟩ := info_parts infoI
  obtain ⟨W1, hW1⟩ : ∃ W1, w.alloc (.cells #[.string (S P.id), nv, fv] 25) = W1 := ⟨_, rfl⟩
  have hB1 : Below w.heap.size w W1 := by rw [← hW1]; exact (Below.refl _ w).alloc (Nat.le_refl _) _
  have hpb : Pb W1 w.heap.size nv fv P := by rw [← hW1]; exact Pb.new hp
  have CS := shown_any (hg.up hB1)
  have HB : Hid (∀ W, Below W1.heap.size W1 W → Pb W w.heap.size nv fv P ∧ Below w.heap.size w W) := fun W hW => ⟨hpb.up hW, bel_of hB1 hW (Nat.le_refl _)⟩
  have HC : Hid (∀ W, Below W1.heap.size W1 W → Calls Tryz.prog 6 #[.agg #[.string (S P.id), nv, fv]] W fun e w' => e = .returned (.tuple #[.int .i64 (chk P).1, .int .i64 (chk P).2]) ∧ Below W1.heap.size W1 w') := fun W hW => (Check_any (hpb.up hW).po hz ((hg.up hB1).up hW)).mono fun e w' hh => ⟨hh.1, bel_of hW hh.2 (Nat.le_refl _)⟩
  have HO : Hid (∀ W i, Below W1.heap.size W1 W → Calls Tryz.prog 7 #[.agg #[.string (S P.id), nv, fv], .int .i64 i] W fun e w' => ∃ a c, e = .returned (.slice a (ous P i).length c) ∧ Ir W.heap.size w' a (ous P i) ∧ Below W.heap.size W w') := fun W i hW => Outs_row (hpb.up hW).po hz i
  have HI : Hid (∀ W i, Below W1.heap.size W1 W → Calls Tryz.prog 8 #[.agg #[.string (S P.id), nv, fv], .int .i64 i] W fun e w' => ∃ a c, e = .returned (.slice a (ins P i).length c) ∧ Ir W.heap.size w' a (ins P i) ∧ Below W.heap.size W w') := fun W i hW => Ins_row (hpb.up hW).po hz i
  have HW : Hid (_ = W1) := hW1
  have hmk := mk_ints hi0 hz0 hz1 hz2 P.flows.length hz.fl
  have hnl := hz.nl
  have hfl := hz.fl
  have HZ : Hid (∀ j, j < P.flows.length → (madeCells (Value.int .i64 0).cells (P.flows.length * 1))[j]? = some (.int .i64 0)) := fun j hj => zeros j hj
  obtain ⟨na, nc, rfl, -⟩ := hp.ns
  obtain ⟨fa, fc, rfl, -⟩ := hp.fs
  generalize madeCells (Value.int .i64 0).cells (P.flows.length * 1) = Z at *
  unfold pV
  clear hp hz hg hW1 hB1 hpb hz0 hz1 hz2 hi0
  rcases chk_err P with he | he
  · obtain ⟨HOK, hck⟩ : Hid (Oki P) ∧ chk P = (0, -1) := chk_zero he
    rw [hck] at HC
    clear he hck
    have HM : Hid (∀ W, Below W1.heap.size W1 W → W.cell? ⟨w.heap.size, 2, none⟩ = some (.slice fa P.flows.length fc) ∧ (W.alloc (.cells Z 3)).cell? ⟨w.heap.size, 2, none⟩ = some (.slice fa P.flows.length fc) ∧ Fw W1 W.heap.size (W.heap.size + 1) P.flows.length ((W.alloc (.cells Z 3)).alloc (.cells Z 3)) (ctf Fl.src P.flows 0 []) (ctf Fl.dst P.flows 0 [])) := fun W hW => by
      have h1 : Below W1.heap.size W1 (W.alloc (.cells Z 3)) := hW.alloc hW.size _
      have h2 : Below W1.heap.size W1 ((W.alloc (.cells Z 3)).alloc (.cells Z 3)) := h1.alloc h1.size _
      have o1 := ((Ca.new W P.flows.length Z HZ.out).up ((Below.refl _ _).alloc (Nat.le_refl _) (.cells Z 3))).same (g := ctf Fl.src P.flows 0 []) (ctf_start fun j hj => by obtain ⟨a, b, ha, hb, -⟩ := HOK.out.ends hj; rw [ha]; omega)
      have o2 := (Ca.new (W.alloc (.cells Z 3)) P.flows.length Z HZ.out).same (g := ctf Fl.dst P.flows 0 []) (ctf_start fun j hj => by obtain ⟨a, b, ha, hb, -⟩ := HOK.out.ends hj; rw [hb]; omega)
      rw [World.size_alloc] at o2
      exact ⟨(HB.out _ hW).1.c2, (HB.out _ h1).1.c2, ⟨hW.size, Nat.lt_succ_self _, h2, o1, o2⟩⟩
    go_enter Tryz.func3, Tryz.ntmps3
    go_wp2_with (first
      | (go_at_call 5; rw [HW.out]; refine CS.mono ?_; rintro e w1 ⟨rfl, b1⟩; (have CC := HC.out w1 b1); obtain ⟨⟨c0, c1, c2, -, -⟩, -⟩ := HB.out w1 b1; clear b1 CS HC)
      | (go_at_call 6; refine CC.mono ?_; rintro e w2 ⟨rfl, b2⟩; obtain ⟨d1, d2, d3⟩ := HM.out w2 b2; (have FW0 : Hid _ := d3); clear b2 CC c0 c1 c2 HM d3))
    obtain ⟨bo, hbo⟩ : ∃ b, b = w2.heap.size := ⟨_, rfl⟩
    obtain ⟨bi, hbi⟩ : ∃ b, b = w2.heap.size + 1 := ⟨_, rfl⟩
    rw [← hbi] at FW0 ⊢
    rw [← hbo] at FW0 ⊢
    clear d1 d2 hbo hbi
    go_loopw [8] (fun v8 wr => ∃ i : Nat, v8 = .int .i64 (i : Int) ∧ i ≤ P.nodes.length ∧ Hid (Fw W1 bo bi P.flows.length wr (ctf Fl.src P.flows (i : Int) []) (ctf Fl.dst P.flows (i : Int) []))) (fun v8 _ => P.nodes.length - (intOf v8).toNat)
    case atStart => exact ⟨0, rfl, Nat.zero_le _, FW0.out⟩
    case round =>
      obtain ⟨i, rfl, hi, HF⟩ := hrel
      obtain ⟨wo, hwo⟩ : ∃ wo, wo = wr := ⟨_, rfl⟩
      subst hwo
      clear FW0
      obtain ⟨⟨c0, c1, c2, clt, c5⟩, -⟩ := HB.out wo HF.out.bel
      clear c5 clt
      by_cases hil : i < P.nodes.length
      · have hil' : (i : Int) < (P.nodes.length : Int) := by omega
        have CO := HO.out wo (i : Int) HF.out.bel
        go_wp2_with (first
          | (go_at_call 7; refine CO.mono ?_; rintro e u1 ⟨oa, oc, rfl, ho, hb1⟩; (have RO1 : Hid (Ir wo.heap.size u1 oa (ous P (i : Int))) := ho); (have F1 : Hid _ := HF.out.up hb1); (have L1 : Hid (bi < wo.heap.size ∧ wo.heap.size ≤ u1.heap.size) := ⟨HF.out.i.lt, hb1.size⟩); (have CI := HI.out u1 (i : Int) F1.out.bel); clear c0 c1 c2; obtain ⟨⟨c0, c1, c2, -, -⟩, -⟩ := HB.out u1 F1.out.bel; clear hb1 ho CO)
          | (go_at_call 8; (refine CI.mono ?_; rintro e u2 ⟨ia, ic, rfl, ho, hb2⟩; (have F2 : Hid _ := F1.out.up hb2); (have R2 : Hid (Ir wo.heap.size u2 oa (ous P i) ∧ Ir wo.heap.size u2 ia (ins P i)) := ⟨Ir.up RO1.out hb2, Ir.low ho L1.out.2⟩); clear hb2 ho CI c0 c1 c2)))
        clear F1 RO1
        obtain ⟨B, hB⟩ : ∃ B, B = wo.heap.size := ⟨_, rfl⟩
        rw [← hB] at R2
        have LB : Hid (bi < B) := by show _ < _; rw [hB]; exact L1.out.1
        clear hB L1 HF
        go_loopw [11] (fun v11 wr => ∃ k : Nat, v11 = .int .i64 (k : Int) ∧ k ≤ (ous P i).length ∧ Hid (Fw W1 bo bi P.flows.length wr (ctf Fl.src P.flows (i : Int) ((ous P i).take k)) (ctf Fl.dst P.flows (i : Int) [])) ∧ Hid (Ir B wr oa (ous P i) ∧ Ir B wr ia (ins P i))) (fun v11 _ => (ous P i).length - (intOf v11).toNat)
        case atStart => exact ⟨0, rfl, Nat.zero_le _, F2.out, R2.out⟩
        case round =>
          obtain ⟨k, rfl, hk, FK, RK⟩ := hrel
          obtain ⟨wp, hwp⟩ : ∃ wp, wp = wr := ⟨_, rfl⟩
          subst hwp
          clear F2 R2
          by_cases hkl : k < (ous P i).length
          · have hkl' : (k : Int) < ((ous P i).length : Int) := by omega
            obtain ⟨m, hm, hml, hms⟩ := plc_at (g := Fl.src) (F := P.flows) (i := (i : Int)) (k := k) hkl
            have hz : ctf Fl.src P.flows (i : Int) ((ous P i).take k) m = 0 := ctf_zero hkl hm hml hms
            have HST : Hid (∀ j, j < P.flows.length → (if j = m then 1 else ctf Fl.src P.flows (i : Int) ((ous P i).take k) j) = ctf Fl.src P.flows (i : Int) ((ous P i).take (k + 1)) j) := fun j _ => ctf_step hkl hm j
            have m1 := FK.out.o.c hml
            rw [hz] at m1
            have m2 := FK.out.o.f m
            obtain ⟨⟨-, -, c2, -, c5⟩, -⟩ := HB.out wp FK.out.bel
            obtain ⟨fb, fo, fcc, hsl, -, -, hcell⟩ := c5.fs.at hml
            cases hsl
            have m3 := (hcell _ (Below.refl _ _) m hml).c0
            rw [hms] at m3
            have HRI : Hid (Ir B wp oa (ous P i)) := RK.out.1
            rcases HRI.out with hnil | ⟨ab, rfl, hab, -, hcs⟩
            · rw [hnil] at hkl; cases hkl
            have m4 := hcs k hkl
            have hm' : (ous P i)[k] = (m : Int) := hm
            rw [hm'] at m4
            have i1 : decide ((m : Int) < 0) = false := by simp
            have i2 : decide ((P.flows.length : Int) ≤ (m : Int)) = false := by simp; omega
            have i3 : (0 : Int) ≤ (m : Int) := by omega
            have i1b : ¬ (m : Int) < 0 := by omega
            have i2b : ¬ (P.flows.length : Int) ≤ (m : Int) := by omega
            have i2c : ¬ P.flows.length ≤ m := by omega
            have i2d : decide (P.flows.length ≤ m) = false := by simp; omega
            have i4 : (m : Int) < (P.flows.length : Int) := by omega
            have i5 : (0 : Int) ≤ (k : Int) := by omega
            have LM : Hid (m < P.flows.length) := hml
            have hle : (ous P i).length ≤ 4398046511104 := Nat.le_trans (plc_le _ _) hfl
            rcases Nat.eq_zero_or_pos k with hk0 | hk0
            · have i6 : decide (0 < k) = false := by simp; omega
              have i6b : ¬ 0 < k := by omega
              clear hcell c5 hms hm hm' hz hcs hab hml hkl hk0
              go_wp2
              go_quiet (fail)
              go_wp2
              go_roundw
              case rel => exact ⟨k + 1, by simp, by omega, (FK.out.drewN _).incO LM.out HST.out, ⟨Ir.far (Ir.drewN RK.out.1 _) (Nat.lt_trans FK.out.hi LB.out) _ _, Ir.far (Ir.drewN RK.out.2 _) (Nat.lt_trans FK.out.hi LB.out) _ _⟩⟩
              case measure => simp [intOf]; omega
            · obtain ⟨k', hk'⟩ : ∃ k', k = k' + 1 := ⟨k - 1, by omega⟩
              have hkl2 : k' < (ous P i).length := by omega
              obtain ⟨m', hm2, hml2, -⟩ := plc_at (g := Fl.src) (F := P.flows) (i := (i : Int)) (k := k') hkl2
              have hm2' : (ous P i)[k'] = (m' : Int) := hm2
              have m5 := hcs k' hkl2
              rw [hm2'] at m5
              have hlt : (ous P i)[k'] < (ous P i)[k] := List.pairwise_iff_getElem.1 (plc_rise (fun f : Fl => f.src == (i : Int)) P.flows) k' k hkl2 hkl (by omega)
              rw [hm2', hm'] at hlt
              have i6 : decide (0 < k) = true := by simp; omega
              have i6b : 0 < k := by omega
              have i7 : (k : Int) - 1 = (k' : Int) := by omega
              have i8 : decide (m ≤ m') = false := by simp; omega
              have i8b : ¬ m ≤ m' := by omega
              have i9 : (0 : Int) ≤ (k' : Int) := by omega
              have i11 : IntKind.i64.wrap (k' : Int) = (k' : Int) := by rw [IntKind.wrap_i64]; omega
              have i14 : k - 1 = k' := by omega
              have i10 : (k' : Int) < ((ous P i).length : Int) := by omega
              clear hcell c5 hms hm hm' hz hcs hab hml hkl hk0 hk' hkl2 hm2 hml2 hm2' hlt
              go_wp2
              go_quiet (fail)
              go_wp2
              go_roundw
              case rel => exact ⟨k + 1, by simp, by omega, (FK.out.drewN _).incO LM.out HST.out, ⟨Ir.far (Ir.drewN RK.out.1 _) (Nat.lt_trans FK.out.hi LB.out) _ _, Ir.far (Ir.drewN RK.out.2 _) (Nat.lt_trans FK.out.hi LB.out) _ _⟩⟩
              case measure => simp [intOf]; omega
          · have hkl' : ¬ (k : Int) < ((ous P i).length : Int) := by omega
            obtain rfl : k = (ous P i).length := by omega
            have FE : Hid (Fw W1 bo bi P.flows.length wp (ctf Fl.src P.flows ((i : Int) + 1) []) (ctf Fl.dst P.flows (i : Int) [])) := FK.out.same (fun j hj => by rw [List.take_length]; exact ctf_end j hj) (fun _ _ => rfl)
            clear FK
            go_wp2
            go_loopw [12] (fun v12 wr => ∃ k : Nat, v12 = .int .i64 (k : Int) ∧ k ≤ (ins P i).length ∧ Hid (Fw W1 bo bi P.flows.length wr (ctf Fl.src P.flows ((i : Int) + 1) []) (ctf Fl.dst P.flows (i : Int) ((ins P i).take k))) ∧ Hid (Ir B wr ia (ins P i))) (fun v12 _ => (ins P i).length - (intOf v12).toNat)
            case atStart => exact ⟨0, rfl, Nat.zero_le _, FE.out, RK.out.2⟩
            case round =>
              obtain ⟨k, rfl, hk, FK, RI⟩ := hrel
              obtain ⟨wq, hwq⟩ : ∃ wq, wq = wr := ⟨_, rfl⟩
              subst hwq
              clear FE RK
              by_cases hkl : k < (ins P i).length
              · have hkl' : (k : Int) < ((ins P i).length : Int) := by omega
                obtain ⟨m, hm, hml, hms⟩ := plc_at (g := Fl.dst) (F := P.flows) (i := (i : Int)) (k := k) hkl
                have hz : ctf Fl.dst P.flows (i : Int) ((ins P i).take k) m = 0 := ctf_zero hkl hm hml hms
                have HST : Hid (∀ j, j < P.flows.length → (if j = m then 1 else ctf Fl.dst P.flows (i : Int) ((ins P i).take k) j) = ctf Fl.dst P.flows (i : Int) ((ins P i).take (k + 1)) j) := fun j _ => ctf_step hkl hm j
                have m1 := FK.out.i.c hml
                rw [hz] at m1
                have m2 := FK.out.i.f m
                obtain ⟨⟨-, -, c2, -, c5⟩, -⟩ := HB.out wq FK.out.bel
                obtain ⟨fb, fo, fcc, hsl, -, -, hcell⟩ := c5.fs.at hml
                cases hsl
                have m3 := (hcell _ (Below.refl _ _) m hml).c1
                rw [hms] at m3
                have HRI : Hid (Ir B wq ia (ins P i)) := RI.out
                rcases HRI.out with hnil | ⟨ab, rfl, hab, -, hcs⟩
                · rw [hnil] at hkl; cases hkl
                have m4 := hcs k hkl
                have hm' : (ins P i)[k] = (m : Int) := hm
                rw [hm'] at m4
                have i1 : decide ((m : Int) < 0) = false := by simp
                have i2 : decide ((P.flows.length : Int) ≤ (m : Int)) = false := by simp; omega
                have i3 : (0 : Int) ≤ (m : Int) := by omega
                have i1b : ¬ (m : Int) < 0 := by omega
                have i2b : ¬ (P.flows.length : Int) ≤ (m : Int) := by omega
                have i2c : ¬ P.flows.length ≤ m := by omega
                have i2d : decide (P.flows.length ≤ m) = false := by simp; omega
                have i4 : (m : Int) < (P.flows.length : Int) := by omega
                have i5 : (0 : Int) ≤ (k : Int) := by omega
                have LM : Hid (m < P.flows.length) := hml
                have hle : (ins P i).length ≤ 4398046511104 := Nat.le_trans (plc_le _ _) hfl
                rcases Nat.eq_zero_or_pos k with hk0 | hk0
                · have i6 : decide (0 < k) = false := by simp; omega
                  have i6b : ¬ 0 < k := by omega
                  clear hcell c5 hms hm hm' hz hcs hab hml hkl hk0
                  go_wp2
                  go_quiet (fail)
                  go_wp2
                  go_roundw
                  case rel => exact ⟨k + 1, by simp, by omega, (FK.out.drewN _).incI LM.out HST.out, Ir.far (Ir.drewN RI.out _) LB.out _ _⟩
                  case measure => simp [intOf]; omega
                · obtain ⟨k', hk'⟩ : ∃ k', k = k' + 1 := ⟨k - 1, by omega⟩
                  have hkl2 : k' < (ins P i).length := by omega
                  obtain ⟨m', hm2, hml2, -⟩ := plc_at (g := Fl.dst) (F := P.flows) (i := (i : Int)) (k := k') hkl2
                  have hm2' : (ins P i)[k'] = (m' : Int) := hm2
                  have m5 := hcs k' hkl2
                  rw [hm2'] at m5
                  have hlt : (ins P i)[k'] < (ins P i)[k] := List.pairwise_iff_getElem.1 (plc_rise (fun f : Fl => f.dst == (i : Int)) P.flows) k' k hkl2 hkl (by omega)
                  rw [hm2', hm'] at hlt
                  have i6 : decide (0 < k) = true := by simp; omega
                  have i6b : 0 < k := by omega
                  have i7 : (k : Int) - 1 = (k' : Int) := by omega
                  have i8 : decide (m ≤ m') = false := by simp; omega
                  have i8b : ¬ m ≤ m' := by omega
                  have i9 : (0 : Int) ≤ (k' : Int) := by omega
                  have i11 : IntKind.i64.wrap (k' : Int) = (k' : Int) := by rw [IntKind.wrap_i64]; omega
                  have i14 : k - 1 = k' := by omega
                  have i10 : (k' : Int) < ((ins P i).length : Int) := by omega
                  clear hcell c5 hms hm hm' hz hcs hab hml hkl hk0 hk' hkl2 hm2 hml2 hm2' hlt
                  go_wp2
                  go_quiet (fail)
                  go_wp2
                  go_roundw
                  case rel => exact ⟨k + 1, by simp, by omega, (FK.out.drewN _).incI LM.out HST.out, Ir.far (Ir.drewN RI.out _) LB.out _ _⟩
                  case measure => simp [intOf]; omega
              · have hkl' : ¬ (k : Int) < ((ins P i).length : Int) := by omega
                obtain rfl : k = (ins P i).length := by omega
                have FE : Hid (Fw W1 bo bi P.flows.length wq (ctf Fl.src P.flows ((i : Int) + 1) []) (ctf Fl.dst P.flows ((i : Int) + 1) [])) := FK.out.same (fun _ _ => rfl) (fun j hj => by rw [List.take_length]; exact ctf_end j hj)
                clear FK
                go_wp2
                go_roundw
                case rel => exact ⟨i + 1, by simp, by omega, by rw [Int.natCast_add]; exact FE.out⟩
                case measure => simp [intOf]; omega
      · have hil' : ¬ (i : Int) < (P.nodes.length : Int) := by omega
        obtain rfl : i = P.nodes.length := by omega
        have FE : Hid (Fw W1 bo bi P.flows.length wo (fun _ => 1) (fun _ => 1)) := HF.out.same (fun j hj => by obtain ⟨a, b, ha, hb, ha', hb', -⟩ := HOK.out.ends hj; exact ctf_all j hj (by rw [ha]; omega)) (fun j hj => by obtain ⟨a, b, ha, hb, ha', hb', -⟩ := HOK.out.ends hj; exact ctf_all j hj (by rw [hb]; omega))
        clear HF
        go_wp2
        go_loopw [13] (fun v13 wr => ∃ j : Nat, v13 = .int .i64 (j : Int) ∧ j ≤ P.flows.length ∧ Hid (Fw W1 bo bi P.flows.length wr (fun _ => 1) (fun _ => 1))) (fun v13 _ => P.flows.length - (intOf v13).toNat)
        case atStart => exact ⟨0, rfl, Nat.zero_le _, FE.out⟩
        case round =>
          obtain ⟨j, rfl, hj, FJ⟩ := hrel
          clear FE c0 c1 c2
          obtain ⟨⟨-, -, c2, -, -⟩, -⟩ := HB.out wr FJ.out.bel
          by_cases hjl : j < P.flows.length
          · have hjl' : (j : Int) < (P.flows.length : Int) := by omega
            have hj0 : (0 : Int) ≤ (j : Int) := by omega
            have m1 := FJ.out.o.c hjl
            have m2 := FJ.out.i.c hjl
            go_wp2
            go_roundw
            case rel => exact ⟨j + 1, by simp, by omega, FJ.out⟩
            case measure => simp [intOf]; omega
          · have hjl' : ¬ (j : Int) < (P.flows.length : Int) := by omega
            have B9 : Hid (Below w.heap.size w wr) := (HB.out wr FJ.out.bel).2
            go_wp2
            go_ret
            exact ⟨by simp, B9.out⟩
  · rw [he] at HC
    clear he
    generalize (chk P).2 = at' at *
    go_enter Tryz.func3, Tryz.ntmps3
    go_wp2_with (first
      | (go_at_call 5; rw [HW.out]; refine CS.mono ?_; rintro e w1 ⟨rfl, b1⟩; (have CC := HC.out w1 b1); obtain ⟨⟨c0, c1, c2, -, -⟩, -⟩ := HB.out w1 b1; clear b1 CS HC)
      | (go_at_call 6; refine CC.mono ?_; rintro e w2 ⟨rfl, b2⟩; (have B2 : Hid (Below w.heap.size w w2) := (HB.out w2 b2).2); clear b2 CC))
    go_ret
    exact ⟨by simp, B2.out⟩


open Go.ChangeShapes Go.WideShapes Go.ChangeAt Go.WideMaps Go.WideElems in
set_option maxRecDepth 100000 in
theorem lifted (os : Os) (started : os.Started) (H : Type) (enc : TypeId × Value → H) :
    ReturnsInHanded {} Tryz.checked os 3 .any (fun w args => (Rows.modelFlowsSpec.pre enc Tryz.prog Tryz.f3 [] false w args ∧ laidMetH Tryz.prog laid7 w) ∧ sizedMet enc Tryz.prog Tryz.f3 (OpenSpec.ofChange Rows.modelFlowsSpec) false w args)
      (Rows.modelFlowsSpec.post enc Tryz.prog Tryz.f3 false true false false) := by
  refine returnsInHanded_of_change_and (C := Tryz.checked) (X := fun w _ => laidMetH Tryz.prog laid7 w) (fun _ _ _ hh h => h.of_heap hh) own11 started (by kernel_rfl) Tryz.func3
    (ChangeSpec.witness_shaped (enc := enc) (C := Tryz.checked) (os := os) (X := fun w _ => laidMetH Tryz.prog laid7 w) false (World.doorLaid Tryz.prog 400 os) #[.agg #[.string .empty, .slice none 0 0, .slice none 0 0]] 8 rfl (World.shaped_of_RefB (by kernel_rfl) (by kernel_rfl)) (by kernel_rfl) (by kernel_rfl) (by kernel_rfl) (door_met os _)) ?_
  intro W base args ds gs before hval0 hW hcnd hsz0 hL _
  have hval : ∀ (j : Nat) t v, Tryz.f3.params[j]? = some t → args[j]? = some v → Value.okWide Tryz.prog W .any base t v := hval0
  have hW' := hW
  obtain ⟨p, q, hA0, hV, rfl, hfz, hnd⟩ := hW
  have hA : DataW.TrodAll enc Tryz.prog W 0 (fun _ => true) true Tryz.f3.params.toList args.toList ds p := hA0
  have hsz : (DataW.weightsEach Tryz.prog (Tryz.f3.params.toList ++ Rows.modelFlowsSpec.plain.varTypes Tryz.prog) (ds ++ gs)).all (· ≤ reachBytes) = true := hsz0
  rw [Tryz.params3] at hA hval hsz
  obtain ⟨v0, vs0, d0, ds0, p0, q0, hargs, rfl, rfl, h0, r0⟩ := trodAll_cons hA
  obtain ⟨rfl, rfl, rfl⟩ := trodAll_nil r0
  obtain rfl : args = #[v0] := by cases args; simp_all
  obtain ⟨rfl, rfl⟩ := trodVars_none hV
  have lt0 : ∀ x ∈ p0, x.block < W.heap.size := by obtain ⟨m, hm⟩ := h0; exact DataW.trod_lt m _ _ _ hm
  obtain ⟨P, nv, fv, rfl, hpo, hpz⟩ := openProc (hval 0 25 v0 rfl rfl) h0
  have hz := hpz (sized_at hsz (i := 0) rfl rfl)
  clear hA0 hval0
  refine (walk hpo hz (gg_of hL)).mono fun e W' ⟨he, bel⟩ => ?_
  subst he
  exact ⟨_, rfl, _, _, _, [], _, [], hW', trodAll_mk1 (shut_bool Tryz.underlying4 _), (trodAll_cons_mk (Below.trod laidOut11 (by kernel_rfl) (of_decide_eq_true (by kernel_rfl)) h0 bel lt0) trodAll_mk0), rfl, bel.frame _, fun h => by cases h⟩
theorem said : Rows.ModelFlowsSaid :=
  OpenClaim.holds_of_wide 3 Tryz.f3 rfl rfl rfl rfl rfl rfl rfl ⟨rfl, rfl, rfl, rfl, rfl⟩ rfl rfl rfl rfl rfl (by kernel_rfl) Tryz.func3 (by kernel_rfl)
    (of_decide_eq_true (by kernel_rfl)) (by unfold Func.isWrapper; first | (rw [if_pos (by decide +kernel)]; kernel_rfl) | (rw [if_neg (by decide +kernel)]; exact ⟨rfl, rfl⟩))
    (fun os started H enc _ => lifted os started H enc)
theorem proved : Rows.ModelFlowsCardSaid :=
  Claim7.holds_tied_plain_at .later [] [.data, .data, .data, .sentinel, .sentinel, .data, .data] true (true, "7cebccb23d5a0cd2de0b1c73e437254e192eeeb3179befff39b1da535c5a9ce7") true
    said (fun _ h => by cases h) (by kernel_rfl) (fun _ h => by cases h) modelFlows_row_tie rfl ⟨rfl, rfl⟩ (by kernel_rfl) rfl
    (fun f fn hf hfn => by
      obtain rfl : f = 3 := Option.some.inj ((show Tryz.prog.funcNamed "wherry/wherrylaw11.ModelFlows" = some 3 by kernel_rfl).symm.trans hf) |>.symm
      obtain rfl : fn = Tryz.f3 := (Option.some.inj (Tryz.func3.symm.trans hfn)).symm
      exact ⟨by kernel_rfl, fun j t ht => by
        rw [Tryz.params3] at ht
        have hm : t ∈ [25] := by simpa using Array.mem_of_getElem? ht
        have hall : ([25].all fun u => !Tryz.prog.wantsStandIn u) = true := by kernel_rfl
        exact (show Tryz.prog.wantsStandIn t = false by simpa using List.all_eq_true.1 hall t hm)⟩)
    (by kernel_rfl)
end Go.Proofs.YtkbhngdabfoboabGreatDoor.modelFlows

/-
  Proved: for every process ModelWays answers true, and changes nothing that was there before the call: in a process that may be every node but starts, and what sits at hosts, has a way in, every one but ends a way out, each flow stays within its scope. The program's own tables are as its text lays them (the card's tie).
-/
import Derived.Test.YtkbhngdabfoboaaGreatDoorM11Fct
import Derived.Test.YtkbhngdabfoboaaGreatDoorM11Arg
namespace Go.Proofs.YtkbhngdabfoboaaGreatDoor.modelWays
open Go.Proofs.YtkbhngdabfoboaaGreatDoor.x10 hiding bel_of
open Go.Proofs.YtkbhngdabfoboaaGreatDoor.m11
open Go.RowKit Go.Shelf Go.Sort
open Go.Lib hiding intOf

/-- how many flows go out, come in; where a scope begins -/
theorem Start_b {w : World} {pb : Nat} {nv fv : Value} {P : Pc} (hb : Pb w pb nv fv P) (hz : Pz P) (i : Int) : Calls Tryz.prog 24 #[.agg #[.string (S P.id), nv, fv], .int .i64 i] w fun e w' => e = .returned (.int .i64 (fix (bgn i) P.nodes)) ∧ Below w.heap.size w w' := Start_any hb.po hz i

set_option maxRecDepth 100000 in
set_option maxHeartbeats 3000000 in
theorem walk {w : World} {nv fv : Value} {P : Pc} (hp : Po w nv fv P) (hz : Pz P) (hg : Gg w) : Calls Tryz.prog 7 #[pV P.id nv fv] w fun e w' => e = .returned (.bool true) ∧ Below w.heap.size w w' := by
  obtain ⟨W1, hW1⟩ : ∃ W1, w.alloc (.cells #[.string (S P.id), nv, fv] 25) = W1 := ⟨_, rfl⟩
  have hB1 : Below w.heap.size w W1 := by rw [← hW1]; exact (Below.refl _ w).alloc (Nat.le_refl _) _
  have hpb : Pb W1 w.heap.size nv fv P := by rw [← hW1]; exact Pb.new hp
  have CS := shown_any (hg.up hB1)
  have HB : Hid (∀ W, Below W1.heap.size W1 W → Pb W w.heap.size nv fv P ∧ Below w.heap.size w W) := fun W hW => ⟨hpb.up hW, bel_of hB1 hW (Nat.le_refl _)⟩
  have HC : Hid (∀ W, Below W1.heap.size W1 W → Calls Tryz.prog 10 #[.agg #[.string (S P.id), nv, fv]] W fun e w' => e = .returned (.tuple #[.int .i64 (chk P).1, .int .i64 (chk P).2]) ∧ Below W1.heap.size W1 w') := fun W hW => (Check_any (hpb.up hW).po hz ((hg.up hB1).up hW)).mono fun e w' hh => ⟨hh.1, bel_of hW hh.2 (Nat.le_refl _)⟩
  have HO : Hid (∀ W i, Below W1.heap.size W1 W → Calls Tryz.prog 18 #[.agg #[.string (S P.id), nv, fv], .int .i64 i] W fun e w' => (∃ a c, e = .returned (.slice a (ous P i).length c)) ∧ Below W.heap.size W w') := fun W i hW => Outs_len hpb hz i W hW
  have HI : Hid (∀ W i, Below W1.heap.size W1 W → Calls Tryz.prog 20 #[.agg #[.string (S P.id), nv, fv], .int .i64 i] W fun e w' => (∃ a c, e = .returned (.slice a (ins P i).length c)) ∧ Below W.heap.size W w') := fun W i hW => Ins_len hpb hz i W hW
  have HS : Hid (∀ W i, Below W1.heap.size W1 W → Calls Tryz.prog 24 #[.agg #[.string (S P.id), nv, fv], .int .i64 i] W fun e w' => e = .returned (.int .i64 (fix (bgn i) P.nodes)) ∧ Below W.heap.size W w') := fun W i hW => Start_b (hpb.up hW) hz i
  have HW : Hid (_ = W1) := hW1
  have hnl := hz.nl
  have hfl := hz.fl
  obtain ⟨na, nc, rfl, -⟩ := hp.ns
  obtain ⟨fa, fc, rfl, -⟩ := hp.fs
  unfold pV
  clear hp hz hg hW1 hB1 hpb
  rcases chk_err P with he | he
  · obtain ⟨HOK, hck⟩ : Hid (Oki P) ∧ chk P = (0, -1) := chk_zero he
    rw [hck] at HC
    clear he hck
    go_enter Tryz.func7, Tryz.ntmps7
    go_wp2_with (first
      | (go_at_call 9; rw [HW.out]; refine CS.mono ?_; rintro e w1 ⟨rfl, b1⟩; (have B1 : Hid (Below W1.heap.size W1 w1) := b1); (have CC := HC.out w1 b1); obtain ⟨⟨c0, c1, c2, -, -⟩, -⟩ := HB.out w1 b1; clear b1 CS HC)
      | (go_at_call 10; refine CC.mono ?_; rintro e w2 ⟨rfl, b2⟩; (have B2 : Hid (Below W1.heap.size W1 w2) := b2); clear b2 CC c0 c1 c2))
    go_loopw [6] (fun v6 wr => ∃ i : Nat, v6 = .int .i64 (i : Int) ∧ i ≤ P.nodes.length ∧ Hid (Below W1.heap.size W1 wr)) (fun v6 _ => P.nodes.length - (intOf v6).toNat)
    case atStart => exact ⟨0, rfl, Nat.zero_le _, B2.out⟩
    case round =>
      obtain ⟨i, rfl, hi, HBr⟩ := hrel
      obtain ⟨⟨c0, c1, c2, clt, c5⟩, -⟩ := HB.out wr HBr.out
      by_cases hil : i < P.nodes.length
      · have hil' : (i : Int) < (P.nodes.length : Int) := by omega
        have hi0 : (0 : Int) ≤ (i : Int) := by omega
        obtain ⟨L1, hL1⟩ : ∃ L1, (ous P i).length = L1 := ⟨_, rfl⟩
        obtain ⟨L2, hL2⟩ : ∃ L2, (ins P i).length = L2 := ⟨_, rfl⟩
        have HO2 : Hid (∀ W, Below W1.heap.size W1 W → Calls Tryz.prog 18 #[.agg #[.string (S P.id), .slice na P.nodes.length nc, .slice fa P.flows.length fc], .int .i64 (i : Int)] W fun e w' => (∃ a c, e = .returned (.slice a L1 c)) ∧ Below W.heap.size W w') := fun W hW => by have := HO.out W (i : Int) hW; rwa [hL1] at this
        have HI2 : Hid (∀ W, Below W1.heap.size W1 W → Calls Tryz.prog 20 #[.agg #[.string (S P.id), .slice na P.nodes.length nc, .slice fa P.flows.length fc], .int .i64 (i : Int)] W fun e w' => (∃ a c, e = .returned (.slice a L2 c)) ∧ Below W.heap.size W w') := fun W hW => by have := HI.out W (i : Int) hW; rwa [hL2] at this
        have HS2 : Hid (∀ W (m : Nat), fix (bgn (i : Int)) P.nodes = (m : Int) → Below W1.heap.size W1 W → Calls Tryz.prog 24 #[.agg #[.string (S P.id), .slice na P.nodes.length nc, .slice fa P.flows.length fc], .int .i64 (i : Int)] W fun e w' => e = .returned (.int .i64 (m : Int)) ∧ Below W.heap.size W w') := fun W m hm hW => by have := HS.out W (i : Int) hW; rwa [hm] at this
        obtain ⟨b', off, cap', hsl, -, hbl, hcell⟩ := c5.ns.at hil
        cases hsl
        obtain ⟨m0, m1, m2, m3, m4, m5, m6⟩ := hcell _ (Below.refl _ _) i hil
        have HK : Hid ((ous P i).length = 0 ↔ P.nodes[i].kind = 2) := HOK.out.wayOut hil
        have HK2 : Hid ((ins P i).length = 0 ↔ (P.nodes[i].kind = 1 ∨ P.nodes[i].kind = 9 ∨ P.nodes[i].kind = 10)) := HOK.out.wayIn hil
        have hk := HOK.out.kind hil
        have HK8 : Hid (P.nodes[i].kind = 8 → ∃ m : Nat, fix (bgn (i : Int)) P.nodes = (m : Int) ∧ i < m) := HOK.out.after hil
        rw [hL1] at HK
        rw [hL2] at HK2
        have HX : Hid (∀ x : Nd, Below W1.heap.size W1 (wr.alloc (.cells #[.int .i64 x.kind, .int .i64 x.parent, .int .i64 x.host, .string (S x.name), .string (S x.typ), .string (S x.key), .int .i64 x.n] 46)) ∧ ∀ W, Below (wr.heap.size + 1) (wr.alloc (.cells #[.int .i64 x.kind, .int .i64 x.parent, .int .i64 x.host, .string (S x.name), .string (S x.typ), .string (S x.key), .int .i64 x.n] 46)) W → W.cell? ⟨wr.heap.size, 0, none⟩ = some (.int .i64 x.kind) ∧ Below W1.heap.size W1 W ∧ wr.heap.size < W.heap.size) := fun x => by
          have h1 : Below W1.heap.size W1 (wr.alloc (.cells #[.int .i64 x.kind, .int .i64 x.parent, .int .i64 x.host, .string (S x.name), .string (S x.typ), .string (S x.key), .int .i64 x.n] 46)) := HBr.out.alloc HBr.out.size _
          refine ⟨h1, fun W hW => ⟨(hW.cell (p := ⟨wr.heap.size, 0, none⟩) (Nat.lt_succ_self _)).trans (World.cell?_alloc_new _ _ _ _), bel_of h1 hW (by simp), ?_⟩⟩
          have := hW.size; rw [World.size_alloc] at this; omega
        clear hcell c5 hL1 hL2 HO HI
        generalize P.nodes[i] = x at *
        have HX2 := HX.out x
        clear HX
        obtain ⟨k, p, h, nm, ty, ke, n⟩ := x
        simp only at m0 m1 m2 m3 m4 m5 m6 hk HK HK2 HK8 HX2
        have HX : Hid _ := HX2
        have CO := HO2.out _ HX.out.1
        have hkc : (k = 2 ∧ L1 = 0 ∧ L2 ≠ 0) ∨ ((k = 1 ∨ k = 9 ∨ k = 10) ∧ L1 ≠ 0 ∧ L2 = 0) ∨ (k = 8 ∧ L1 ≠ 0 ∧ L2 ≠ 0) ∨ ((k = 3 ∨ k = 4 ∨ k = 5 ∨ k = 6 ∨ k = 7) ∧ L1 ≠ 0 ∧ L2 ≠ 0) := by
          have q1 := HK.out
          have q2 := HK2.out
          have hkk : k = 1 ∨ k = 2 ∨ k = 3 ∨ k = 4 ∨ k = 5 ∨ k = 6 ∨ k = 7 ∨ k = 8 ∨ k = 9 ∨ k = 10 := by omega
          rcases hkk with rfl | rfl | rfl | rfl | rfl | rfl | rfl | rfl | rfl | rfl <;> simp at q1 q2 <;> simp [q1, q2]
        clear hk HK HK2 HX2
        have ne0 : ∀ L : Nat, L ≠ 0 → ¬ (L : Int) = 0 ∧ ((L : Int) == 0) = false := fun L hL => ⟨by omega, by rw [beq_eq_false_iff_ne]; omega⟩
        have NE : Hid _ := ne0
        clear ne0
        rcases hkc with ⟨rfl, rfl, h2⟩ | ⟨h1, h2, rfl⟩ | ⟨rfl, h1, h2⟩ | ⟨h1, h2, h3⟩
        · obtain ⟨r1, r2⟩ := NE.out L2 h2
          clear NE HK8
          go_wp2_with (first
            | (go_at_call 18; refine CO.mono ?_; rintro e u1 ⟨⟨oa, oc, rfl⟩, hb1⟩; rw [World.size_alloc] at hb1; obtain ⟨d0, k1, z1⟩ := HX.out.2 u1 hb1; (have H1 : Hid (Below (wr.heap.size + 1) (wr.alloc (.cells #[.int .i64 2, .int .i64 p, .int .i64 h, .string (S nm), .string (S ty), .string (S ke), .int .i64 n] 46)) u1) := hb1); obtain ⟨⟨e0, e1, e2, -, -⟩, -⟩ := HB.out u1 k1; (have CI := HI2.out u1 k1); clear hb1 k1 z1 CO HO2 HI2)
            | (go_at_call 20; refine CI.mono ?_; rintro e u2 ⟨⟨ia, ic, rfl⟩, hb2⟩; (have H2 : Hid (Below (wr.heap.size + 1) (wr.alloc (.cells #[.int .i64 2, .int .i64 p, .int .i64 h, .string (S nm), .string (S ty), .string (S ke), .int .i64 n] 46)) u2) := H1.out.trans (hb2.mono (by have := H1.out.size; rw [World.size_alloc] at this; omega))); obtain ⟨g0, k2, z2⟩ := HX.out.2 u2 H2.out; (have K2 : Hid (Below W1.heap.size W1 u2) := k2); obtain ⟨⟨e0, e1, e2, -, -⟩, -⟩ := HB.out u2 k2; clear hb2 k2 z2 CI))
          go_roundw
          case rel => exact ⟨i + 1, by simp, by omega, K2.out⟩
          case measure => simp [intOf]; omega
        · obtain ⟨r1, r2⟩ := NE.out L1 h2
          clear NE HK8
          rcases h1 with rfl | rfl | rfl
          · go_wp2_with (first
              | (go_at_call 18; refine CO.mono ?_; rintro e u1 ⟨⟨oa, oc, rfl⟩, hb1⟩; rw [World.size_alloc] at hb1; obtain ⟨d0, k1, z1⟩ := HX.out.2 u1 hb1; (have H1 : Hid (Below (wr.heap.size + 1) (wr.alloc (.cells #[.int .i64 1, .int .i64 p, .int .i64 h, .string (S nm), .string (S ty), .string (S ke), .int .i64 n] 46)) u1) := hb1); obtain ⟨⟨e0, e1, e2, -, -⟩, -⟩ := HB.out u1 k1; (have CI := HI2.out u1 k1); clear hb1 k1 z1 CO HO2 HI2)
              | (go_at_call 20; refine CI.mono ?_; rintro e u2 ⟨⟨ia, ic, rfl⟩, hb2⟩; (have H2 : Hid (Below (wr.heap.size + 1) (wr.alloc (.cells #[.int .i64 1, .int .i64 p, .int .i64 h, .string (S nm), .string (S ty), .string (S ke), .int .i64 n] 46)) u2) := H1.out.trans (hb2.mono (by have := H1.out.size; rw [World.size_alloc] at this; omega))); obtain ⟨g0, k2, z2⟩ := HX.out.2 u2 H2.out; (have K2 : Hid (Below W1.heap.size W1 u2) := k2); obtain ⟨⟨e0, e1, e2, -, -⟩, -⟩ := HB.out u2 k2; clear hb2 k2 z2 CI))
            go_roundw
            case rel => exact ⟨i + 1, by simp, by omega, K2.out⟩
            case measure => simp [intOf]; omega
          · go_wp2_with (first
              | (go_at_call 18; refine CO.mono ?_; rintro e u1 ⟨⟨oa, oc, rfl⟩, hb1⟩; rw [World.size_alloc] at hb1; obtain ⟨d0, k1, z1⟩ := HX.out.2 u1 hb1; (have H1 : Hid (Below (wr.heap.size + 1) (wr.alloc (.cells #[.int .i64 9, .int .i64 p, .int .i64 h, .string (S nm), .string (S ty), .string (S ke), .int .i64 n] 46)) u1) := hb1); obtain ⟨⟨e0, e1, e2, -, -⟩, -⟩ := HB.out u1 k1; (have CI := HI2.out u1 k1); clear hb1 k1 z1 CO HO2 HI2)
              | (go_at_call 20; refine CI.mono ?_; rintro e u2 ⟨⟨ia, ic, rfl⟩, hb2⟩; (have H2 : Hid (Below (wr.heap.size + 1) (wr.alloc (.cells #[.int .i64 9, .int .i64 p, .int .i64 h, .string (S nm), .string (S ty), .string (S ke), .int .i64 n] 46)) u2) := H1.out.trans (hb2.mono (by have := H1.out.size; rw [World.size_alloc] at this; omega))); obtain ⟨g0, k2, z2⟩ := HX.out.2 u2 H2.out; (have K2 : Hid (Below W1.heap.size W1 u2) := k2); obtain ⟨⟨e0, e1, e2, -, -⟩, -⟩ := HB.out u2 k2; clear hb2 k2 z2 CI))
            go_roundw
            case rel => exact ⟨i + 1, by simp, by omega, K2.out⟩
            case measure => simp [intOf]; omega
          · go_wp2_with (first
              | (go_at_call 18; refine CO.mono ?_; rintro e u1 ⟨⟨oa, oc, rfl⟩, hb1⟩; rw [World.size_alloc] at hb1; obtain ⟨d0, k1, z1⟩ := HX.out.2 u1 hb1; (have H1 : Hid (Below (wr.heap.size + 1) (wr.alloc (.cells #[.int .i64 10, .int .i64 p, .int .i64 h, .string (S nm), .string (S ty), .string (S ke), .int .i64 n] 46)) u1) := hb1); obtain ⟨⟨e0, e1, e2, -, -⟩, -⟩ := HB.out u1 k1; (have CI := HI2.out u1 k1); clear hb1 k1 z1 CO HO2 HI2)
              | (go_at_call 20; refine CI.mono ?_; rintro e u2 ⟨⟨ia, ic, rfl⟩, hb2⟩; (have H2 : Hid (Below (wr.heap.size + 1) (wr.alloc (.cells #[.int .i64 10, .int .i64 p, .int .i64 h, .string (S nm), .string (S ty), .string (S ke), .int .i64 n] 46)) u2) := H1.out.trans (hb2.mono (by have := H1.out.size; rw [World.size_alloc] at this; omega))); obtain ⟨g0, k2, z2⟩ := HX.out.2 u2 H2.out; (have K2 : Hid (Below W1.heap.size W1 u2) := k2); obtain ⟨⟨e0, e1, e2, -, -⟩, -⟩ := HB.out u2 k2; clear hb2 k2 z2 CI))
            go_roundw
            case rel => exact ⟨i + 1, by simp, by omega, K2.out⟩
            case measure => simp [intOf]; omega
        · obtain ⟨r1, r2⟩ := NE.out L1 h1
          obtain ⟨r3, r4⟩ := NE.out L2 h2
          obtain ⟨m, hm, him⟩ := HK8.out rfl
          have hmi : ¬ (m : Int) ≤ (i : Int) := by omega
          have HM : Hid (fix (bgn (i : Int)) P.nodes = (m : Int)) := hm
          clear NE HK8 hm him
          go_wp2_with (first
            | (go_at_call 18; refine CO.mono ?_; rintro e u1 ⟨⟨oa, oc, rfl⟩, hb1⟩; rw [World.size_alloc] at hb1; obtain ⟨d0, k1, z1⟩ := HX.out.2 u1 hb1; (have H1 : Hid (Below (wr.heap.size + 1) (wr.alloc (.cells #[.int .i64 8, .int .i64 p, .int .i64 h, .string (S nm), .string (S ty), .string (S ke), .int .i64 n] 46)) u1) := hb1); obtain ⟨⟨e0, e1, e2, -, -⟩, -⟩ := HB.out u1 k1; (have CI := HI2.out u1 k1); clear hb1 k1 z1 CO HO2 HI2)
            | (go_at_call 20; refine CI.mono ?_; rintro e u2 ⟨⟨ia, ic, rfl⟩, hb2⟩; (have H2 : Hid (Below (wr.heap.size + 1) (wr.alloc (.cells #[.int .i64 8, .int .i64 p, .int .i64 h, .string (S nm), .string (S ty), .string (S ke), .int .i64 n] 46)) u2) := H1.out.trans (hb2.mono (by have := H1.out.size; rw [World.size_alloc] at this; omega))); obtain ⟨g0, k2, z2⟩ := HX.out.2 u2 H2.out; (have K2 : Hid (Below W1.heap.size W1 u2) := k2); obtain ⟨⟨e0, e1, e2, -, -⟩, -⟩ := HB.out u2 k2; (have CZ := HS2.out u2 m HM.out k2); clear hb2 k2 z2 CI)
            | (go_at_call 24; refine CZ.mono ?_; rintro e u3 ⟨rfl, hb3⟩; (have K3 : Hid (Below W1.heap.size W1 u3) := bel_of K2.out hb3 (Nat.le_refl _)); clear hb3 CZ HS2))
          go_roundw
          case rel => exact ⟨i + 1, by simp, by omega, K3.out⟩
          case measure => simp [intOf]; omega
        · obtain ⟨r1, r2⟩ := NE.out L1 h2
          obtain ⟨r3, r4⟩ := NE.out L2 h3
          clear NE HK8
          rcases h1 with rfl | rfl | rfl | rfl | rfl
          · go_wp2_with (first
              | (go_at_call 18; refine CO.mono ?_; rintro e u1 ⟨⟨oa, oc, rfl⟩, hb1⟩; rw [World.size_alloc] at hb1; obtain ⟨d0, k1, z1⟩ := HX.out.2 u1 hb1; (have H1 : Hid (Below (wr.heap.size + 1) (wr.alloc (.cells #[.int .i64 3, .int .i64 p, .int .i64 h, .string (S nm), .string (S ty), .string (S ke), .int .i64 n] 46)) u1) := hb1); obtain ⟨⟨e0, e1, e2, -, -⟩, -⟩ := HB.out u1 k1; (have CI := HI2.out u1 k1); clear hb1 k1 z1 CO HO2 HI2)
              | (go_at_call 20; refine CI.mono ?_; rintro e u2 ⟨⟨ia, ic, rfl⟩, hb2⟩; (have H2 : Hid (Below (wr.heap.size + 1) (wr.alloc (.cells #[.int .i64 3, .int .i64 p, .int .i64 h, .string (S nm), .string (S ty), .string (S ke), .int .i64 n] 46)) u2) := H1.out.trans (hb2.mono (by have := H1.out.size; rw [World.size_alloc] at this; omega))); obtain ⟨g0, k2, z2⟩ := HX.out.2 u2 H2.out; (have K2 : Hid (Below W1.heap.size W1 u2) := k2); obtain ⟨⟨e0, e1, e2, -, -⟩, -⟩ := HB.out u2 k2; clear hb2 k2 z2 CI))
            go_roundw
            case rel => exact ⟨i + 1, by simp, by omega, K2.out⟩
            case measure => simp [intOf]; omega
          · go_wp2_with (first
              | (go_at_call 18; refine CO.mono ?_; rintro e u1 ⟨⟨oa, oc, rfl⟩, hb1⟩; rw [World.size_alloc] at hb1; obtain ⟨d0, k1, z1⟩ := HX.out.2 u1 hb1; (have H1 : Hid (Below (wr.heap.size + 1) (wr.alloc (.cells #[.int .i64 4, .int .i64 p, .int .i64 h, .string (S nm), .string (S ty), .string (S ke), .int .i64 n] 46)) u1) := hb1); obtain ⟨⟨e0, e1, e2, -, -⟩, -⟩ := HB.out u1 k1; (have CI := HI2.out u1 k1); clear hb1 k1 z1 CO HO2 HI2)
              | (go_at_call 20; refine CI.mono ?_; rintro e u2 ⟨⟨ia, ic, rfl⟩, hb2⟩; (have H2 : Hid (Below (wr.heap.size + 1) (wr.alloc (.cells #[.int .i64 4, .int .i64 p, .int .i64 h, .string (S nm), .string (S ty), .string (S ke), .int .i64 n] 46)) u2) := H1.out.trans (hb2.mono (by have := H1.out.size; rw [World.size_alloc] at this; omega))); obtain ⟨g0, k2, z2⟩ := HX.out.2 u2 H2.out; (have K2 : Hid (Below W1.heap.size W1 u2) := k2); obtain ⟨⟨e0, e1, e2, -, -⟩, -⟩ := HB.out u2 k2; clear hb2 k2 z2 CI))
            go_roundw
            case rel => exact ⟨i + 1, by simp, by omega, K2.out⟩
            case measure => simp [intOf]; omega
          · go_wp2_with (first
              | (go_at_call 18; refine CO.mono ?_; rintro e u1 ⟨⟨oa, oc, rfl⟩, hb1⟩; rw [World.size_alloc] at hb1; obtain ⟨d0, k1, z1⟩ := HX.out.2 u1 hb1; (have H1 : Hid (Below (wr.heap.size + 1) (wr.alloc (.cells #[.int .i64 5, .int .i64 p, .int .i64 h, .string (S nm), .string (S ty), .string (S ke), .int .i64 n] 46)) u1) := hb1); obtain ⟨⟨e0, e1, e2, -, -⟩, -⟩ := HB.out u1 k1; (have CI := HI2.out u1 k1); clear hb1 k1 z1 CO HO2 HI2)
              | (go_at_call 20; refine CI.mono ?_; rintro e u2 ⟨⟨ia, ic, rfl⟩, hb2⟩; (have H2 : Hid (Below (wr.heap.size + 1) (wr.alloc (.cells #[.int .i64 5, .int .i64 p, .int .i64 h, .string (S nm), .string (S ty), .string (S ke), .int .i64 n] 46)) u2) := H1.out.trans (hb2.mono (by have := H1.out.size; rw [World.size_alloc] at this; omega))); obtain ⟨g0, k2, z2⟩ := HX.out.2 u2 H2.out; (have K2 : Hid (Below W1.heap.size W1 u2) := k2); obtain ⟨⟨e0, e1, e2, -, -⟩, -⟩ := HB.out u2 k2; clear hb2 k2 z2 CI))
            go_roundw
            case rel => exact ⟨i + 1, by simp, by omega, K2.out⟩
            case measure => simp [intOf]; omega
          · go_wp2_with (first
              | (go_at_call 18; refine CO.mono ?_; rintro e u1 ⟨⟨oa, oc, rfl⟩, hb1⟩; rw [World.size_alloc] at hb1; obtain ⟨d0, k1, z1⟩ := HX.out.2 u1 hb1; (have H1 : Hid (Below (wr.heap.size + 1) (wr.alloc (.cells #[.int .i64 6, .int .i64 p, .int .i64 h, .string (S nm), .string (S ty), .string (S ke), .int .i64 n] 46)) u1) := hb1); obtain ⟨⟨e0, e1, e2, -, -⟩, -⟩ := HB.out u1 k1; (have CI := HI2.out u1 k1); clear hb1 k1 z1 CO HO2 HI2)
              | (go_at_call 20; refine CI.mono ?_; rintro e u2 ⟨⟨ia, ic, rfl⟩, hb2⟩; (have H2 : Hid (Below (wr.heap.size + 1) (wr.alloc (.cells #[.int .i64 6, .int .i64 p, .int .i64 h, .string (S nm), .string (S ty), .string (S ke), .int .i64 n] 46)) u2) := H1.out.trans (hb2.mono (by have := H1.out.size; rw [World.size_alloc] at this; omega))); obtain ⟨g0, k2, z2⟩ := HX.out.2 u2 H2.out; (have K2 : Hid (Below W1.heap.size W1 u2) := k2); obtain ⟨⟨e0, e1, e2, -, -⟩, -⟩ := HB.out u2 k2; clear hb2 k2 z2 CI))
            go_roundw
            case rel => exact ⟨i + 1, by simp, by omega, K2.out⟩
            case measure => simp [intOf]; omega
          · go_wp2_with (first
              | (go_at_call 18; refine CO.mono ?_; rintro e u1 ⟨⟨oa, oc, rfl⟩, hb1⟩; rw [World.size_alloc] at hb1; obtain ⟨d0, k1, z1⟩ := HX.out.2 u1 hb1; (have H1 : Hid (Below (wr.heap.size + 1) (wr.alloc (.cells #[.int .i64 7, .int .i64 p, .int .i64 h, .string (S nm), .string (S ty), .string (S ke), .int .i64 n] 46)) u1) := hb1); obtain ⟨⟨e0, e1, e2, -, -⟩, -⟩ := HB.out u1 k1; (have CI := HI2.out u1 k1); clear hb1 k1 z1 CO HO2 HI2)
              | (go_at_call 20; refine CI.mono ?_; rintro e u2 ⟨⟨ia, ic, rfl⟩, hb2⟩; (have H2 : Hid (Below (wr.heap.size + 1) (wr.alloc (.cells #[.int .i64 7, .int .i64 p, .int .i64 h, .string (S nm), .string (S ty), .string (S ke), .int .i64 n] 46)) u2) := H1.out.trans (hb2.mono (by have := H1.out.size; rw [World.size_alloc] at this; omega))); obtain ⟨g0, k2, z2⟩ := HX.out.2 u2 H2.out; (have K2 : Hid (Below W1.heap.size W1 u2) := k2); obtain ⟨⟨e0, e1, e2, -, -⟩, -⟩ := HB.out u2 k2; clear hb2 k2 z2 CI))
            go_roundw
            case rel => exact ⟨i + 1, by simp, by omega, K2.out⟩
            case measure => simp [intOf]; omega
      · have hil' : ¬ (i : Int) < (P.nodes.length : Int) := by omega
        clear c5
        go_wp2
        go_loopw [11] (fun v11 wr => ∃ j : Nat, v11 = .int .i64 (j : Int) ∧ j ≤ P.flows.length ∧ Hid (Below W1.heap.size W1 wr)) (fun v11 _ => P.flows.length - (intOf v11).toNat)
        case atStart => exact ⟨0, rfl, Nat.zero_le _, HBr.out⟩
        case round =>
          obtain ⟨j, rfl, hj, HBq⟩ := hrel
          clear c0 c1 c2 clt
          obtain ⟨⟨c0, c1, c2, clt, c5⟩, -⟩ := HB.out wr HBq.out
          by_cases hjl : j < P.flows.length
          · have hjl' : (j : Int) < (P.flows.length : Int) := by omega
            have hj0 : (0 : Int) ≤ (j : Int) := by omega
            obtain ⟨a, b, ha, hb, ha', hb', hpar⟩ := HOK.out.ends hjl
            obtain ⟨b1, o1, k1, e1, -, -, hc1⟩ := c5.ns.at ha'
            cases e1
            obtain ⟨b2, o2, k2, e2, -, -, hc2⟩ := c5.fs.at hjl
            cases e2
            have m0 := (hc2 _ (Below.refl _ _) j hjl).c0
            have m1 := (hc2 _ (Below.refl _ _) j hjl).c1
            have n0 := (hc1 _ (Below.refl _ _) a ha').c1
            have n1 := (hc1 _ (Below.refl _ _) b hb').c1
            rw [ha] at m0
            rw [hb] at m1
            rw [hpar] at n0
            have i1 : (0 : Int) ≤ (a : Int) := by omega
            have i2 : (a : Int) < (P.nodes.length : Int) := by omega
            have i3 : (0 : Int) ≤ (b : Int) := by omega
            have i4 : (b : Int) < (P.nodes.length : Int) := by omega
            clear hc1 hc2 c5 ha hb hpar
            generalize P.nodes[b].parent = y at *
            go_wp2
            go_quiet (fail)
            go_wp2
            go_roundw
            case rel => exact ⟨j + 1, by simp, by omega, below_drewN HBq.out _⟩
            case measure => simp [intOf]; omega
          · have hjl' : ¬ (j : Int) < (P.flows.length : Int) := by omega
            have CZ := HS.out wr (-1) HBq.out
            obtain ⟨m, hm, -⟩ := HOK.out.start (s := -1) (by simp)
            rw [hm] at CZ
            have BQ : Hid (Below W1.heap.size W1 wr) := HBq.out
            have m00 : (0 : Int) ≤ (m : Int) := by omega
            clear hm c5 HBq
            go_wp2_with (go_at_call 24; refine CZ.mono ?_; rintro e w9 ⟨rfl, b9⟩; (have B9 : Hid (Below w.heap.size w w9) := (HB.out w9 (bel_of BQ.out b9 (Nat.le_refl _))).2); clear b9 CZ)
            go_ret
            exact ⟨by simp, B9.out⟩
  · have hge := chk_ge P
    obtain ⟨at', hat⟩ : ∃ a, (chk P).2 = a := ⟨_, rfl⟩
    rw [he, hat] at HC
    rw [hat] at hge
    clear he hat
    go_enter Tryz.func7, Tryz.ntmps7
    go_wp2_with (first
      | (go_at_call 9; rw [HW.out]; refine CS.mono ?_; rintro e w1 ⟨rfl, b1⟩; (have B1 : Hid (Below W1.heap.size W1 w1) := b1); (have CC := HC.out w1 b1); obtain ⟨⟨c0, c1, c2, -, -⟩, -⟩ := HB.out w1 b1; clear b1 CS HC)
      | (go_at_call 10; refine CC.mono ?_; rintro e w2 ⟨rfl, b2⟩; (have B2 : Hid (Below w.heap.size w w2) := (HB.out w2 b2).2); clear b2 CC))
    go_ret
    exact ⟨by simp, B2.out⟩

open Go.ChangeShapes Go.WideShapes Go.ChangeAt Go.WideMaps Go.WideElems in
set_option maxRecDepth 100000 in
theorem lifted (os : Os) (started : os.Started) (H : Type) (enc : TypeId × Value → H) :
    ReturnsInHanded {} Tryz.checked os 7 .any (fun w args => (Rows.modelWaysSpec.pre enc Tryz.prog Tryz.f7 [] false w args ∧ laidMetH Tryz.prog laid7 w) ∧ sizedMet enc Tryz.prog Tryz.f7 (OpenSpec.ofChange Rows.modelWaysSpec) false w args)
      (Rows.modelWaysSpec.post enc Tryz.prog Tryz.f7 false true false false) := by
  refine returnsInHanded_of_change_and (C := Tryz.checked) (X := fun w _ => laidMetH Tryz.prog laid7 w) (fun _ _ _ hh h => h.of_heap hh) own11 started (by kernel_rfl) Tryz.func7
    (ChangeSpec.witness_shaped (enc := enc) (C := Tryz.checked) (os := os) (X := fun w _ => laidMetH Tryz.prog laid7 w) false (World.doorLaid Tryz.prog 400 os) #[.agg #[.string .empty, .slice none 0 0, .slice none 0 0]] 8 rfl (World.shaped_of_RefB (by kernel_rfl) (by kernel_rfl)) (by kernel_rfl) (by kernel_rfl) (by kernel_rfl) (door_met os _)) ?_
  intro W base args ds gs before hval0 hW hcnd hsz0 hL _
  have hval : ∀ (j : Nat) t v, Tryz.f7.params[j]? = some t → args[j]? = some v → Value.okWide Tryz.prog W .any base t v := hval0
  have hW' := hW
  obtain ⟨p, q, hA0, hV, rfl, hfz, hnd⟩ := hW
  have hA : DataW.TrodAll enc Tryz.prog W 0 (fun _ => true) true Tryz.f7.params.toList args.toList ds p := hA0
  have hsz : (DataW.weightsEach Tryz.prog (Tryz.f7.params.toList ++ Rows.modelWaysSpec.plain.varTypes Tryz.prog) (ds ++ gs)).all (· ≤ reachBytes) = true := hsz0
  rw [Tryz.params7] at hA hval hsz
  obtain ⟨v0, vs0, d0, ds0, p0, q0, hargs, rfl, rfl, h0, r0⟩ := trodAll_cons hA
  obtain ⟨rfl, rfl, rfl⟩ := trodAll_nil r0
  obtain rfl : args = #[v0] := by cases args; simp_all
  obtain ⟨rfl, rfl⟩ := trodVars_none hV
  have lt0 : ∀ x ∈ p0, x.block < W.heap.size := by obtain ⟨m, hm⟩ := h0; exact DataW.trod_lt m _ _ _ hm
  obtain ⟨P, nv, fv, rfl, hpo, hpz⟩ := openProc (hval 0 25 v0 rfl rfl) h0
  have hz := hpz (sized_at hsz (i := 0) rfl rfl)
  clear hA0 hval0
  refine (walk hpo hz (gg_of hL)).mono fun e W' ⟨he, bel⟩ => ?_
  subst he
  exact ⟨_, rfl, _, _, _, [], _, [], hW', trodAll_mk1 (shut_bool Tryz.underlying4 _), (trodAll_cons_mk (Below.trod laidOut11 (by kernel_rfl) (of_decide_eq_true (by kernel_rfl)) h0 bel lt0) trodAll_mk0), rfl, bel.frame _, fun h => by cases h⟩
theorem said : Rows.ModelWaysSaid :=
  OpenClaim.holds_of_wide 7 Tryz.f7 rfl rfl rfl rfl rfl rfl rfl ⟨rfl, rfl, rfl, rfl, rfl⟩ rfl rfl rfl rfl rfl (by kernel_rfl) Tryz.func7 (by kernel_rfl)
    (of_decide_eq_true (by kernel_rfl)) (by unfold Func.isWrapper; first | (rw [if_pos (by decide +kernel)]; kernel_rfl) | (rw [if_neg (by decide +kernel)]; exact ⟨rfl, rfl⟩))
    (fun os started H enc _ => lifted os started H enc)
theorem proved : Rows.ModelWaysCardSaid :=
  Claim7.holds_tied_plain_at .later [] [.data, .data, .data, .sentinel, .sentinel, .data, .data] true (true, "8b056dd8733264891fb09f5831f63a7a2eafbda2c7eae360e50513f72bc19276") true
    said (fun _ h => by cases h) (by kernel_rfl) (fun _ h => by cases h) modelWays_row_tie rfl ⟨rfl, rfl⟩ (by kernel_rfl) rfl
    (fun f fn hf hfn => by
      obtain rfl : f = 7 := Option.some.inj ((show Tryz.prog.funcNamed "wherry/wherrylaw11.ModelWays" = some 7 by kernel_rfl).symm.trans hf) |>.symm
      obtain rfl : fn = Tryz.f7 := (Option.some.inj (Tryz.func7.symm.trans hfn)).symm
      exact ⟨by kernel_rfl, fun j t ht => by
        rw [Tryz.params7] at ht
        have hm : t ∈ [25] := by simpa using Array.mem_of_getElem? ht
        have hall : ([25].all fun u => !Tryz.prog.wantsStandIn u) = true := by kernel_rfl
        exact (show Tryz.prog.wantsStandIn t = false by simpa using List.all_eq_true.1 hall t hm)⟩)
    (by kernel_rfl)
end Go.Proofs.YtkbhngdabfoboaaGreatDoor.modelWays

/-
  ExprBrackets, walked.
-/
import Derived.Test.YtpbfdaijnndilaaGreatDoorX10Bkt
import Derived.BigQuiet
import Derived.Test.YtpbfdaijnndilaaGreatDoorGExprV
import Derived.Test.YtpbfdaijnndilaaGreatDoorX10Shn
import Derived.Test.YtpbfdaijnndilaaGreatDoorX10Wri
namespace Go.Proofs.YtpbfdaijnndilaaGreatDoor.x10
open Go.RowKit Go.Shelf Go.Sort
open Go.Lib hiding intOf

theorem bel_drewN {B : Nat} {w wr : World} (h : Below B w wr) (n : Nat) : Below B w (wr.drewN n) := ⟨h.os, h.tape, h.output, h.size, h.block⟩
theorem belN {w wr : World} (h : ∃ m, wr = w.drewN m) : Below w.heap.size w wr := by obtain ⟨m, rfl⟩ := h; exact bel_drewN (Below.refl _ _) m
theorem moreN {w wr : World} (h : ∃ m, wr = w.drewN m) (n : Nat) : ∃ m, wr.drewN n = w.drewN m := by obtain ⟨m, rfl⟩ := h; exact ⟨m + n, World.drewN_drewN w m n⟩
set_option maxHeartbeats 4000000 in
set_option maxRecDepth 100000 in
theorem same10_yes {w : World} {v u : Value} {l : List P10} (hv : Es w v l) (hu : Es w u l) (hn : l.length ≤ 4611686018427387904) :
    Calls Tryz.prog 12 #[v, u] w fun e w' => e = .returned (.bool true) ∧ Below w.heap.size w w' := by
  have HV : Hid (Es w v l) := hv
  have HU : Hid (Es w u l) := hu
  obtain ⟨a, cap, rfl, -⟩ := hv
  obtain ⟨a2, cap2, rfl, -⟩ := hu
  go_enter Tryz.func12, Tryz.ntmps12
  go_wp2
  go_loopw [5] (fun v5 wr => ∃ i : Nat, v5 = .int .i64 (i : Int) ∧ i ≤ l.length ∧ Hid (∃ m, wr = w.drewN m)) (fun v5 _ => l.length - (intOf v5).toNat)
  case atStart => exact ⟨0, rfl, Nat.zero_le _, ⟨0, rfl⟩⟩
  case round =>
    obtain ⟨i, rfl, hi, HW⟩ := hrel
    by_cases hil : i < l.length
    · have hil' : (i : Int) < (l.length : Int) := by omega
      have hi0 : (0 : Int) ≤ (i : Int) := by omega
      obtain ⟨b, off, cp, hsl, hbl, hcell⟩ := (HV.out.below (belN HW.out)).at hil
      cases hsl
      obtain ⟨b2, off2, cp2, hsl2, hbl2, hcell2⟩ := (HU.out.below (belN HW.out)).at hil
      cases hsl2
      obtain ⟨m0, m1, m2, m3, m4, m5⟩ := hcell i hil
      obtain ⟨n0, n1, n2, n3, n4, n5⟩ := hcell2 i hil
      clear hcell hcell2
      generalize l[i] = x at *
      obtain ⟨x0, x1, x2, x3, x4, x5⟩ := x
      simp only at m0 m1 m2 m3 m4 m5 n0 n1 n2 n3 n4 n5
      go_wp2
      go_quiet (fail)
      go_wp2
      go_roundw
      case rel => exact ⟨i + 1, by simp, by omega, moreN HW.out _⟩
      case measure => simp [intOf]; omega
    · have hil' : ¬ (i : Int) < (l.length : Int) := by omega
      go_wp2
      go_ret
      exact ⟨rfl, belN HW.out⟩
end Go.Proofs.YtpbfdaijnndilaaGreatDoor.x10
namespace Go.Proofs.YtpbfdaijnndilaaGreatDoor.x10
open Go.RowKit Go.Shelf Go.Sort
open Go.Lib hiding intOf

set_option maxHeartbeats 4000000 in
set_option maxRecDepth 100000 in
theorem brk_no {w : World} {B : Nat} (hg : Gx B w) (hv : Gv B w) (hB : B ≤ w.heap.size) {s : List UInt8} {l : List P10} {e a : Int} (hp : prs 4100 s = some (l, e, a)) {vs : List Vr} {v0 : Value} (hV : Vs w v0 vs) (he : ¬ e = 0) : Calls Tryz.prog 8 #[.string (S s), v0] w fun e w' => e = .returned (.bool true) ∧ Below w.heap.size w w' := by
  have HG : Hid (∀ W, Below w.heap.size w W → Gx B W ∧ Gv B W ∧ B ≤ W.heap.size) := fun W hW => ⟨hg.below (hW.mono hB), hv.below (hW.mono hB), Nat.le_trans hB hW.size⟩
  have HP : Hid (∀ W, Below w.heap.size w W → _) := fun W hW => Parse_any 4100 W (HG.out W hW).1 (HG.out W hW).2.2 hp
  have h1 : (e == 0) = false := beq_eq_false_iff_ne.2 he
  obtain ⟨va, vcap, rfl, -⟩ := hV
  clear hg hv hB hp
  go_enter Tryz.func8, Tryz.ntmps8
  go_wp2_with (first
    | (go_at_call 9; refine (shown10_any (HG.out w (Below.refl _ _)).1 (HG.out w (Below.refl _ _)).2.1 (HG.out w (Below.refl _ _)).2.2).mono ?_; rintro e w1 ⟨rfl, hb1⟩; (have HB1 : Hid (Below w.heap.size w w1) := hb1); clear hb1)
    | (go_at_call 10; refine (HP.out w1 HB1.out).mono ?_; rintro e w2 ⟨v2, rfl, hx, hb⟩; (have HX2 : Hid (Es w2 v2 l ∧ Below w1.heap.size w1 w2) := ⟨Px.es hx, hb⟩); obtain ⟨a2, c2, hv2, -⟩ := row_slice hx; subst hv2; (have HB2 : Hid (Below w.heap.size w w2) := bel_of HB1.out hb (Nat.le_refl _)); clear hx hb HP))
  go_ret
  exact ⟨rfl, HB2.out⟩
set_option maxHeartbeats 4000000 in
set_option maxRecDepth 100000 in
theorem brk_long {w : World} {B : Nat} (hg : Gx B w) (hv : Gv B w) (hB : B ≤ w.heap.size) {s : List UInt8} {l : List P10} {e a : Int} (hp : prs 4100 s = some (l, e, a)) {vs : List Vr} {v0 : Value} (hV : Vs w v0 vs) (he : e = 0) (hl : 500 < s.length) : Calls Tryz.prog 8 #[.string (S s), v0] w fun e w' => e = .returned (.bool true) ∧ Below w.heap.size w w' := by
  have HG : Hid (∀ W, Below w.heap.size w W → Gx B W ∧ Gv B W ∧ B ≤ W.heap.size) := fun W hW => ⟨hg.below (hW.mono hB), hv.below (hW.mono hB), Nat.le_trans hB hW.size⟩
  have HP : Hid (∀ W, Below w.heap.size w W → _) := fun W hW => Parse_any 4100 W (HG.out W hW).1 (HG.out W hW).2.2 hp
  subst he
  have h5 : (500 : Int) < ((S s).size : Int) := by rw [S_size]; omega
  obtain ⟨va, vcap, rfl, -⟩ := hV
  clear hg hv hB hp
  go_enter Tryz.func8, Tryz.ntmps8
  go_wp2_with (first
    | (go_at_call 9; refine (shown10_any (HG.out w (Below.refl _ _)).1 (HG.out w (Below.refl _ _)).2.1 (HG.out w (Below.refl _ _)).2.2).mono ?_; rintro e w1 ⟨rfl, hb1⟩; (have HB1 : Hid (Below w.heap.size w w1) := hb1); clear hb1)
    | (go_at_call 10; refine (HP.out w1 HB1.out).mono ?_; rintro e w2 ⟨v2, rfl, hx, hb⟩; (have HX2 : Hid (Es w2 v2 l ∧ Below w1.heap.size w1 w2) := ⟨Px.es hx, hb⟩); obtain ⟨a2, c2, hv2, -⟩ := row_slice hx; subst hv2; (have HB2 : Hid (Below w.heap.size w w2) := bel_of HB1.out hb (Nat.le_refl _)); clear hx hb HP))
  go_ret
  exact ⟨rfl, HB2.out⟩
set_option maxHeartbeats 4000000 in
set_option maxRecDepth 100000 in
theorem brk_ok {w : World} {B : Nat} (hg : Gx B w) (hv : Gv B w) (hB : B ≤ w.heap.size) {s : List UInt8} {l : List P10} {e a : Int} (hp : prs 4100 s = some (l, e, a)) {vs : List Vr} {v0 : Value} (hV : Vs w v0 vs) (he : e = 0) (hl : s.length ≤ 500) (hvl : vs.length * 48 ≤ 140737488355328) (hsm : Sm9 vs) {a2' : Int} (hq : prs 4104 ([40, 32] ++ s ++ 32 :: [41]) = some (l, 0, a2')) : Calls Tryz.prog 8 #[.string (S s), v0] w fun e w' => e = .returned (.bool true) ∧ Below w.heap.size w w' := by
  have HG : Hid (∀ W, Below w.heap.size w W → Gx B W ∧ Gv B W ∧ B ≤ W.heap.size) := fun W hW => ⟨hg.below (hW.mono hB), hv.below (hW.mono hB), Nat.le_trans hB hW.size⟩
  have HP : Hid (∀ W, Below w.heap.size w W → _) := fun W hW => Parse_any 4100 W (HG.out W hW).1 (HG.out W hW).2.2 hp
  subst he
  have HP2 : Hid (∀ W, Below w.heap.size w W → _) := fun W hW => Parse_any 4104 W (HG.out W hW).1 (HG.out W hW).2.2 hq
  have HP3 : Hid (∀ W, Below w.heap.size w W → _) := fun W hW => Parse_any 4100 W (HG.out W hW).1 (HG.out W hW).2.2 (prs_blank hl hp)
  have HS : Hid (l.length ≤ 4611686018427387904 ∧ ∀ p ∈ l, p.2.2.2.2.2.length ≤ 4611686018427387904) := ⟨by have := (prs_bd hp).1; omega, fun p hq => by have := ((prs_bd hp).2 p hq).2; omega⟩
  have HN : Hid (vs.length ≤ 4611686018427387904 ∧ Sm9 vs) := ⟨by omega, hsm⟩
  have HV : Hid (Vs w v0 vs) := hV
  have hn5 : ¬ (500 : Int) < ((S s).size : Int) := by rw [S_size]; omega
  have hS : s.length ≤ 500 := hl
  obtain ⟨A1, hA1⟩ : ∃ A, S ([40, 32] ++ s) = A := ⟨_, rfl⟩
  obtain ⟨A2, hA2⟩ : ∃ A, S ([40, 32] ++ s ++ 32 :: [41]) = A := ⟨_, rfl⟩
  obtain ⟨B1, hB1⟩ : ∃ A, S ([32, 9, 10] ++ s) = A := ⟨_, rfl⟩
  obtain ⟨B2, hB2⟩ : ∃ A, S ([32, 9, 10] ++ s ++ 10 :: [32]) = A := ⟨_, rfl⟩
  obtain ⟨ca1, ka1⟩ := cat_of [40, 32] s (by simp; omega) (A := ⟨#[40, 32]⟩) rfl rfl hA1
  obtain ⟨ca2, ka2⟩ := cat_of ([40, 32] ++ s) [32, 41] (by simp; omega) (B := ⟨#[32, 41]⟩) hA1 rfl hA2
  obtain ⟨cb1, kb1⟩ := cat_of [32, 9, 10] s (by simp; omega) (A := ⟨#[32, 9, 10]⟩) rfl rfl hB1
  obtain ⟨cb2, kb2⟩ := cat_of ([32, 9, 10] ++ s) [10, 32] (by simp; omega) (B := ⟨#[10, 32]⟩) hB1 rfl hB2
  rw [hA2] at HP2
  rw [hB2] at HP3
  obtain ⟨va, vcap, rfl, -⟩ := hV
  clear hg hv hB hp hq hvl hsm hl hS hA1 hA2 hB1 hB2
  go_enter Tryz.func8, Tryz.ntmps8
  go_upto_region 7 with (first
    | (go_at_call 9; refine (shown10_any (HG.out w (Below.refl _ _)).1 (HG.out w (Below.refl _ _)).2.1 (HG.out w (Below.refl _ _)).2.2).mono ?_; rintro e w1 ⟨rfl, hb1⟩; (have HB1 : Hid (Below w.heap.size w w1) := hb1); clear hb1)
    | (go_at_call_of 10 (Value.string (S s)); refine (HP.out w1 HB1.out).mono ?_; rintro e w2 ⟨v2, rfl, hx, hb⟩; (have HX2 : Hid (Es w2 v2 l ∧ Below w1.heap.size w1 w2) := ⟨Px.es hx, hb⟩); obtain ⟨a2, c2, hv2, -⟩ := row_slice hx; subst hv2; (have HB2 : Hid (Below w.heap.size w w2) := bel_of HB1.out hb (Nat.le_refl _)); clear hx hb HP)
    | (go_at_call_of 10 (Value.string A2); refine (HP2.out w2 HB2.out).mono ?_; rintro e w3 ⟨v3, rfl, hx, hb⟩; (have HX3 : Hid (Es w3 v3 l ∧ Below w2.heap.size w2 w3) := ⟨Px.es hx, hb⟩); obtain ⟨a3, c3, hv3, -⟩ := row_slice hx; subst hv3; (have HB3 : Hid (Below w.heap.size w w3) := bel_of HB2.out hb (Nat.le_refl _)); clear hx hb HP2)
    | (go_at_call_of 10 (Value.string B2); refine (HP3.out w3 HB3.out).mono ?_; rintro e w4 ⟨v4, rfl, hx, hb⟩; (have HX4 : Hid (Es w4 v4 l ∧ Below w3.heap.size w3 w4) := ⟨Px.es hx, hb⟩); obtain ⟨a4, c4, hv4, -⟩ := row_slice hx; subst hv4; (have HB4 : Hid (Below w.heap.size w w4) := bel_of HB3.out hb (Nat.le_refl _)); clear hx hb HP3))
  have HB24 : Hid (Below w2.heap.size w2 w4) := bel_of HX3.out.2 HX4.out.2 (Nat.le_refl _)
  have X2 : Hid (Es w4 (.slice a2 l.length c2) l) := HX2.out.1.below HB24.out
  have X3 : Hid (Es w4 (.slice a3 l.length c3) l) := HX3.out.1.below HX4.out.2
  have HE1 : Hid (∀ W, Below w4.heap.size w4 W → _) := fun W hW => Eval_any (X2.out.below hW) (HG.out W (bel_of HB4.out hW (Nat.le_refl _))).1 (HG.out W (bel_of HB4.out hW (Nat.le_refl _))).2.2 (HV.out.up (bel_of HB4.out hW (Nat.le_refl _))) HN.out.1 HN.out.2 HS.out.2 HS.out.1
  have HE2 : Hid (∀ W, Below w4.heap.size w4 W → _) := fun W hW => Eval_any (X3.out.below hW) (HG.out W (bel_of HB4.out hW (Nat.le_refl _))).1 (HG.out W (bel_of HB4.out hW (Nat.le_refl _))).2.2 (HV.out.up (bel_of HB4.out hW (Nat.le_refl _))) HN.out.1 HN.out.2 HS.out.2 HS.out.1
  have SA1 : Hid (∀ W, Below w4.heap.size w4 W → _) := fun W hW => same10_yes (X2.out.below hW) (X3.out.below hW) HS.out.1
  have SA2 : Hid (∀ W, Below w4.heap.size w4 W → _) := fun W hW => same10_yes (X2.out.below hW) (HX4.out.1.below hW) HS.out.1
  generalize evl l vs = E at *
  obtain ⟨⟨u0, u1, u2⟩, ue⟩ := E
  unfold vA' at HE1 HE2
  simp only at HE1 HE2
  clear ca1 ca2 cb1 cb2 ka1 ka2 kb1 kb2
  go_wp2_with (first
    | (go_at_call_of 20 (Value.slice a2 l.length c2); refine (HE1.out w4 (Below.refl _ _)).mono ?_; rintro e w5 ⟨rfl, hb5⟩; (have H5 : Hid (Below w4.heap.size w4 w5) := hb5); clear hb5 HE1)
    | (go_at_call 20; refine (HE2.out _ (H5.out.alloc H5.out.size _)).mono ?_; rintro e w6 ⟨rfl, hb6⟩; (have H6 : Hid (Below w4.heap.size w4 w6 ∧ w6.heap[w5.heap.size]? = some (.cells #[.int .i64 u0, .int .i64 u1, .string (S u2)] 48 (0, 0))) := ⟨bel_of (H5.out.alloc H5.out.size _) hb6 (Nat.le_refl _), (hb6.block w5.heap.size (by simp)).trans (heap_alloc_new w5 _)⟩); clear hb6 HE2)
    | (go_at_call_of 12 (Value.slice a3 l.length c3); refine (SA1.out _ (H6.out.1.alloc H6.out.1.size _)).mono ?_; rintro e w7 ⟨rfl, hb7⟩; (have h56 : w5.heap.size < w6.heap.size := (Array.getElem?_eq_some_iff.1 H6.out.2).1); (have H7 : Hid (Below w4.heap.size w4 w7 ∧ w7.heap[w5.heap.size]? = some (.cells #[.int .i64 u0, .int .i64 u1, .string (S u2)] 48 (0, 0)) ∧ w7.heap[w6.heap.size]? = some (.cells #[.int .i64 u0, .int .i64 u1, .string (S u2)] 48 (0, 0))) := ⟨bel_of (H6.out.1.alloc H6.out.1.size _) hb7 (Nat.le_refl _), (hb7.block w5.heap.size (by rw [World.size_alloc]; omega)).trans ((((Below.refl _ w6).alloc (Nat.le_refl _) _).block w5.heap.size h56).trans H6.out.2), (hb7.block w6.heap.size (by simp)).trans (heap_alloc_new w6 _)⟩); clear hb7 h56 SA1)
    | (go_at_call_of 12 (Value.slice a4 l.length c4); refine (SA2.out _ H7.out.1).mono ?_; rintro e w8 ⟨rfl, hb8⟩; (have h57 := (Array.getElem?_eq_some_iff.1 H7.out.2.1).1); (have h67 := (Array.getElem?_eq_some_iff.1 H7.out.2.2).1); (have z5 := (hb8.block w5.heap.size h57).trans H7.out.2.1); (have z6 := (hb8.block w6.heap.size h67).trans H7.out.2.2); (have p0 := cell_of (k := 0) z5 rfl); (have p1 := cell_of (k := 1) z5 rfl); (have p2 := cell_of (k := 2) z5 rfl); (have q0 := cell_of (k := 0) z6 rfl); (have q1 := cell_of (k := 1) z6 rfl); (have q2 := cell_of (k := 2) z6 rfl); (have l5 := (Array.getElem?_eq_some_iff.1 z5).1); (have l6 := (Array.getElem?_eq_some_iff.1 z6).1); (have H8 : Hid (Below w4.heap.size w4 w8) := bel_of H7.out.1 hb8 (Nat.le_refl _)); clear hb8 h57 h67 z5 z6 SA2))
  go_ret
  exact ⟨rfl, bel_of HB4.out H8.out (Nat.le_refl _)⟩
set_option maxHeartbeats 4000000 in
set_option maxRecDepth 100000 in
theorem brk_er {w : World} {B : Nat} (hg : Gx B w) (hv : Gv B w) (hB : B ≤ w.heap.size) {s : List UInt8} {l : List P10} {e a : Int} (hp : prs 4100 s = some (l, e, a)) {vs : List Vr} {v0 : Value} (hV : Vs w v0 vs) (he : e = 0) (hl : s.length ≤ 500) (hvl : vs.length * 48 ≤ 140737488355328) (hsm : Sm9 vs) {a2' : Int} (hq : prs 4104 ([40, 32] ++ s ++ 32 :: [41]) = some ([], 13, a2')) : Calls Tryz.prog 8 #[.string (S s), v0] w fun e w' => e = .returned (.bool true) ∧ Below w.heap.size w w' := by
  have HG : Hid (∀ W, Below w.heap.size w W → Gx B W ∧ Gv B W ∧ B ≤ W.heap.size) := fun W hW => ⟨hg.below (hW.mono hB), hv.below (hW.mono hB), Nat.le_trans hB hW.size⟩
  have HP : Hid (∀ W, Below w.heap.size w W → _) := fun W hW => Parse_any 4100 W (HG.out W hW).1 (HG.out W hW).2.2 hp
  subst he
  have HP2 : Hid (∀ W, Below w.heap.size w W → _) := fun W hW => Parse_any 4104 W (HG.out W hW).1 (HG.out W hW).2.2 hq
  have HP3 : Hid (∀ W, Below w.heap.size w W → _) := fun W hW => Parse_any 4100 W (HG.out W hW).1 (HG.out W hW).2.2 (prs_blank hl hp)
  have HS : Hid (l.length ≤ 4611686018427387904 ∧ ∀ p ∈ l, p.2.2.2.2.2.length ≤ 4611686018427387904) := ⟨by have := (prs_bd hp).1; omega, fun p hq => by have := ((prs_bd hp).2 p hq).2; omega⟩
  have HN : Hid (vs.length ≤ 4611686018427387904 ∧ Sm9 vs) := ⟨by omega, hsm⟩
  have HV : Hid (Vs w v0 vs) := hV
  have hn5 : ¬ (500 : Int) < ((S s).size : Int) := by rw [S_size]; omega
  have hS : s.length ≤ 500 := hl
  obtain ⟨A1, hA1⟩ : ∃ A, S ([40, 32] ++ s) = A := ⟨_, rfl⟩
  obtain ⟨A2, hA2⟩ : ∃ A, S ([40, 32] ++ s ++ 32 :: [41]) = A := ⟨_, rfl⟩
  obtain ⟨B1, hB1⟩ : ∃ A, S ([32, 9, 10] ++ s) = A := ⟨_, rfl⟩
  obtain ⟨B2, hB2⟩ : ∃ A, S ([32, 9, 10] ++ s ++ 10 :: [32]) = A := ⟨_, rfl⟩
  obtain ⟨ca1, ka1⟩ := cat_of [40, 32] s (by simp; omega) (A := ⟨#[40, 32]⟩) rfl rfl hA1
  obtain ⟨ca2, ka2⟩ := cat_of ([40, 32] ++ s) [32, 41] (by simp; omega) (B := ⟨#[32, 41]⟩) hA1 rfl hA2
  obtain ⟨cb1, kb1⟩ := cat_of [32, 9, 10] s (by simp; omega) (A := ⟨#[32, 9, 10]⟩) rfl rfl hB1
  obtain ⟨cb2, kb2⟩ := cat_of ([32, 9, 10] ++ s) [10, 32] (by simp; omega) (B := ⟨#[10, 32]⟩) hB1 rfl hB2
  rw [hA2] at HP2
  rw [hB2] at HP3
  obtain ⟨va, vcap, rfl, -⟩ := hV
  clear hg hv hB hp hq hvl hsm hl hS hA1 hA2 hB1 hB2
  go_enter Tryz.func8, Tryz.ntmps8
  go_upto_region 7 with (first
    | (go_at_call 9; refine (shown10_any (HG.out w (Below.refl _ _)).1 (HG.out w (Below.refl _ _)).2.1 (HG.out w (Below.refl _ _)).2.2).mono ?_; rintro e w1 ⟨rfl, hb1⟩; (have HB1 : Hid (Below w.heap.size w w1) := hb1); clear hb1)
    | (go_at_call_of 10 (Value.string (S s)); refine (HP.out w1 HB1.out).mono ?_; rintro e w2 ⟨v2, rfl, hx, hb⟩; (have HX2 : Hid (Es w2 v2 l ∧ Below w1.heap.size w1 w2) := ⟨Px.es hx, hb⟩); obtain ⟨a2, c2, hv2, -⟩ := row_slice hx; subst hv2; (have HB2 : Hid (Below w.heap.size w w2) := bel_of HB1.out hb (Nat.le_refl _)); clear hx hb HP)
    | (go_at_call_of 10 (Value.string A2); refine (HP2.out w2 HB2.out).mono ?_; rintro e w3 ⟨v3, rfl, hx, hb⟩; (have HX3 : Hid (Es w3 v3 ([] : List P10) ∧ Below w2.heap.size w2 w3) := ⟨Px.es hx, hb⟩); obtain ⟨a3, c3, hv3, -⟩ := row_slice hx; subst hv3; (have HB3 : Hid (Below w.heap.size w w3) := bel_of HB2.out hb (Nat.le_refl _)); clear hx hb HP2)
    | (go_at_call_of 10 (Value.string B2); refine (HP3.out w3 HB3.out).mono ?_; rintro e w4 ⟨v4, rfl, hx, hb⟩; (have HX4 : Hid (Es w4 v4 l ∧ Below w3.heap.size w3 w4) := ⟨Px.es hx, hb⟩); obtain ⟨a4, c4, hv4, -⟩ := row_slice hx; subst hv4; (have HB4 : Hid (Below w.heap.size w w4) := bel_of HB3.out hb (Nat.le_refl _)); clear hx hb HP3))
  have HB24 : Hid (Below w2.heap.size w2 w4) := bel_of HX3.out.2 HX4.out.2 (Nat.le_refl _)
  have X2 : Hid (Es w4 (.slice a2 l.length c2) l) := HX2.out.1.below HB24.out
  have X3 : Hid (Es w4 (.slice a3 ([] : List P10).length c3) ([] : List P10)) := HX3.out.1.below HX4.out.2
  have HE1 : Hid (∀ W, Below w4.heap.size w4 W → _) := fun W hW => Eval_any (X2.out.below hW) (HG.out W (bel_of HB4.out hW (Nat.le_refl _))).1 (HG.out W (bel_of HB4.out hW (Nat.le_refl _))).2.2 (HV.out.up (bel_of HB4.out hW (Nat.le_refl _))) HN.out.1 HN.out.2 HS.out.2 HS.out.1
  have HE2 : Hid (∀ W, Below w4.heap.size w4 W → _) := fun W hW => Eval_any (X3.out.below hW) (HG.out W (bel_of HB4.out hW (Nat.le_refl _))).1 (HG.out W (bel_of HB4.out hW (Nat.le_refl _))).2.2 (HV.out.up (bel_of HB4.out hW (Nat.le_refl _))) HN.out.1 HN.out.2 (fun p hp => by cases hp) (Nat.zero_le _)
  generalize evl l vs = E at *
  generalize evl [] vs = E2 at *
  obtain ⟨⟨u0, u1, u2⟩, ue⟩ := E
  obtain ⟨⟨y0, y1, y2⟩, ye⟩ := E2
  unfold vA' at HE1 HE2
  simp only at HE1 HE2
  clear ca1 ca2 cb1 cb2 ka1 ka2 kb1 kb2
  go_wp2_with (first
    | (go_at_call_of 20 (Value.slice a2 l.length c2); refine (HE1.out w4 (Below.refl _ _)).mono ?_; rintro e w5 ⟨rfl, hb5⟩; (have H5 : Hid (Below w4.heap.size w4 w5) := hb5); clear hb5 HE1)
    | (go_at_call 20; refine (HE2.out _ (H5.out.alloc H5.out.size _)).mono ?_; rintro e w6 ⟨rfl, hb6⟩; (have H6 : Hid (Below w4.heap.size w4 w6) := bel_of (H5.out.alloc H5.out.size _) hb6 (Nat.le_refl _)); clear hb6 HE2))
  go_ret
  exact ⟨rfl, bel_of HB4.out (H6.out.alloc H6.out.size _) (Nat.le_refl _)⟩
end Go.Proofs.YtpbfdaijnndilaaGreatDoor.x10

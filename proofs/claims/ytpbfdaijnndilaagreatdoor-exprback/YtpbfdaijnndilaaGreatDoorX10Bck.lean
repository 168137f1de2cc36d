/-
  ExprBack, walked.
-/
import Derived.Test.YtpbfdaijnndilaaGreatDoorGRptP
import Derived.Test.YtpbfdaijnndilaaGreatDoorGBrkW
import Derived.Test.YtpbfdaijnndilaaGreatDoorX10Shn
import Derived.Test.YtpbfdaijnndilaaGreatDoorGExprW
namespace Go.Proofs.YtpbfdaijnndilaaGreatDoor.x10
open Go.RowKit Go.Shelf Go.Sort
open Go.Lib hiding intOf

set_option maxHeartbeats 4000000 in
set_option maxRecDepth 100000 in
theorem bck_no {w : World} {B : Nat} (hg : Gx B w) (hv : Gv B w) (hB : B ≤ w.heap.size) {s : List UInt8} {l : List P10} {e a : Int} (hp : prs 4100 s = some (l, e, a)) (he : ¬ e = 0) : Calls Tryz.prog 6 #[.string (S s)] w fun e w' => e = .returned (.bool true) ∧ Below w.heap.size w w' := by
  have HG : Hid (∀ W, Below w.heap.size w W → Gx B W ∧ Gv B W ∧ B ≤ W.heap.size) := fun W hW => ⟨hg.below (hW.mono hB), hv.below (hW.mono hB), Nat.le_trans hB hW.size⟩
  have HP : Hid (∀ W, Below w.heap.size w W → _) := fun W hW => Parse_any 4100 W (HG.out W hW).1 (HG.out W hW).2.2 hp
  have h1 : (e == 0) = false := beq_eq_false_iff_ne.2 he
  clear hg hv hB hp
  go_enter Tryz.func6, Tryz.ntmps6
  go_wp2_with (first
    | (go_at_call 9; refine (shown10_any (HG.out w (Below.refl _ _)).1 (HG.out w (Below.refl _ _)).2.1 (HG.out w (Below.refl _ _)).2.2).mono ?_; rintro e w1 ⟨rfl, hb1⟩; (have HB1 : Hid (Below w.heap.size w w1) := hb1); clear hb1)
    | (go_at_call 10; refine (HP.out w1 HB1.out).mono ?_; rintro e w2 ⟨v2, rfl, hx, hb⟩; (have HX2 : Hid (Es w2 v2 l ∧ Below w1.heap.size w1 w2) := ⟨Px.es hx, hb⟩); obtain ⟨a2, c2, hv2, -⟩ := row_slice hx; subst hv2; (have HB2 : Hid (Below w.heap.size w w2) := bel_of HB1.out hb (Nat.le_refl _)); clear hx hb HP))
  go_ret
  exact ⟨rfl, HB2.out⟩
set_option maxHeartbeats 4000000 in
set_option maxRecDepth 100000 in
theorem bck_long {w : World} {B : Nat} (hg : Gx B w) (hv : Gv B w) (hB : B ≤ w.heap.size) {s : List UInt8} {l : List P10} {e a : Int} (hp : prs 4100 s = some (l, e, a)) (he : e = 0) (ht : (prtE l).2 = 13) : Calls Tryz.prog 6 #[.string (S s)] w fun e w' => e = .returned (.bool true) ∧ Below w.heap.size w w' := by
  have HG : Hid (∀ W, Below w.heap.size w W → Gx B W ∧ Gv B W ∧ B ≤ W.heap.size) := fun W hW => ⟨hg.below (hW.mono hB), hv.below (hW.mono hB), Nat.le_trans hB hW.size⟩
  have HP : Hid (∀ W, Below w.heap.size w W → _) := fun W hW => Parse_any 4100 W (HG.out W hW).1 (HG.out W hW).2.2 hp
  subst he
  have HS : Hid (l.length ≤ 4611686018427387904 ∧ ∀ p ∈ l, Vk p.2.2.2) := ⟨by have := (prs_bd hp).1; omega, fun p hq => ((prs_bd hp).2 p hq).1⟩
  have HT : Hid (∀ W (_ : Below w.heap.size w W) {v : Value} (_ : Es W v l), _) := fun W hW v hE => Print_any hE (HG.out W hW).1 (HG.out W hW).2.1 (HG.out W hW).2.2 HS.out.2 HS.out.1
  generalize prtE l = P at *
  obtain ⟨tx, te⟩ := P
  simp only at ht HT
  subst ht
  clear hg hv hB hp
  go_enter Tryz.func6, Tryz.ntmps6
  go_wp2_with (first
    | (go_at_call 9; refine (shown10_any (HG.out w (Below.refl _ _)).1 (HG.out w (Below.refl _ _)).2.1 (HG.out w (Below.refl _ _)).2.2).mono ?_; rintro e w1 ⟨rfl, hb1⟩; (have HB1 : Hid (Below w.heap.size w w1) := hb1); clear hb1)
    | (go_at_call 10; refine (HP.out w1 HB1.out).mono ?_; rintro e w2 ⟨v2, rfl, hx, hb⟩; (have HX2 : Hid (Es w2 v2 l ∧ Below w1.heap.size w1 w2) := ⟨Px.es hx, hb⟩); obtain ⟨a2, c2, hv2, -⟩ := row_slice hx; subst hv2; (have HB2 : Hid (Below w.heap.size w w2) := bel_of HB1.out hb (Nat.le_refl _)); clear hx hb HP)
    | (go_at_call 13; refine (HT.out w2 HB2.out HX2.out.1).mono ?_; rintro e w3 ⟨rfl, hb⟩; (have HB3 : Hid (Below w.heap.size w w3) := bel_of HB2.out hb (Nat.le_refl _)); (have H23 : Hid (Below w2.heap.size w2 w3) := hb); clear hb HT))
  go_ret
  exact ⟨rfl, HB3.out⟩
set_option maxHeartbeats 4000000 in
set_option maxRecDepth 100000 in
theorem bck_go {w : World} {B : Nat} (hg : Gx B w) (hv : Gv B w) (hB : B ≤ w.heap.size) {s : List UInt8} {l : List P10} {e a : Int} (hp : prs 4100 s = some (l, e, a)) (he : e = 0) (ht : (prtE l).2 = 0) {n : Nat} (hq : prs n (prtE l).1 = some (l, 0, 0)) : Calls Tryz.prog 6 #[.string (S s)] w fun e w' => e = .returned (.bool true) ∧ Below w.heap.size w w' := by
  have HG : Hid (∀ W, Below w.heap.size w W → Gx B W ∧ Gv B W ∧ B ≤ W.heap.size) := fun W hW => ⟨hg.below (hW.mono hB), hv.below (hW.mono hB), Nat.le_trans hB hW.size⟩
  have HP : Hid (∀ W, Below w.heap.size w W → _) := fun W hW => Parse_any 4100 W (HG.out W hW).1 (HG.out W hW).2.2 hp
  subst he
  have HS : Hid (l.length ≤ 4611686018427387904 ∧ ∀ p ∈ l, Vk p.2.2.2) := ⟨by have := (prs_bd hp).1; omega, fun p hq => ((prs_bd hp).2 p hq).1⟩
  have HT : Hid (∀ W (_ : Below w.heap.size w W) {v : Value} (_ : Es W v l), _) := fun W hW v hE => Print_any hE (HG.out W hW).1 (HG.out W hW).2.1 (HG.out W hW).2.2 HS.out.2 HS.out.1
  generalize prtE l = P at *
  obtain ⟨tx, te⟩ := P
  simp only at ht HT hq
  subst ht
  have HP2 : Hid (∀ W, Below w.heap.size w W → _) := fun W hW => Parse_any n W (HG.out W hW).1 (HG.out W hW).2.2 hq
  clear hg hv hB hp hq
  go_enter Tryz.func6, Tryz.ntmps6
  go_wp2_with (first
    | (go_at_call 9; refine (shown10_any (HG.out w (Below.refl _ _)).1 (HG.out w (Below.refl _ _)).2.1 (HG.out w (Below.refl _ _)).2.2).mono ?_; rintro e w1 ⟨rfl, hb1⟩; (have HB1 : Hid (Below w.heap.size w w1) := hb1); clear hb1)
    | (go_at_call_of 10 (Value.string (S s)); refine (HP.out w1 HB1.out).mono ?_; rintro e w2 ⟨v2, rfl, hx, hb⟩; (have HX2 : Hid (Es w2 v2 l ∧ Below w1.heap.size w1 w2) := ⟨Px.es hx, hb⟩); obtain ⟨a2, c2, hv2, -⟩ := row_slice hx; subst hv2; (have HB2 : Hid (Below w.heap.size w w2) := bel_of HB1.out hb (Nat.le_refl _)); clear hx hb HP)
    | (go_at_call 13; refine (HT.out w2 HB2.out HX2.out.1).mono ?_; rintro e w3 ⟨rfl, hb⟩; (have HB3 : Hid (Below w.heap.size w w3) := bel_of HB2.out hb (Nat.le_refl _)); (have H23 : Hid (Below w2.heap.size w2 w3) := hb); clear hb HT)
    | (go_at_call_of 10 (Value.string (S tx)); refine (HP2.out w3 HB3.out).mono ?_; rintro e w4 ⟨v4, rfl, hx, hb⟩; (have HX4 : Hid (Es w4 v4 l ∧ Below w3.heap.size w3 w4) := ⟨Px.es hx, hb⟩); obtain ⟨a4, c4, hv4, -⟩ := row_slice hx; subst hv4; (have HB4 : Hid (Below w.heap.size w w4) := bel_of HB3.out hb (Nat.le_refl _)); clear hx hb HP2)
    | (go_at_call 12; refine (same10_yes (HX2.out.1.below (bel_of H23.out HX4.out.2 (Nat.le_refl _))) HX4.out.1 HS.out.1).mono ?_; rintro e w5 ⟨rfl, hb⟩; (have HB5 : Hid (Below w.heap.size w w5) := bel_of HB4.out hb (Nat.le_refl _)); clear hb))
  go_ret
  exact ⟨rfl, HB5.out⟩
end Go.Proofs.YtpbfdaijnndilaaGreatDoor.x10

/-
  ExprCompares holds of every two numbers and every two texts, whatever they are.
-/
import Derived.Test.YtpdengbdnijcfaaGreatDoorX10Crd
import Derived.Test.YtpdengbdnijcfaaGreatDoorX10Cmr
namespace Go.Proofs.YtpdengbdnijcfaaGreatDoor.x10
open Go.RowKit Go.Shelf Go.Sort
open Go.Lib hiding intOf

set_option maxHeartbeats 2000000 in
set_option maxRecDepth 100000 in
theorem cmp_s {w : World} {B : Nat} (hg : Gx B w) (hv : Gv B w) (hB : B ≤ w.heap.size) {a b : Int} {s t : List UInt8} (hl : 1024 < s.length) : Calls Tryz.prog 4 #[.agg #[.int .i64 a, .int .i64 b, .string (S s), .string (S t)]] w fun e w' => e = .returned (.bool true) ∧ Below w.heap.size w w' := by
  have HG : Hid (∀ W, Below w.heap.size w W → Gx B W ∧ Gv B W ∧ B ≤ W.heap.size) := fun W hW => ⟨hg.below (hW.mono hB), hv.below (hW.mono hB), Nat.le_trans hB hW.size⟩
  have h1 : (1024 : Int) < (s.length : Int) := by omega
  have z1 := S_size s
  have z2 := S_size t
  clear hg hv hB hl
  go_enter Tryz.func4, Tryz.ntmps4
  go_wp2_with (go_at_call 9; refine (shown10_any (HG.out _ ((Below.refl _ w).alloc (Nat.le_refl _) _)).1 (HG.out _ ((Below.refl _ w).alloc (Nat.le_refl _) _)).2.1 (HG.out _ ((Below.refl _ w).alloc (Nat.le_refl _) _)).2.2).mono ?_; rintro e w1 ⟨rfl, hb1⟩; (have HB1 : Hid (Below w.heap.size w w1) := bel_of ((Below.refl _ w).alloc (Nat.le_refl _) _) hb1 (Nat.le_refl _)); clear hb1)
  go_ret
  exact ⟨rfl, HB1.out⟩
set_option maxHeartbeats 2000000 in
set_option maxRecDepth 100000 in
theorem cmp_t {w : World} {B : Nat} (hg : Gx B w) (hv : Gv B w) (hB : B ≤ w.heap.size) {a b : Int} {s t : List UInt8} (hs : ¬ 1024 < s.length) (hl : 1024 < t.length) : Calls Tryz.prog 4 #[.agg #[.int .i64 a, .int .i64 b, .string (S s), .string (S t)]] w fun e w' => e = .returned (.bool true) ∧ Below w.heap.size w w' := by
  have HG : Hid (∀ W, Below w.heap.size w W → Gx B W ∧ Gv B W ∧ B ≤ W.heap.size) := fun W hW => ⟨hg.below (hW.mono hB), hv.below (hW.mono hB), Nat.le_trans hB hW.size⟩
  have h1 : ¬ (1024 : Int) < (s.length : Int) := by omega
  have h2 : (1024 : Int) < (t.length : Int) := by omega
  clear hs
  have z1 := S_size s
  have z2 := S_size t
  clear hg hv hB hl
  go_enter Tryz.func4, Tryz.ntmps4
  go_wp2_with (go_at_call 9; refine (shown10_any (HG.out _ ((Below.refl _ w).alloc (Nat.le_refl _) _)).1 (HG.out _ ((Below.refl _ w).alloc (Nat.le_refl _) _)).2.1 (HG.out _ ((Below.refl _ w).alloc (Nat.le_refl _) _)).2.2).mono ?_; rintro e w1 ⟨rfl, hb1⟩; (have HB1 : Hid (Below w.heap.size w w1) := bel_of ((Below.refl _ w).alloc (Nat.le_refl _) _) hb1 (Nat.le_refl _)); clear hb1)
  go_ret
  exact ⟨rfl, HB1.out⟩
set_option maxHeartbeats 4000000 in
set_option maxRecDepth 100000 in
theorem cmp_go {w : World} {B : Nat} (hg : Gx B w) (hv : Gv B w) (hB : B ≤ w.heap.size) {a b : Int} (ha : -9223372036854775808 ≤ a ∧ a ≤ 9223372036854775807) (hb : -9223372036854775808 ≤ b ∧ b ≤ 9223372036854775807) {s t : List UInt8} (hs : s.length ≤ 1024) (ht : t.length ≤ 1024) : Calls Tryz.prog 4 #[.agg #[.int .i64 a, .int .i64 b, .string (S s), .string (S t)]] w fun e w' => e = .returned (.bool true) ∧ Below w.heap.size w w' := by
  have HG : Hid (∀ W, Below w.heap.size w W → Gx B W ∧ Gv B W ∧ B ≤ W.heap.size) := fun W hW => ⟨hg.below (hW.mono hB), hv.below (hW.mono hB), Nat.le_trans hB hW.size⟩
  have HN : Hid (Sm9 (cmV a b s t)) := cmV_sm ha hb hs ht
  have HA : Hid (∀ i (h : i < 10), _) := cm_all a b hs ht
  have h1 : ¬ (1024 : Int) < (s.length : Int) := by omega
  have h2 : ¬ (1024 : Int) < (t.length : Int) := by omega
  have z1 := S_size s
  have z2 := S_size t
  clear hg hv hB ha hb hs ht
  go_enter Tryz.func4, Tryz.ntmps4
  go_upto_region 10 with (go_at_call 9; refine (shown10_any (HG.out _ ((Below.refl _ w).alloc (Nat.le_refl _) _)).1 (HG.out _ ((Below.refl _ w).alloc (Nat.le_refl _) _)).2.1 (HG.out _ ((Below.refl _ w).alloc (Nat.le_refl _) _)).2.2).mono ?_; rintro e w1 ⟨rfl, hb1⟩; (have HB1 : Hid (Below w.heap.size w w1) := bel_of ((Below.refl _ w).alloc (Nat.le_refl _) _) hb1 (Nat.le_refl _)); clear hb1)
  obtain ⟨W, hW⟩ : ∃ W, (w1.alloc (.cells #[.string ⟨#[97]⟩, .int .i64 1, .int .i64 a, .string ⟨#[]⟩, .string ⟨#[98]⟩, .int .i64 1, .int .i64 b, .string ⟨#[]⟩, .string ⟨#[115]⟩, .int .i64 3, .int .i64 0, .string (S s), .string ⟨#[116]⟩, .int .i64 3, .int .i64 0, .string (S t)] 26)).alloc (.cells #[.string ⟨#[40, 32, 97, 32, 60, 32, 98, 32, 41, 32, 61, 61, 32, 40, 32, 98, 32, 62, 32, 97, 32, 41]⟩, .string ⟨#[40, 32, 97, 32, 60, 61, 32, 98, 32, 41, 32, 61, 61, 32, 110, 111, 116, 32, 40, 32, 97, 32, 62, 32, 98, 32, 41]⟩, .string ⟨#[40, 32, 97, 32, 61, 61, 32, 98, 32, 41, 32, 61, 61, 32, 40, 32, 97, 32, 60, 61, 32, 98, 32, 97, 110, 100, 32, 97, 32, 62, 61, 32, 98, 32, 41]⟩, .string ⟨#[40, 32, 97, 32, 33, 61, 32, 98, 32, 41, 32, 61, 61, 32, 40, 32, 97, 32, 60, 32, 98, 32, 111, 114, 32, 97, 32, 62, 32, 98, 32, 41]⟩, .string ⟨#[40, 32, 115, 32, 60, 32, 116, 32, 41, 32, 61, 61, 32, 40, 32, 116, 32, 62, 32, 115, 32, 41]⟩, .string ⟨#[40, 32, 115, 32, 60, 61, 32, 116, 32, 41, 32, 61, 61, 32, 110, 111, 116, 32, 40, 32, 115, 32, 62, 32, 116, 32, 41]⟩, .string ⟨#[40, 32, 115, 32, 61, 61, 32, 116, 32, 41, 32, 61, 61, 32, 40, 32, 115, 32, 60, 61, 32, 116, 32, 97, 110, 100, 32, 115, 32, 62, 61, 32, 116, 32, 41]⟩, .string ⟨#[40, 32, 115, 32, 33, 61, 32, 116, 32, 41, 32, 61, 61, 32, 110, 111, 116, 32, 40, 32, 115, 32, 61, 61, 32, 116, 32, 41]⟩, .string ⟨#[115, 32, 43, 32, 116, 32, 62, 32, 115, 32, 111, 114, 32, 108, 101, 110, 32, 40, 32, 116, 32, 41, 32, 61, 61, 32, 48]⟩, .string ⟨#[40, 32, 115, 32, 43, 32, 116, 32, 61, 61, 32, 116, 32, 43, 32, 115, 32, 41, 32, 111, 114, 32, 115, 32, 33, 61, 32, 116]⟩] 9) = W := ⟨_, rfl⟩
  rw [hW]
  have hbW : Below w1.heap.size w1 W := by rw [← hW]; exact ((Below.refl _ w1).alloc (Nat.le_refl _) _).alloc (by simp) _
  have hV : W.heap[w1.heap.size]? = some (.cells #[.string ⟨#[97]⟩, .int .i64 1, .int .i64 a, .string ⟨#[]⟩, .string ⟨#[98]⟩, .int .i64 1, .int .i64 b, .string ⟨#[]⟩, .string ⟨#[115]⟩, .int .i64 3, .int .i64 0, .string (S s), .string ⟨#[116]⟩, .int .i64 3, .int .i64 0, .string (S t)] 26 (0, 0)) := by
    rw [← hW]
    exact (Below.heap_alloc _ _ _ (by simp)).trans (heap_alloc_new w1 _)
  have hT : W.heap[w1.heap.size + 1]? = some (.cells #[.string ⟨#[40, 32, 97, 32, 60, 32, 98, 32, 41, 32, 61, 61, 32, 40, 32, 98, 32, 62, 32, 97, 32, 41]⟩, .string ⟨#[40, 32, 97, 32, 60, 61, 32, 98, 32, 41, 32, 61, 61, 32, 110, 111, 116, 32, 40, 32, 97, 32, 62, 32, 98, 32, 41]⟩, .string ⟨#[40, 32, 97, 32, 61, 61, 32, 98, 32, 41, 32, 61, 61, 32, 40, 32, 97, 32, 60, 61, 32, 98, 32, 97, 110, 100, 32, 97, 32, 62, 61, 32, 98, 32, 41]⟩, .string ⟨#[40, 32, 97, 32, 33, 61, 32, 98, 32, 41, 32, 61, 61, 32, 40, 32, 97, 32, 60, 32, 98, 32, 111, 114, 32, 97, 32, 62, 32, 98, 32, 41]⟩, .string ⟨#[40, 32, 115, 32, 60, 32, 116, 32, 41, 32, 61, 61, 32, 40, 32, 116, 32, 62, 32, 115, 32, 41]⟩, .string ⟨#[40, 32, 115, 32, 60, 61, 32, 116, 32, 41, 32, 61, 61, 32, 110, 111, 116, 32, 40, 32, 115, 32, 62, 32, 116, 32, 41]⟩, .string ⟨#[40, 32, 115, 32, 61, 61, 32, 116, 32, 41, 32, 61, 61, 32, 40, 32, 115, 32, 60, 61, 32, 116, 32, 97, 110, 100, 32, 115, 32, 62, 61, 32, 116, 32, 41]⟩, .string ⟨#[40, 32, 115, 32, 33, 61, 32, 116, 32, 41, 32, 61, 61, 32, 110, 111, 116, 32, 40, 32, 115, 32, 61, 61, 32, 116, 32, 41]⟩, .string ⟨#[115, 32, 43, 32, 116, 32, 62, 32, 115, 32, 111, 114, 32, 108, 101, 110, 32, 40, 32, 116, 32, 41, 32, 61, 61, 32, 48]⟩, .string ⟨#[40, 32, 115, 32, 43, 32, 116, 32, 61, 61, 32, 116, 32, 43, 32, 115, 32, 41, 32, 111, 114, 32, 115, 32, 33, 61, 32, 116]⟩] 9 (0, 0)) := by
    rw [← hW]
    have := heap_alloc_new (w1.alloc (.cells #[.string ⟨#[97]⟩, .int .i64 1, .int .i64 a, .string ⟨#[]⟩, .string ⟨#[98]⟩, .int .i64 1, .int .i64 b, .string ⟨#[]⟩, .string ⟨#[115]⟩, .int .i64 3, .int .i64 0, .string (S s), .string ⟨#[116]⟩, .int .i64 3, .int .i64 0, .string (S t)] 26)) (.cells #[.string ⟨#[40, 32, 97, 32, 60, 32, 98, 32, 41, 32, 61, 61, 32, 40, 32, 98, 32, 62, 32, 97, 32, 41]⟩, .string ⟨#[40, 32, 97, 32, 60, 61, 32, 98, 32, 41, 32, 61, 61, 32, 110, 111, 116, 32, 40, 32, 97, 32, 62, 32, 98, 32, 41]⟩, .string ⟨#[40, 32, 97, 32, 61, 61, 32, 98, 32, 41, 32, 61, 61, 32, 40, 32, 97, 32, 60, 61, 32, 98, 32, 97, 110, 100, 32, 97, 32, 62, 61, 32, 98, 32, 41]⟩, .string ⟨#[40, 32, 97, 32, 33, 61, 32, 98, 32, 41, 32, 61, 61, 32, 40, 32, 97, 32, 60, 32, 98, 32, 111, 114, 32, 97, 32, 62, 32, 98, 32, 41]⟩, .string ⟨#[40, 32, 115, 32, 60, 32, 116, 32, 41, 32, 61, 61, 32, 40, 32, 116, 32, 62, 32, 115, 32, 41]⟩, .string ⟨#[40, 32, 115, 32, 60, 61, 32, 116, 32, 41, 32, 61, 61, 32, 110, 111, 116, 32, 40, 32, 115, 32, 62, 32, 116, 32, 41]⟩, .string ⟨#[40, 32, 115, 32, 61, 61, 32, 116, 32, 41, 32, 61, 61, 32, 40, 32, 115, 32, 60, 61, 32, 116, 32, 97, 110, 100, 32, 115, 32, 62, 61, 32, 116, 32, 41]⟩, .string ⟨#[40, 32, 115, 32, 33, 61, 32, 116, 32, 41, 32, 61, 61, 32, 110, 111, 116, 32, 40, 32, 115, 32, 61, 61, 32, 116, 32, 41]⟩, .string ⟨#[115, 32, 43, 32, 116, 32, 62, 32, 115, 32, 111, 114, 32, 108, 101, 110, 32, 40, 32, 116, 32, 41, 32, 61, 61, 32, 48]⟩, .string ⟨#[40, 32, 115, 32, 43, 32, 116, 32, 61, 61, 32, 116, 32, 43, 32, 115, 32, 41, 32, 111, 114, 32, 115, 32, 33, 61, 32, 116]⟩] 9)
    rw [World.size_alloc] at this
    exact this
  have HW : Hid (Below w.heap.size w W) := HB1.out.trans (hbW.mono HB1.out.size)
  have HV : Hid (Vs W (.slice (some ⟨w1.heap.size, 0, none⟩) 4 4) (cmV a b s t)) := by
    refine ⟨_, 4, rfl, ⟨Nat.le_refl _, fun h => by cases h⟩, .inr ⟨w1.heap.size, 0, rfl, (Array.getElem?_eq_some_iff.1 hV).1, fun j hj => ?_⟩⟩
    have hj4 : j = 0 ∨ j = 1 ∨ j = 2 ∨ j = 3 := by have : j < 4 := hj; omega
    rcases hj4 with rfl | rfl | rfl | rfl <;> exact ⟨cell_of hV rfl, cell_of hV rfl, cell_of hV rfl, cell_of hV rfl⟩
  have HT : Hid (∀ i (h : i < 10), W.cell? ⟨w1.heap.size + 1, i, none⟩ = some (.string (S (cmT[i]'h)))) := fun i h => by
    have hc : i = 0 ∨ i = 1 ∨ i = 2 ∨ i = 3 ∨ i = 4 ∨ i = 5 ∨ i = 6 ∨ i = 7 ∨ i = 8 ∨ i = 9 := by omega
    rcases hc with rfl | rfl | rfl | rfl | rfl | rfl | rfl | rfl | rfl | rfl <;> exact cell_of hT rfl
  have HL : Hid (w1.heap.size + 1 < W.heap.size) := (Array.getElem?_eq_some_iff.1 hT).1
  clear hW hbW hV hT
  go_wp2
  go_loopw [10] (fun v10 wr => ∃ i : Nat, v10 = .int .i64 (i : Int) ∧ i ≤ 10 ∧ Hid (Below W.heap.size W wr)) (fun v10 _ => 10 - (intOf v10).toNat)
  case atStart => exact ⟨0, rfl, Nat.zero_le _, Below.refl _ _⟩
  case round =>
    obtain ⟨i, rfl, hi, HR⟩ := hrel
    by_cases hlt : i < 10
    · obtain ⟨l, hp, he, hs, hl⟩ := HA.out i hlt
      have hbr := bel_of HW.out HR.out (Nat.le_refl _)
      have CP := Parse_any 80 wr (HG.out wr hbr).1 (HG.out wr hbr).2.2 hp
      have HE : Hid (∀ W' xv, Below wr.heap.size wr W' → Es W' xv l → _) := fun W' xv hW' hE => Eval_any hE (HG.out W' (bel_of hbr hW' (Nat.le_refl _))).1 (HG.out W' (bel_of hbr hW' (Nat.le_refl _))).2.2 (HV.out.up (bel_of HR.out hW' (Nat.le_refl _))) (cmV_len _ _ _ _) HN.out hs hl
      have dT : wr.cell? ⟨w1.heap.size + 1, i, none⟩ = some (.string (S (cmT[i]'hlt))) := (HR.out.cell (p := ⟨w1.heap.size + 1, i, none⟩) HL.out).trans (HT.out i hlt)
      generalize cmT[i]'hlt = tx at *
      generalize S tx = st at *
      have i1 : (0 : Int) ≤ (i : Int) := by omega
      have i2 : (i : Int) < 10 := by omega
      have i3 : i + 1 ≤ 10 := hlt
      clear hp hs hl hbr hi hlt
      rcases he with he | ⟨h8, he⟩
      · rw [he] at HE
        have HE2 : Hid (∀ W' xv, Below wr.heap.size wr W' → Es W' xv l → Calls Tryz.prog 11 #[xv, .slice (some ⟨w1.heap.size, 0, none⟩) 4 4] W' fun e w' => e = .returned (.tuple #[.agg #[.int .i64 2, .int .i64 1, .string ⟨#[]⟩], .int .i64 0]) ∧ Below W'.heap.size W' w') := HE.out
        clear HE he
        go_wp2_with (first
          | (go_at_call 10; refine CP.mono ?_; rintro e w3 ⟨v3, rfl, hx3, hb3⟩; (have HX3 : Hid (Es w3 v3 l) := Px.es hx3); obtain ⟨a3, c3, hv3, -⟩ := row_slice hx3; subst hv3; (have HB3 : Hid (Below wr.heap.size wr w3) := hb3); clear hx3 hb3 CP)
          | (go_at_call 11; refine (HE2.out w3 _ HB3.out HX3.out).mono ?_; rintro e w4 ⟨rfl, hb4⟩; (have HB4 : Hid (Below W.heap.size W w4) := HR.out.trans ((HB3.out.trans (hb4.mono HB3.out.size)).mono HR.out.size)); clear hb4 HE2))
        go_roundw
        case rel => exact ⟨i + 1, by simp, i3, HB4.out.alloc HB4.out.size _⟩
        case measure => simp [intOf]; omega
      · rw [he] at HE
        have HE2 : Hid (∀ W' xv, Below wr.heap.size wr W' → Es W' xv l → Calls Tryz.prog 11 #[xv, .slice (some ⟨w1.heap.size, 0, none⟩) 4 4] W' fun e w' => e = .returned (.tuple #[.agg #[.int .i64 0, .int .i64 0, .string ⟨#[]⟩], .int .i64 13]) ∧ Below W'.heap.size W' w') := HE.out
        have i4 : (8 : Int) ≤ (i : Int) := by omega
        clear HE he
        go_wp2_with (first
          | (go_at_call 10; refine CP.mono ?_; rintro e w3 ⟨v3, rfl, hx3, hb3⟩; (have HX3 : Hid (Es w3 v3 l) := Px.es hx3); obtain ⟨a3, c3, hv3, -⟩ := row_slice hx3; subst hv3; (have HB3 : Hid (Below wr.heap.size wr w3) := hb3); clear hx3 hb3 CP)
          | (go_at_call 11; refine (HE2.out w3 _ HB3.out HX3.out).mono ?_; rintro e w4 ⟨rfl, hb4⟩; (have HB4 : Hid (Below W.heap.size W w4) := HR.out.trans ((HB3.out.trans (hb4.mono HB3.out.size)).mono HR.out.size)); clear hb4 HE2))
        go_roundw
        case rel => exact ⟨i + 1, by simp, i3, HB4.out.alloc HB4.out.size _⟩
        case measure => simp [intOf]; omega
    · obtain rfl : i = 10 := by omega
      go_wp2
      go_ret
      exact ⟨rfl, bel_of HW.out HR.out (Nat.le_refl _)⟩
theorem cmp_any {w : World} {B : Nat} (hg : Gx B w) (hv : Gv B w) (hB : B ≤ w.heap.size) {a b : Int} (ha : -9223372036854775808 ≤ a ∧ a ≤ 9223372036854775807) (hb : -9223372036854775808 ≤ b ∧ b ≤ 9223372036854775807) (s t : List UInt8) : Calls Tryz.prog 4 #[.agg #[.int .i64 a, .int .i64 b, .string (S s), .string (S t)]] w fun e w' => e = .returned (.bool true) ∧ Below w.heap.size w w' := by
  by_cases hs : 1024 < s.length
  · exact cmp_s hg hv hB hs
  · by_cases ht : 1024 < t.length
    · exact cmp_t hg hv hB hs ht
    · exact cmp_go hg hv hB ha hb (by omega) (by omega)
end Go.Proofs.YtpdengbdnijcfaaGreatDoor.x10

namespace Go.Proofs.YtpdengbdnijcfaaGreatDoor.exprCompares
open Go.Proofs.YtpdengbdnijcfaaGreatDoor.x10
open Go.ChangeShapes Go.WideShapes Go.ChangeAt Go.WideMaps Go.WideElems Go.RowKit
set_option maxRecDepth 100000 in
theorem openIn {H : Type} {enc : TypeId × Value → H} {W : World} {v : Value} {d : DataW H} {p : List MemPlace} {base : Nat} (hok : Value.okWide Tryz.prog W .any base 38 v)
    (h : DataW.Trod enc Tryz.prog W 0 (fun _ => true) true 38 v d p) : ∃ (a b : Int) (s t : List UInt8), v = .agg #[.int .i64 a, .int .i64 b, .string (S s), .string (S t)] ∧ (-9223372036854775808 ≤ a ∧ a ≤ 9223372036854775807) ∧ (-9223372036854775808 ≤ b ∧ b ≤ 9223372036854775807) := by
  have hc1 : Tryz.prog.cellsOf 2 = 1 := by kernel_rfl
  have hc2 : Tryz.prog.cellsOf 9 = 1 := by kernel_rfl
  obtain ⟨cs, rfl, hsz⟩ := okWide_struct Tryz.underlying38 hok
  have hC : Tryz.prog.cellsOf 38 = 4 := by kernel_rfl
  obtain ⟨fuel, hf⟩ := h
  have hf' : DataW.trod enc Tryz.prog W 0 (fun _ => true) true fuel 38 cs.toList = some (d, p) := hf
  obtain ⟨y0, y1, y2, y3, k, hD, _, t0, t1, t2, t3⟩ := Go.Joins.trod_struct4 Tryz.underlying38 hf'
  obtain ⟨z0, z1, z2, z3, rfl⟩ := Go.Joins.array4 (hsz.trans hC)
  simp only [hc1, hc2, List.drop_zero, List.drop_succ_cons, List.take_succ_cons, List.take_zero] at t0 t1 t2 t3
  obtain ⟨b0, e0, x0, w0⟩ := DataW.trod_int Tryz.underlying2 t0
  obtain ⟨b1, e1, x1, w1⟩ := DataW.trod_int Tryz.underlying2 t1
  obtain ⟨b2, e2, x2, w2⟩ := DataW.trod_string Tryz.underlying9 t2
  obtain ⟨b3, e3, x3, w3⟩ := DataW.trod_string Tryz.underlying9 t3
  simp at e0 e1 e2 e3
  subst e0 e1 e2 e3
  exact ⟨b0, b1, b2.data.toList, b3.data.toList, by simp [S_of], bounds_i64 w0, bounds_i64 w1⟩
set_option maxRecDepth 100000 in
theorem lifted (os : Os) (started : os.Started) (H : Type) (enc : TypeId × Value → H) :
    ReturnsInHanded {} Tryz.checked os 4 .any (fun w args => (Rows.exprComparesSpec.pre enc Tryz.prog Tryz.f4 [] false w args ∧ laidMetH Tryz.prog laid7 w) ∧ sizedMet enc Tryz.prog Tryz.f4 (OpenSpec.ofChange Rows.exprComparesSpec) false w args)
      (Rows.exprComparesSpec.post enc Tryz.prog Tryz.f4 false true false false) := by
  refine returnsInHanded_of_change_and (C := Tryz.checked) (X := fun w _ => laidMetH Tryz.prog laid7 w) (fun _ _ _ hh h => h.of_heap hh) own10 started (by kernel_rfl) Tryz.func4
    (ChangeSpec.witness_shaped (enc := enc) (C := Tryz.checked) (os := os) (X := fun w _ => laidMetH Tryz.prog laid7 w) false (World.doorLaid Tryz.prog 400 os) #[.agg #[.int .i64 0, .int .i64 0, .string .empty, .string .empty]] 8 rfl (World.shaped_of_RefB (by kernel_rfl) (by kernel_rfl)) (by kernel_rfl) (by kernel_rfl) (by kernel_rfl) (door_met os _)) ?_
  intro W base args ds gs before hval0 hW _ _ hL _
  have hval : ∀ (j : Nat) t v, Tryz.f4.params[j]? = some t → args[j]? = some v → Value.okWide Tryz.prog W .any base t v := hval0
  have hW' := hW
  obtain ⟨p, q, hA0, hV, rfl, hfz, hnd⟩ := hW
  have hA : DataW.TrodAll enc Tryz.prog W 0 (fun _ => true) true Tryz.f4.params.toList args.toList ds p := hA0
  rw [Tryz.params4] at hA hval
  obtain ⟨v0, vs0, d0, ds0, p0, q0, hargs, rfl, rfl, h0, r0⟩ := trodAll_cons hA
  obtain ⟨rfl, rfl, rfl⟩ := trodAll_nil r0
  obtain rfl : args = #[v0] := by cases args; simp_all
  obtain ⟨rfl, rfl⟩ := trodVars_none hV
  have k0 := h0
  have lt0 : ∀ x ∈ p0, x.block < W.heap.size := by obtain ⟨m, hm⟩ := k0; exact DataW.trod_lt m _ _ _ hm
  obtain ⟨a, b, s, t, rfl, wa, wb⟩ := openIn (hval 0 38 v0 rfl rfl) h0
  clear hA0 hval0
  refine (cmp_any (gx_of hL) (gv_of hL) (Nat.le_refl _) wa wb s t).mono fun e W' ⟨he, bel⟩ => ?_
  subst he
  exact ⟨_, rfl, _, _, _, [], _, [], hW', trodAll_mk1 (shut_bool Tryz.underlying4 _), (trodAll_cons_mk (Below.trod laidOut10 (by kernel_rfl) (of_decide_eq_true (by kernel_rfl)) k0 bel lt0) trodAll_mk0), rfl, bel.frame _, fun h => by cases h⟩
theorem said : Rows.ExprComparesSaid :=
  OpenClaim.holds_of_wide 4 Tryz.f4 rfl rfl rfl rfl rfl rfl rfl ⟨rfl, rfl, rfl, rfl, rfl⟩ rfl rfl rfl rfl rfl (by kernel_rfl) Tryz.func4 (by kernel_rfl)
    (of_decide_eq_true (by kernel_rfl)) (by unfold Func.isWrapper; first | (rw [if_pos (by decide +kernel)]; kernel_rfl) | (rw [if_neg (by decide +kernel)]; exact ⟨rfl, rfl⟩))
    (fun os started H enc _ => lifted os started H enc)
theorem proved : Rows.ExprComparesCardSaid :=
  Claim7.holds_tied_plain_at .later [] [.data, .data, .data, .sentinel, .sentinel, .data, .data] true (true, "01b6627e36903762cc912256a461ee8df46f73bd94dc15f982ec678df759bca7") true
    said (fun _ h => by cases h) (by kernel_rfl) (fun _ h => by cases h) exprCompares_row_tie rfl ⟨rfl, rfl⟩ (by kernel_rfl) rfl
    (fun f fn hf hfn => by
      obtain rfl : f = 4 := Option.some.inj ((show Tryz.prog.funcNamed "wherry/wherrylaw10.ExprCompares" = some 4 by kernel_rfl).symm.trans hf) |>.symm
      obtain rfl : fn = Tryz.f4 := (Option.some.inj (Tryz.func4.symm.trans hfn)).symm
      exact ⟨by kernel_rfl, fun j t ht => by
        rw [Tryz.params4] at ht
        have hm : t ∈ [38] := by simpa using Array.mem_of_getElem? ht
        have hall : ([38].all fun u => !Tryz.prog.wantsStandIn u) = true := by kernel_rfl
        exact (show Tryz.prog.wantsStandIn t = false by simpa using List.all_eq_true.1 hall t hm)⟩)
    (by kernel_rfl)
end Go.Proofs.YtpdengbdnijcfaaGreatDoor.exprCompares

/-
  ExprLogic holds of every two truths and every number, whatever they are.
-/
import Derived.Test.YtpdengbdnijcfaaGreatDoorX10Crd
import Derived.Test.YtpdengbdnijcfaaGreatDoorX10Lgc
namespace Go.Proofs.YtpdengbdnijcfaaGreatDoor.x10
open Go.RowKit Go.Shelf Go.Sort
open Go.Lib hiding intOf

set_option maxHeartbeats 4000000 in
set_option maxRecDepth 100000 in
theorem logic00 {w : World} {B : Nat} (hg : Gx B w) (hv : Gv B w) (hB : B ≤ w.heap.size) {n : Int} (hn : -9223372036854775808 ≤ n ∧ n ≤ 9223372036854775807) : Calls Tryz.prog 3 #[.bool false, .bool false, .int .i64 n] w fun e w' => e = .returned (.bool true) ∧ Below w.heap.size w w' := by
  have C1 := shown10_any hg hv hB
  have HG : Hid (∀ W, Below w.heap.size w W → Gx B W ∧ B ≤ W.heap.size) := fun W hW => ⟨hg.below (hW.mono hB), Nat.le_trans hB hW.size⟩
  have HN : Hid (-9223372036854775808 ≤ n ∧ n ≤ 9223372036854775807) := hn
  clear hg hv hB hn
  go_enter Tryz.func3, Tryz.ntmps3
  go_upto_region 10 with (go_at_call 9; refine C1.mono ?_; rintro e w1 ⟨rfl, hb1⟩; (have HB1 : Hid (Below w.heap.size w w1) := hb1); clear hb1 C1)
  obtain ⟨W, hW⟩ : ∃ W, (((w1.alloc (.cells #[.int .i64 2, .int .i64 0, .string ⟨#[]⟩] 24)).alloc (.cells #[.int .i64 2, .int .i64 0, .string ⟨#[]⟩] 24)).alloc (.cells #[.string ⟨#[97]⟩, .int .i64 2, .int .i64 0, .string ⟨#[]⟩, .string ⟨#[98]⟩, .int .i64 2, .int .i64 0, .string ⟨#[]⟩, .string ⟨#[110]⟩, .int .i64 1, .int .i64 n, .string ⟨#[]⟩] 26)).alloc (.cells #[.string ⟨#[110, 111, 116, 32, 40, 32, 97, 32, 97, 110, 100, 32, 98, 32, 41, 32, 61, 61, 32, 40, 32, 110, 111, 116, 32, 97, 32, 111, 114, 32, 110, 111, 116, 32, 98, 32, 41]⟩, .string ⟨#[40, 32, 97, 32, 97, 110, 100, 32, 110, 111, 116, 32, 97, 32, 41, 32, 61, 61, 32, 102, 97, 108, 115, 101]⟩, .string ⟨#[97, 32, 111, 114, 32, 40, 32, 110, 111, 116, 32, 97, 32, 41]⟩, .string ⟨#[40, 32, 110, 32, 45, 32, 110, 32, 41, 32, 61, 61, 32, 48]⟩, .string ⟨#[110, 32, 60, 32, 110, 32, 43, 32, 48, 32, 61, 61, 32, 102, 97, 108, 115, 101]⟩, .string ⟨#[45, 32, 40, 32, 45, 32, 110, 32, 41, 32, 61, 61, 32, 110]⟩, .string ⟨#[97, 32, 97, 110, 100, 32, 98, 32, 61, 61, 32, 40, 32, 98, 32, 97, 110, 100, 32, 97, 32, 41, 32, 111, 114, 32, 116, 114, 117, 101]⟩] 9) = W := ⟨_, rfl⟩
  rw [hW]
  have hbW : Below w1.heap.size w1 W := by rw [← hW]; exact ((((Below.refl _ w1).alloc (Nat.le_refl _) _).alloc (by simp) _).alloc (by simp; omega) _).alloc (by simp; omega) _
  have hV : W.heap[w1.heap.size + 1 + 1]? = some (.cells #[.string ⟨#[97]⟩, .int .i64 2, .int .i64 0, .string ⟨#[]⟩, .string ⟨#[98]⟩, .int .i64 2, .int .i64 0, .string ⟨#[]⟩, .string ⟨#[110]⟩, .int .i64 1, .int .i64 n, .string ⟨#[]⟩] 26 (0, 0)) := by
    rw [← hW]
    refine (Below.heap_alloc _ _ _ (by simp)).trans ?_
    have := heap_alloc_new ((w1.alloc (.cells #[.int .i64 2, .int .i64 0, .string ⟨#[]⟩] 24)).alloc (.cells #[.int .i64 2, .int .i64 0, .string ⟨#[]⟩] 24)) (.cells #[.string ⟨#[97]⟩, .int .i64 2, .int .i64 0, .string ⟨#[]⟩, .string ⟨#[98]⟩, .int .i64 2, .int .i64 0, .string ⟨#[]⟩, .string ⟨#[110]⟩, .int .i64 1, .int .i64 n, .string ⟨#[]⟩] 26)
    rw [World.size_alloc, World.size_alloc] at this
    exact this
  have hT : W.heap[w1.heap.size + 1 + 1 + 1]? = some (.cells #[.string ⟨#[110, 111, 116, 32, 40, 32, 97, 32, 97, 110, 100, 32, 98, 32, 41, 32, 61, 61, 32, 40, 32, 110, 111, 116, 32, 97, 32, 111, 114, 32, 110, 111, 116, 32, 98, 32, 41]⟩, .string ⟨#[40, 32, 97, 32, 97, 110, 100, 32, 110, 111, 116, 32, 97, 32, 41, 32, 61, 61, 32, 102, 97, 108, 115, 101]⟩, .string ⟨#[97, 32, 111, 114, 32, 40, 32, 110, 111, 116, 32, 97, 32, 41]⟩, .string ⟨#[40, 32, 110, 32, 45, 32, 110, 32, 41, 32, 61, 61, 32, 48]⟩, .string ⟨#[110, 32, 60, 32, 110, 32, 43, 32, 48, 32, 61, 61, 32, 102, 97, 108, 115, 101]⟩, .string ⟨#[45, 32, 40, 32, 45, 32, 110, 32, 41, 32, 61, 61, 32, 110]⟩, .string ⟨#[97, 32, 97, 110, 100, 32, 98, 32, 61, 61, 32, 40, 32, 98, 32, 97, 110, 100, 32, 97, 32, 41, 32, 111, 114, 32, 116, 114, 117, 101]⟩] 9 (0, 0)) := by
    rw [← hW]
    have := heap_alloc_new (((w1.alloc (.cells #[.int .i64 2, .int .i64 0, .string ⟨#[]⟩] 24)).alloc (.cells #[.int .i64 2, .int .i64 0, .string ⟨#[]⟩] 24)).alloc (.cells #[.string ⟨#[97]⟩, .int .i64 2, .int .i64 0, .string ⟨#[]⟩, .string ⟨#[98]⟩, .int .i64 2, .int .i64 0, .string ⟨#[]⟩, .string ⟨#[110]⟩, .int .i64 1, .int .i64 n, .string ⟨#[]⟩] 26)) (.cells #[.string ⟨#[110, 111, 116, 32, 40, 32, 97, 32, 97, 110, 100, 32, 98, 32, 41, 32, 61, 61, 32, 40, 32, 110, 111, 116, 32, 97, 32, 111, 114, 32, 110, 111, 116, 32, 98, 32, 41]⟩, .string ⟨#[40, 32, 97, 32, 97, 110, 100, 32, 110, 111, 116, 32, 97, 32, 41, 32, 61, 61, 32, 102, 97, 108, 115, 101]⟩, .string ⟨#[97, 32, 111, 114, 32, 40, 32, 110, 111, 116, 32, 97, 32, 41]⟩, .string ⟨#[40, 32, 110, 32, 45, 32, 110, 32, 41, 32, 61, 61, 32, 48]⟩, .string ⟨#[110, 32, 60, 32, 110, 32, 43, 32, 48, 32, 61, 61, 32, 102, 97, 108, 115, 101]⟩, .string ⟨#[45, 32, 40, 32, 45, 32, 110, 32, 41, 32, 61, 61, 32, 110]⟩, .string ⟨#[97, 32, 97, 110, 100, 32, 98, 32, 61, 61, 32, 40, 32, 98, 32, 97, 110, 100, 32, 97, 32, 41, 32, 111, 114, 32, 116, 114, 117, 101]⟩] 9)
    rw [World.size_alloc, World.size_alloc, World.size_alloc] at this
    exact this
  have HW : Hid (Below w.heap.size w W) := HB1.out.trans (hbW.mono HB1.out.size)
  have HV : Hid (Vs W (.slice (some ⟨w1.heap.size + 1 + 1, 0, none⟩) 3 3) (lgV 0 0 n)) := by
    refine ⟨_, 3, rfl, ⟨Nat.le_refl _, fun h => by cases h⟩, .inr ⟨w1.heap.size + 1 + 1, 0, rfl, (Array.getElem?_eq_some_iff.1 hV).1, fun j hj => ?_⟩⟩
    have hj3 : j = 0 ∨ j = 1 ∨ j = 2 := by have : j < 3 := hj; omega
    rcases hj3 with rfl | rfl | rfl
    · exact ⟨cell_of hV rfl, cell_of hV rfl, cell_of hV rfl, cell_of hV rfl⟩
    · exact ⟨cell_of hV rfl, cell_of hV rfl, cell_of hV rfl, cell_of hV rfl⟩
    · exact ⟨cell_of hV rfl, cell_of hV rfl, cell_of hV rfl, cell_of hV rfl⟩
  have HT : Hid (∀ i (h : i < 7), W.cell? ⟨w1.heap.size + 1 + 1 + 1, i, none⟩ = some (.string (S (lgT[i]'h)))) := fun i h => by
    have hc : i = 0 ∨ i = 1 ∨ i = 2 ∨ i = 3 ∨ i = 4 ∨ i = 5 ∨ i = 6 := by omega
    rcases hc with rfl | rfl | rfl | rfl | rfl | rfl | rfl <;> exact cell_of hT rfl
  have HL : Hid (w1.heap.size + 1 + 1 + 1 < W.heap.size) := (Array.getElem?_eq_some_iff.1 hT).1
  clear hW hbW hV hT
  go_wp2
  go_loopw [12] (fun v12 wr => ∃ i : Nat, v12 = .int .i64 (i : Int) ∧ i ≤ 7 ∧ Hid (Below W.heap.size W wr)) (fun v12 _ => 7 - (intOf v12).toNat)
  case atStart => exact ⟨0, rfl, Nat.zero_le _, Below.refl _ _⟩
  case round =>
    obtain ⟨i, rfl, hi, HR⟩ := hrel
    by_cases hlt : i < 7
    · obtain ⟨l, hp, he, hs, hl⟩ := lg_all (x := 0) (y := 0) (n := n) (by decide) (by decide) HN.out i hlt
      have hbr := bel_of HW.out HR.out (Nat.le_refl _)
      have CP := Parse_any 80 wr (HG.out wr hbr).1 (HG.out wr hbr).2 hp
      have HE : Hid (∀ W' xv, Below wr.heap.size wr W' → Es W' xv l → Calls Tryz.prog 11 #[xv, .slice (some ⟨w1.heap.size + 1 + 1, 0, none⟩) 3 3] W' fun e w' => e = .returned (.tuple #[.agg #[.int .i64 2, .int .i64 1, .string ⟨#[]⟩], .int .i64 0]) ∧ Below W'.heap.size W' w') := fun W' xv hW' hE => by
        have hbw := bel_of hbr hW' (Nat.le_refl _)
        have := Eval_any hE (HG.out W' hbw).1 (HG.out W' hbw).2 (HV.out.up (bel_of HR.out hW' (Nat.le_refl _))) (lgV_len _ _ _) (lgV_sm (by decide) (by decide) HN.out) hs hl
        rw [he] at this
        exact this
      have dT : wr.cell? ⟨w1.heap.size + 1 + 1 + 1, i, none⟩ = some (.string (S (lgT[i]'hlt))) := (HR.out.cell (p := ⟨w1.heap.size + 1 + 1 + 1, i, none⟩) HL.out).trans (HT.out i hlt)
      generalize lgT[i]'hlt = tx at *
      generalize S tx = st at *
      have i1 : (0 : Int) ≤ (i : Int) := by omega
      have i2 : (i : Int) < 7 := by omega
      clear hp he hs hl hbr
      go_wp2_with (first
        | (go_at_call 10; refine CP.mono ?_; rintro e w3 ⟨v3, rfl, hx3, hb3⟩; (have HX3 : Hid (Es w3 v3 l) := Px.es hx3); obtain ⟨a3, c3, hv3, -⟩ := row_slice hx3; subst hv3; (have HB3 : Hid (Below wr.heap.size wr w3) := hb3); clear hx3 hb3 CP)
        | (go_at_call 11; refine (HE.out w3 _ HB3.out HX3.out).mono ?_; rintro e w4 ⟨rfl, hb4⟩; (have HB4 : Hid (Below W.heap.size W w4) := HR.out.trans ((HB3.out.trans (hb4.mono HB3.out.size)).mono HR.out.size)); clear hb4 HE))
      go_roundw
      case rel => exact ⟨i + 1, by simp, by omega, HB4.out.alloc HB4.out.size _⟩
      case measure => simp [intOf]; omega
    · obtain rfl : i = 7 := by omega
      go_wp2
      go_ret
      exact ⟨rfl, bel_of HW.out HR.out (Nat.le_refl _)⟩
set_option maxHeartbeats 4000000 in
set_option maxRecDepth 100000 in
theorem logic01 {w : World} {B : Nat} (hg : Gx B w) (hv : Gv B w) (hB : B ≤ w.heap.size) {n : Int} (hn : -9223372036854775808 ≤ n ∧ n ≤ 9223372036854775807) : Calls Tryz.prog 3 #[.bool false, .bool true, .int .i64 n] w fun e w' => e = .returned (.bool true) ∧ Below w.heap.size w w' := by
  have C1 := shown10_any hg hv hB
  have HG : Hid (∀ W, Below w.heap.size w W → Gx B W ∧ B ≤ W.heap.size) := fun W hW => ⟨hg.below (hW.mono hB), Nat.le_trans hB hW.size⟩
  have HN : Hid (-9223372036854775808 ≤ n ∧ n ≤ 9223372036854775807) := hn
  clear hg hv hB hn
  go_enter Tryz.func3, Tryz.ntmps3
  go_upto_region 10 with (go_at_call 9; refine C1.mono ?_; rintro e w1 ⟨rfl, hb1⟩; (have HB1 : Hid (Below w.heap.size w w1) := hb1); clear hb1 C1)
  obtain ⟨W, hW⟩ : ∃ W, (((w1.alloc (.cells #[.int .i64 2, .int .i64 0, .string ⟨#[]⟩] 24)).alloc (.cells #[.int .i64 2, .int .i64 1, .string ⟨#[]⟩] 24)).alloc (.cells #[.string ⟨#[97]⟩, .int .i64 2, .int .i64 0, .string ⟨#[]⟩, .string ⟨#[98]⟩, .int .i64 2, .int .i64 1, .string ⟨#[]⟩, .string ⟨#[110]⟩, .int .i64 1, .int .i64 n, .string ⟨#[]⟩] 26)).alloc (.cells #[.string ⟨#[110, 111, 116, 32, 40, 32, 97, 32, 97, 110, 100, 32, 98, 32, 41, 32, 61, 61, 32, 40, 32, 110, 111, 116, 32, 97, 32, 111, 114, 32, 110, 111, 116, 32, 98, 32, 41]⟩, .string ⟨#[40, 32, 97, 32, 97, 110, 100, 32, 110, 111, 116, 32, 97, 32, 41, 32, 61, 61, 32, 102, 97, 108, 115, 101]⟩, .string ⟨#[97, 32, 111, 114, 32, 40, 32, 110, 111, 116, 32, 97, 32, 41]⟩, .string ⟨#[40, 32, 110, 32, 45, 32, 110, 32, 41, 32, 61, 61, 32, 48]⟩, .string ⟨#[110, 32, 60, 32, 110, 32, 43, 32, 48, 32, 61, 61, 32, 102, 97, 108, 115, 101]⟩, .string ⟨#[45, 32, 40, 32, 45, 32, 110, 32, 41, 32, 61, 61, 32, 110]⟩, .string ⟨#[97, 32, 97, 110, 100, 32, 98, 32, 61, 61, 32, 40, 32, 98, 32, 97, 110, 100, 32, 97, 32, 41, 32, 111, 114, 32, 116, 114, 117, 101]⟩] 9) = W := ⟨_, rfl⟩
  rw [hW]
  have hbW : Below w1.heap.size w1 W := by rw [← hW]; exact ((((Below.refl _ w1).alloc (Nat.le_refl _) _).alloc (by simp) _).alloc (by simp; omega) _).alloc (by simp; omega) _
  have hV : W.heap[w1.heap.size + 1 + 1]? = some (.cells #[.string ⟨#[97]⟩, .int .i64 2, .int .i64 0, .string ⟨#[]⟩, .string ⟨#[98]⟩, .int .i64 2, .int .i64 1, .string ⟨#[]⟩, .string ⟨#[110]⟩, .int .i64 1, .int .i64 n, .string ⟨#[]⟩] 26 (0, 0)) := by
    rw [← hW]
    refine (Below.heap_alloc _ _ _ (by simp)).trans ?_
    have := heap_alloc_new ((w1.alloc (.cells #[.int .i64 2, .int .i64 0, .string ⟨#[]⟩] 24)).alloc (.cells #[.int .i64 2, .int .i64 1, .string ⟨#[]⟩] 24)) (.cells #[.string ⟨#[97]⟩, .int .i64 2, .int .i64 0, .string ⟨#[]⟩, .string ⟨#[98]⟩, .int .i64 2, .int .i64 1, .string ⟨#[]⟩, .string ⟨#[110]⟩, .int .i64 1, .int .i64 n, .string ⟨#[]⟩] 26)
    rw [World.size_alloc, World.size_alloc] at this
    exact this
  have hT : W.heap[w1.heap.size + 1 + 1 + 1]? = some (.cells #[.string ⟨#[110, 111, 116, 32, 40, 32, 97, 32, 97, 110, 100, 32, 98, 32, 41, 32, 61, 61, 32, 40, 32, 110, 111, 116, 32, 97, 32, 111, 114, 32, 110, 111, 116, 32, 98, 32, 41]⟩, .string ⟨#[40, 32, 97, 32, 97, 110, 100, 32, 110, 111, 116, 32, 97, 32, 41, 32, 61, 61, 32, 102, 97, 108, 115, 101]⟩, .string ⟨#[97, 32, 111, 114, 32, 40, 32, 110, 111, 116, 32, 97, 32, 41]⟩, .string ⟨#[40, 32, 110, 32, 45, 32, 110, 32, 41, 32, 61, 61, 32, 48]⟩, .string ⟨#[110, 32, 60, 32, 110, 32, 43, 32, 48, 32, 61, 61, 32, 102, 97, 108, 115, 101]⟩, .string ⟨#[45, 32, 40, 32, 45, 32, 110, 32, 41, 32, 61, 61, 32, 110]⟩, .string ⟨#[97, 32, 97, 110, 100, 32, 98, 32, 61, 61, 32, 40, 32, 98, 32, 97, 110, 100, 32, 97, 32, 41, 32, 111, 114, 32, 116, 114, 117, 101]⟩] 9 (0, 0)) := by
    rw [← hW]
    have := heap_alloc_new (((w1.alloc (.cells #[.int .i64 2, .int .i64 0, .string ⟨#[]⟩] 24)).alloc (.cells #[.int .i64 2, .int .i64 1, .string ⟨#[]⟩] 24)).alloc (.cells #[.string ⟨#[97]⟩, .int .i64 2, .int .i64 0, .string ⟨#[]⟩, .string ⟨#[98]⟩, .int .i64 2, .int .i64 1, .string ⟨#[]⟩, .string ⟨#[110]⟩, .int .i64 1, .int .i64 n, .string ⟨#[]⟩] 26)) (.cells #[.string ⟨#[110, 111, 116, 32, 40, 32, 97, 32, 97, 110, 100, 32, 98, 32, 41, 32, 61, 61, 32, 40, 32, 110, 111, 116, 32, 97, 32, 111, 114, 32, 110, 111, 116, 32, 98, 32, 41]⟩, .string ⟨#[40, 32, 97, 32, 97, 110, 100, 32, 110, 111, 116, 32, 97, 32, 41, 32, 61, 61, 32, 102, 97, 108, 115, 101]⟩, .string ⟨#[97, 32, 111, 114, 32, 40, 32, 110, 111, 116, 32, 97, 32, 41]⟩, .string ⟨#[40, 32, 110, 32, 45, 32, 110, 32, 41, 32, 61, 61, 32, 48]⟩, .string ⟨#[110, 32, 60, 32, 110, 32, 43, 32, 48, 32, 61, 61, 32, 102, 97, 108, 115, 101]⟩, .string ⟨#[45, 32, 40, 32, 45, 32, 110, 32, 41, 32, 61, 61, 32, 110]⟩, .string ⟨#[97, 32, 97, 110, 100, 32, 98, 32, 61, 61, 32, 40, 32, 98, 32, 97, 110, 100, 32, 97, 32, 41, 32, 111, 114, 32, 116, 114, 117, 101]⟩] 9)
    rw [World.size_alloc, World.size_alloc, World.size_alloc] at this
    exact this
  have HW : Hid (Below w.heap.size w W) := HB1.out.trans (hbW.mono HB1.out.size)
  have HV : Hid (Vs W (.slice (some ⟨w1.heap.size + 1 + 1, 0, none⟩) 3 3) (lgV 0 1 n)) := by
    refine ⟨_, 3, rfl, ⟨Nat.le_refl _, fun h => by cases h⟩, .inr ⟨w1.heap.size + 1 + 1, 0, rfl, (Array.getElem?_eq_some_iff.1 hV).1, fun j hj => ?_⟩⟩
    have hj3 : j = 0 ∨ j = 1 ∨ j = 2 := by have : j < 3 := hj; omega
    rcases hj3 with rfl | rfl | rfl
    · exact ⟨cell_of hV rfl, cell_of hV rfl, cell_of hV rfl, cell_of hV rfl⟩
    · exact ⟨cell_of hV rfl, cell_of hV rfl, cell_of hV rfl, cell_of hV rfl⟩
    · exact ⟨cell_of hV rfl, cell_of hV rfl, cell_of hV rfl, cell_of hV rfl⟩
  have HT : Hid (∀ i (h : i < 7), W.cell? ⟨w1.heap.size + 1 + 1 + 1, i, none⟩ = some (.string (S (lgT[i]'h)))) := fun i h => by
    have hc : i = 0 ∨ i = 1 ∨ i = 2 ∨ i = 3 ∨ i = 4 ∨ i = 5 ∨ i = 6 := by omega
    rcases hc with rfl | rfl | rfl | rfl | rfl | rfl | rfl <;> exact cell_of hT rfl
  have HL : Hid (w1.heap.size + 1 + 1 + 1 < W.heap.size) := (Array.getElem?_eq_some_iff.1 hT).1
  clear hW hbW hV hT
  go_wp2
  go_loopw [12] (fun v12 wr => ∃ i : Nat, v12 = .int .i64 (i : Int) ∧ i ≤ 7 ∧ Hid (Below W.heap.size W wr)) (fun v12 _ => 7 - (intOf v12).toNat)
  case atStart => exact ⟨0, rfl, Nat.zero_le _, Below.refl _ _⟩
  case round =>
    obtain ⟨i, rfl, hi, HR⟩ := hrel
    by_cases hlt : i < 7
    · obtain ⟨l, hp, he, hs, hl⟩ := lg_all (x := 0) (y := 1) (n := n) (by decide) (by decide) HN.out i hlt
      have hbr := bel_of HW.out HR.out (Nat.le_refl _)
      have CP := Parse_any 80 wr (HG.out wr hbr).1 (HG.out wr hbr).2 hp
      have HE : Hid (∀ W' xv, Below wr.heap.size wr W' → Es W' xv l → Calls Tryz.prog 11 #[xv, .slice (some ⟨w1.heap.size + 1 + 1, 0, none⟩) 3 3] W' fun e w' => e = .returned (.tuple #[.agg #[.int .i64 2, .int .i64 1, .string ⟨#[]⟩], .int .i64 0]) ∧ Below W'.heap.size W' w') := fun W' xv hW' hE => by
        have hbw := bel_of hbr hW' (Nat.le_refl _)
        have := Eval_any hE (HG.out W' hbw).1 (HG.out W' hbw).2 (HV.out.up (bel_of HR.out hW' (Nat.le_refl _))) (lgV_len _ _ _) (lgV_sm (by decide) (by decide) HN.out) hs hl
        rw [he] at this
        exact this
      have dT : wr.cell? ⟨w1.heap.size + 1 + 1 + 1, i, none⟩ = some (.string (S (lgT[i]'hlt))) := (HR.out.cell (p := ⟨w1.heap.size + 1 + 1 + 1, i, none⟩) HL.out).trans (HT.out i hlt)
      generalize lgT[i]'hlt = tx at *
      generalize S tx = st at *
      have i1 : (0 : Int) ≤ (i : Int) := by omega
      have i2 : (i : Int) < 7 := by omega
      clear hp he hs hl hbr
      go_wp2_with (first
        | (go_at_call 10; refine CP.mono ?_; rintro e w3 ⟨v3, rfl, hx3, hb3⟩; (have HX3 : Hid (Es w3 v3 l) := Px.es hx3); obtain ⟨a3, c3, hv3, -⟩ := row_slice hx3; subst hv3; (have HB3 : Hid (Below wr.heap.size wr w3) := hb3); clear hx3 hb3 CP)
        | (go_at_call 11; refine (HE.out w3 _ HB3.out HX3.out).mono ?_; rintro e w4 ⟨rfl, hb4⟩; (have HB4 : Hid (Below W.heap.size W w4) := HR.out.trans ((HB3.out.trans (hb4.mono HB3.out.size)).mono HR.out.size)); clear hb4 HE))
      go_roundw
      case rel => exact ⟨i + 1, by simp, by omega, HB4.out.alloc HB4.out.size _⟩
      case measure => simp [intOf]; omega
    · obtain rfl : i = 7 := by omega
      go_wp2
      go_ret
      exact ⟨rfl, bel_of HW.out HR.out (Nat.le_refl _)⟩
set_option maxHeartbeats 4000000 in
set_option maxRecDepth 100000 in
theorem logic10 {w : World} {B : Nat} (hg : Gx B w) (hv : Gv B w) (hB : B ≤ w.heap.size) {n : Int} (hn : -9223372036854775808 ≤ n ∧ n ≤ 9223372036854775807) : Calls Tryz.prog 3 #[.bool true, .bool false, .int .i64 n] w fun e w' => e = .returned (.bool true) ∧ Below w.heap.size w w' := by
  have C1 := shown10_any hg hv hB
  have HG : Hid (∀ W, Below w.heap.size w W → Gx B W ∧ B ≤ W.heap.size) := fun W hW => ⟨hg.below (hW.mono hB), Nat.le_trans hB hW.size⟩
  have HN : Hid (-9223372036854775808 ≤ n ∧ n ≤ 9223372036854775807) := hn
  clear hg hv hB hn
  go_enter Tryz.func3, Tryz.ntmps3
  go_upto_region 10 with (go_at_call 9; refine C1.mono ?_; rintro e w1 ⟨rfl, hb1⟩; (have HB1 : Hid (Below w.heap.size w w1) := hb1); clear hb1 C1)
  obtain ⟨W, hW⟩ : ∃ W, (((w1.alloc (.cells #[.int .i64 2, .int .i64 1, .string ⟨#[]⟩] 24)).alloc (.cells #[.int .i64 2, .int .i64 0, .string ⟨#[]⟩] 24)).alloc (.cells #[.string ⟨#[97]⟩, .int .i64 2, .int .i64 1, .string ⟨#[]⟩, .string ⟨#[98]⟩, .int .i64 2, .int .i64 0, .string ⟨#[]⟩, .string ⟨#[110]⟩, .int .i64 1, .int .i64 n, .string ⟨#[]⟩] 26)).alloc (.cells #[.string ⟨#[110, 111, 116, 32, 40, 32, 97, 32, 97, 110, 100, 32, 98, 32, 41, 32, 61, 61, 32, 40, 32, 110, 111, 116, 32, 97, 32, 111, 114, 32, 110, 111, 116, 32, 98, 32, 41]⟩, .string ⟨#[40, 32, 97, 32, 97, 110, 100, 32, 110, 111, 116, 32, 97, 32, 41, 32, 61, 61, 32, 102, 97, 108, 115, 101]⟩, .string ⟨#[97, 32, 111, 114, 32, 40, 32, 110, 111, 116, 32, 97, 32, 41]⟩, .string ⟨#[40, 32, 110, 32, 45, 32, 110, 32, 41, 32, 61, 61, 32, 48]⟩, .string ⟨#[110, 32, 60, 32, 110, 32, 43, 32, 48, 32, 61, 61, 32, 102, 97, 108, 115, 101]⟩, .string ⟨#[45, 32, 40, 32, 45, 32, 110, 32, 41, 32, 61, 61, 32, 110]⟩, .string ⟨#[97, 32, 97, 110, 100, 32, 98, 32, 61, 61, 32, 40, 32, 98, 32, 97, 110, 100, 32, 97, 32, 41, 32, 111, 114, 32, 116, 114, 117, 101]⟩] 9) = W := ⟨_, rfl⟩
  rw [hW]
  have hbW : Below w1.heap.size w1 W := by rw [← hW]; exact ((((Below.refl _ w1).alloc (Nat.le_refl _) _).alloc (by simp) _).alloc (by simp; omega) _).alloc (by simp; omega) _
  have hV : W.heap[w1.heap.size + 1 + 1]? = some (.cells #[.string ⟨#[97]⟩, .int .i64 2, .int .i64 1, .string ⟨#[]⟩, .string ⟨#[98]⟩, .int .i64 2, .int .i64 0, .string ⟨#[]⟩, .string ⟨#[110]⟩, .int .i64 1, .int .i64 n, .string ⟨#[]⟩] 26 (0, 0)) := by
    rw [← hW]
    refine (Below.heap_alloc _ _ _ (by simp)).trans ?_
    have := heap_alloc_new ((w1.alloc (.cells #[.int .i64 2, .int .i64 1, .string ⟨#[]⟩] 24)).alloc (.cells #[.int .i64 2, .int .i64 0, .string ⟨#[]⟩] 24)) (.cells #[.string ⟨#[97]⟩, .int .i64 2, .int .i64 1, .string ⟨#[]⟩, .string ⟨#[98]⟩, .int .i64 2, .int .i64 0, .string ⟨#[]⟩, .string ⟨#[110]⟩, .int .i64 1, .int .i64 n, .string ⟨#[]⟩] 26)
    rw [World.size_alloc, World.size_alloc] at this
    exact this
  have hT : W.heap[w1.heap.size + 1 + 1 + 1]? = some (.cells #[.string ⟨#[110, 111, 116, 32, 40, 32, 97, 32, 97, 110, 100, 32, 98, 32, 41, 32, 61, 61, 32, 40, 32, 110, 111, 116, 32, 97, 32, 111, 114, 32, 110, 111, 116, 32, 98, 32, 41]⟩, .string ⟨#[40, 32, 97, 32, 97, 110, 100, 32, 110, 111, 116, 32, 97, 32, 41, 32, 61, 61, 32, 102, 97, 108, 115, 101]⟩, .string ⟨#[97, 32, 111, 114, 32, 40, 32, 110, 111, 116, 32, 97, 32, 41]⟩, .string ⟨#[40, 32, 110, 32, 45, 32, 110, 32, 41, 32, 61, 61, 32, 48]⟩, .string ⟨#[110, 32, 60, 32, 110, 32, 43, 32, 48, 32, 61, 61, 32, 102, 97, 108, 115, 101]⟩, .string ⟨#[45, 32, 40, 32, 45, 32, 110, 32, 41, 32, 61, 61, 32, 110]⟩, .string ⟨#[97, 32, 97, 110, 100, 32, 98, 32, 61, 61, 32, 40, 32, 98, 32, 97, 110, 100, 32, 97, 32, 41, 32, 111, 114, 32, 116, 114, 117, 101]⟩] 9 (0, 0)) := by
    rw [← hW]
    have := heap_alloc_new (((w1.alloc (.cells #[.int .i64 2, .int .i64 1, .string ⟨#[]⟩] 24)).alloc (.cells #[.int .i64 2, .int .i64 0, .string ⟨#[]⟩] 24)).alloc (.cells #[.string ⟨#[97]⟩, .int .i64 2, .int .i64 1, .string ⟨#[]⟩, .string ⟨#[98]⟩, .int .i64 2, .int .i64 0, .string ⟨#[]⟩, .string ⟨#[110]⟩, .int .i64 1, .int .i64 n, .string ⟨#[]⟩] 26)) (.cells #[.string ⟨#[110, 111, 116, 32, 40, 32, 97, 32, 97, 110, 100, 32, 98, 32, 41, 32, 61, 61, 32, 40, 32, 110, 111, 116, 32, 97, 32, 111, 114, 32, 110, 111, 116, 32, 98, 32, 41]⟩, .string ⟨#[40, 32, 97, 32, 97, 110, 100, 32, 110, 111, 116, 32, 97, 32, 41, 32, 61, 61, 32, 102, 97, 108, 115, 101]⟩, .string ⟨#[97, 32, 111, 114, 32, 40, 32, 110, 111, 116, 32, 97, 32, 41]⟩, .string ⟨#[40, 32, 110, 32, 45, 32, 110, 32, 41, 32, 61, 61, 32, 48]⟩, .string ⟨#[110, 32, 60, 32, 110, 32, 43, 32, 48, 32, 61, 61, 32, 102, 97, 108, 115, 101]⟩, .string ⟨#[45, 32, 40, 32, 45, 32, 110, 32, 41, 32, 61, 61, 32, 110]⟩, .string ⟨#[97, 32, 97, 110, 100, 32, 98, 32, 61, 61, 32, 40, 32, 98, 32, 97, 110, 100, 32, 97, 32, 41, 32, 111, 114, 32, 116, 114, 117, 101]⟩] 9)
    rw [World.size_alloc, World.size_alloc, World.size_alloc] at this
    exact this
  have HW : Hid (Below w.heap.size w W) := HB1.out.trans (hbW.mono HB1.out.size)
  have HV : Hid (Vs W (.slice (some ⟨w1.heap.size + 1 + 1, 0, none⟩) 3 3) (lgV 1 0 n)) := by
    refine ⟨_, 3, rfl, ⟨Nat.le_refl _, fun h => by cases h⟩, .inr ⟨w1.heap.size + 1 + 1, 0, rfl, (Array.getElem?_eq_some_iff.1 hV).1, fun j hj => ?_⟩⟩
    have hj3 : j = 0 ∨ j = 1 ∨ j = 2 := by have : j < 3 := hj; omega
    rcases hj3 with rfl | rfl | rfl
    · exact ⟨cell_of hV rfl, cell_of hV rfl, cell_of hV rfl, cell_of hV rfl⟩
    · exact ⟨cell_of hV rfl, cell_of hV rfl, cell_of hV rfl, cell_of hV rfl⟩
    · exact ⟨cell_of hV rfl, cell_of hV rfl, cell_of hV rfl, cell_of hV rfl⟩
  have HT : Hid (∀ i (h : i < 7), W.cell? ⟨w1.heap.size + 1 + 1 + 1, i, none⟩ = some (.string (S (lgT[i]'h)))) := fun i h => by
    have hc : i = 0 ∨ i = 1 ∨ i = 2 ∨ i = 3 ∨ i = 4 ∨ i = 5 ∨ i = 6 := by omega
    rcases hc with rfl | rfl | rfl | rfl | rfl | rfl | rfl <;> exact cell_of hT rfl
  have HL : Hid (w1.heap.size + 1 + 1 + 1 < W.heap.size) := (Array.getElem?_eq_some_iff.1 hT).1
  clear hW hbW hV hT
  go_wp2
  go_loopw [12] (fun v12 wr => ∃ i : Nat, v12 = .int .i64 (i : Int) ∧ i ≤ 7 ∧ Hid (Below W.heap.size W wr)) (fun v12 _ => 7 - (intOf v12).toNat)
  case atStart => exact ⟨0, rfl, Nat.zero_le _, Below.refl _ _⟩
  case round =>
    obtain ⟨i, rfl, hi, HR⟩ := hrel
    by_cases hlt : i < 7
    · obtain ⟨l, hp, he, hs, hl⟩ := lg_all (x := 1) (y := 0) (n := n) (by decide) (by decide) HN.out i hlt
      have hbr := bel_of HW.out HR.out (Nat.le_refl _)
      have CP := Parse_any 80 wr (HG.out wr hbr).1 (HG.out wr hbr).2 hp
      have HE : Hid (∀ W' xv, Below wr.heap.size wr W' → Es W' xv l → Calls Tryz.prog 11 #[xv, .slice (some ⟨w1.heap.size + 1 + 1, 0, none⟩) 3 3] W' fun e w' => e = .returned (.tuple #[.agg #[.int .i64 2, .int .i64 1, .string ⟨#[]⟩], .int .i64 0]) ∧ Below W'.heap.size W' w') := fun W' xv hW' hE => by
        have hbw := bel_of hbr hW' (Nat.le_refl _)
        have := Eval_any hE (HG.out W' hbw).1 (HG.out W' hbw).2 (HV.out.up (bel_of HR.out hW' (Nat.le_refl _))) (lgV_len _ _ _) (lgV_sm (by decide) (by decide) HN.out) hs hl
        rw [he] at this
        exact this
      have dT : wr.cell? ⟨w1.heap.size + 1 + 1 + 1, i, none⟩ = some (.string (S (lgT[i]'hlt))) := (HR.out.cell (p := ⟨w1.heap.size + 1 + 1 + 1, i, none⟩) HL.out).trans (HT.out i hlt)
      generalize lgT[i]'hlt = tx at *
      generalize S tx = st at *
      have i1 : (0 : Int) ≤ (i : Int) := by omega
      have i2 : (i : Int) < 7 := by omega
      clear hp he hs hl hbr
      go_wp2_with (first
        | (go_at_call 10; refine CP.mono ?_; rintro e w3 ⟨v3, rfl, hx3, hb3⟩; (have HX3 : Hid (Es w3 v3 l) := Px.es hx3); obtain ⟨a3, c3, hv3, -⟩ := row_slice hx3; subst hv3; (have HB3 : Hid (Below wr.heap.size wr w3) := hb3); clear hx3 hb3 CP)
        | (go_at_call 11; refine (HE.out w3 _ HB3.out HX3.out).mono ?_; rintro e w4 ⟨rfl, hb4⟩; (have HB4 : Hid (Below W.heap.size W w4) := HR.out.trans ((HB3.out.trans (hb4.mono HB3.out.size)).mono HR.out.size)); clear hb4 HE))
      go_roundw
      case rel => exact ⟨i + 1, by simp, by omega, HB4.out.alloc HB4.out.size _⟩
      case measure => simp [intOf]; omega
    · obtain rfl : i = 7 := by omega
      go_wp2
      go_ret
      exact ⟨rfl, bel_of HW.out HR.out (Nat.le_refl _)⟩
set_option maxHeartbeats 4000000 in
set_option maxRecDepth 100000 in
theorem logic11 {w : World} {B : Nat} (hg : Gx B w) (hv : Gv B w) (hB : B ≤ w.heap.size) {n : Int} (hn : -9223372036854775808 ≤ n ∧ n ≤ 9223372036854775807) : Calls Tryz.prog 3 #[.bool true, .bool true, .int .i64 n] w fun e w' => e = .returned (.bool true) ∧ Below w.heap.size w w' := by
  have C1 := shown10_any hg hv hB
  have HG : Hid (∀ W, Below w.heap.size w W → Gx B W ∧ B ≤ W.heap.size) := fun W hW => ⟨hg.below (hW.mono hB), Nat.le_trans hB hW.size⟩
  have HN : Hid (-9223372036854775808 ≤ n ∧ n ≤ 9223372036854775807) := hn
  clear hg hv hB hn
  go_enter Tryz.func3, Tryz.ntmps3
  go_upto_region 10 with (go_at_call 9; refine C1.mono ?_; rintro e w1 ⟨rfl, hb1⟩; (have HB1 : Hid (Below w.heap.size w w1) := hb1); clear hb1 C1)
  obtain ⟨W, hW⟩ : ∃ W, (((w1.alloc (.cells #[.int .i64 2, .int .i64 1, .string ⟨#[]⟩] 24)).alloc (.cells #[.int .i64 2, .int .i64 1, .string ⟨#[]⟩] 24)).alloc (.cells #[.string ⟨#[97]⟩, .int .i64 2, .int .i64 1, .string ⟨#[]⟩, .string ⟨#[98]⟩, .int .i64 2, .int .i64 1, .string ⟨#[]⟩, .string ⟨#[110]⟩, .int .i64 1, .int .i64 n, .string ⟨#[]⟩] 26)).alloc (.cells #[.string ⟨#[110, 111, 116, 32, 40, 32, 97, 32, 97, 110, 100, 32, 98, 32, 41, 32, 61, 61, 32, 40, 32, 110, 111, 116, 32, 97, 32, 111, 114, 32, 110, 111, 116, 32, 98, 32, 41]⟩, .string ⟨#[40, 32, 97, 32, 97, 110, 100, 32, 110, 111, 116, 32, 97, 32, 41, 32, 61, 61, 32, 102, 97, 108, 115, 101]⟩, .string ⟨#[97, 32, 111, 114, 32, 40, 32, 110, 111, 116, 32, 97, 32, 41]⟩, .string ⟨#[40, 32, 110, 32, 45, 32, 110, 32, 41, 32, 61, 61, 32, 48]⟩, .string ⟨#[110, 32, 60, 32, 110, 32, 43, 32, 48, 32, 61, 61, 32, 102, 97, 108, 115, 101]⟩, .string ⟨#[45, 32, 40, 32, 45, 32, 110, 32, 41, 32, 61, 61, 32, 110]⟩, .string ⟨#[97, 32, 97, 110, 100, 32, 98, 32, 61, 61, 32, 40, 32, 98, 32, 97, 110, 100, 32, 97, 32, 41, 32, 111, 114, 32, 116, 114, 117, 101]⟩] 9) = W := ⟨_, rfl⟩
  rw [hW]
  have hbW : Below w1.heap.size w1 W := by rw [← hW]; exact ((((Below.refl _ w1).alloc (Nat.le_refl _) _).alloc (by simp) _).alloc (by simp; omega) _).alloc (by simp; omega) _
  have hV : W.heap[w1.heap.size + 1 + 1]? = some (.cells #[.string ⟨#[97]⟩, .int .i64 2, .int .i64 1, .string ⟨#[]⟩, .string ⟨#[98]⟩, .int .i64 2, .int .i64 1, .string ⟨#[]⟩, .string ⟨#[110]⟩, .int .i64 1, .int .i64 n, .string ⟨#[]⟩] 26 (0, 0)) := by
    rw [← hW]
    refine (Below.heap_alloc _ _ _ (by simp)).trans ?_
    have := heap_alloc_new ((w1.alloc (.cells #[.int .i64 2, .int .i64 1, .string ⟨#[]⟩] 24)).alloc (.cells #[.int .i64 2, .int .i64 1, .string ⟨#[]⟩] 24)) (.cells #[.string ⟨#[97]⟩, .int .i64 2, .int .i64 1, .string ⟨#[]⟩, .string ⟨#[98]⟩, .int .i64 2, .int .i64 1, .string ⟨#[]⟩, .string ⟨#[110]⟩, .int .i64 1, .int .i64 n, .string ⟨#[]⟩] 26)
    rw [World.size_alloc, World.size_alloc] at this
    exact this
  have hT : W.heap[w1.heap.size + 1 + 1 + 1]? = some (.cells #[.string ⟨#[110, 111, 116, 32, 40, 32, 97, 32, 97, 110, 100, 32, 98, 32, 41, 32, 61, 61, 32, 40, 32, 110, 111, 116, 32, 97, 32, 111, 114, 32, 110, 111, 116, 32, 98, 32, 41]⟩, .string ⟨#[40, 32, 97, 32, 97, 110, 100, 32, 110, 111, 116, 32, 97, 32, 41, 32, 61, 61, 32, 102, 97, 108, 115, 101]⟩, .string ⟨#[97, 32, 111, 114, 32, 40, 32, 110, 111, 116, 32, 97, 32, 41]⟩, .string ⟨#[40, 32, 110, 32, 45, 32, 110, 32, 41, 32, 61, 61, 32, 48]⟩, .string ⟨#[110, 32, 60, 32, 110, 32, 43, 32, 48, 32, 61, 61, 32, 102, 97, 108, 115, 101]⟩, .string ⟨#[45, 32, 40, 32, 45, 32, 110, 32, 41, 32, 61, 61, 32, 110]⟩, .string ⟨#[97, 32, 97, 110, 100, 32, 98, 32, 61, 61, 32, 40, 32, 98, 32, 97, 110, 100, 32, 97, 32, 41, 32, 111, 114, 32, 116, 114, 117, 101]⟩] 9 (0, 0)) := by
    rw [← hW]
    have := heap_alloc_new (((w1.alloc (.cells #[.int .i64 2, .int .i64 1, .string ⟨#[]⟩] 24)).alloc (.cells #[.int .i64 2, .int .i64 1, .string ⟨#[]⟩] 24)).alloc (.cells #[.string ⟨#[97]⟩, .int .i64 2, .int .i64 1, .string ⟨#[]⟩, .string ⟨#[98]⟩, .int .i64 2, .int .i64 1, .string ⟨#[]⟩, .string ⟨#[110]⟩, .int .i64 1, .int .i64 n, .string ⟨#[]⟩] 26)) (.cells #[.string ⟨#[110, 111, 116, 32, 40, 32, 97, 32, 97, 110, 100, 32, 98, 32, 41, 32, 61, 61, 32, 40, 32, 110, 111, 116, 32, 97, 32, 111, 114, 32, 110, 111, 116, 32, 98, 32, 41]⟩, .string ⟨#[40, 32, 97, 32, 97, 110, 100, 32, 110, 111, 116, 32, 97, 32, 41, 32, 61, 61, 32, 102, 97, 108, 115, 101]⟩, .string ⟨#[97, 32, 111, 114, 32, 40, 32, 110, 111, 116, 32, 97, 32, 41]⟩, .string ⟨#[40, 32, 110, 32, 45, 32, 110, 32, 41, 32, 61, 61, 32, 48]⟩, .string ⟨#[110, 32, 60, 32, 110, 32, 43, 32, 48, 32, 61, 61, 32, 102, 97, 108, 115, 101]⟩, .string ⟨#[45, 32, 40, 32, 45, 32, 110, 32, 41, 32, 61, 61, 32, 110]⟩, .string ⟨#[97, 32, 97, 110, 100, 32, 98, 32, 61, 61, 32, 40, 32, 98, 32, 97, 110, 100, 32, 97, 32, 41, 32, 111, 114, 32, 116, 114, 117, 101]⟩] 9)
    rw [World.size_alloc, World.size_alloc, World.size_alloc] at this
    exact this
  have HW : Hid (Below w.heap.size w W) := HB1.out.trans (hbW.mono HB1.out.size)
  have HV : Hid (Vs W (.slice (some ⟨w1.heap.size + 1 + 1, 0, none⟩) 3 3) (lgV 1 1 n)) := by
    refine ⟨_, 3, rfl, ⟨Nat.le_refl _, fun h => by cases h⟩, .inr ⟨w1.heap.size + 1 + 1, 0, rfl, (Array.getElem?_eq_some_iff.1 hV).1, fun j hj => ?_⟩⟩
    have hj3 : j = 0 ∨ j = 1 ∨ j = 2 := by have : j < 3 := hj; omega
    rcases hj3 with rfl | rfl | rfl
    · exact ⟨cell_of hV rfl, cell_of hV rfl, cell_of hV rfl, cell_of hV rfl⟩
    · exact ⟨cell_of hV rfl, cell_of hV rfl, cell_of hV rfl, cell_of hV rfl⟩
    · exact ⟨cell_of hV rfl, cell_of hV rfl, cell_of hV rfl, cell_of hV rfl⟩
  have HT : Hid (∀ i (h : i < 7), W.cell? ⟨w1.heap.size + 1 + 1 + 1, i, none⟩ = some (.string (S (lgT[i]'h)))) := fun i h => by
    have hc : i = 0 ∨ i = 1 ∨ i = 2 ∨ i = 3 ∨ i = 4 ∨ i = 5 ∨ i = 6 := by omega
    rcases hc with rfl | rfl | rfl | rfl | rfl | rfl | rfl <;> exact cell_of hT rfl
  have HL : Hid (w1.heap.size + 1 + 1 + 1 < W.heap.size) := (Array.getElem?_eq_some_iff.1 hT).1
  clear hW hbW hV hT
  go_wp2
  go_loopw [12] (fun v12 wr => ∃ i : Nat, v12 = .int .i64 (i : Int) ∧ i ≤ 7 ∧ Hid (Below W.heap.size W wr)) (fun v12 _ => 7 - (intOf v12).toNat)
  case atStart => exact ⟨0, rfl, Nat.zero_le _, Below.refl _ _⟩
  case round =>
    obtain ⟨i, rfl, hi, HR⟩ := hrel
    by_cases hlt : i < 7
    · obtain ⟨l, hp, he, hs, hl⟩ := lg_all (x := 1) (y := 1) (n := n) (by decide) (by decide) HN.out i hlt
      have hbr := bel_of HW.out HR.out (Nat.le_refl _)
      have CP := Parse_any 80 wr (HG.out wr hbr).1 (HG.out wr hbr).2 hp
      have HE : Hid (∀ W' xv, Below wr.heap.size wr W' → Es W' xv l → Calls Tryz.prog 11 #[xv, .slice (some ⟨w1.heap.size + 1 + 1, 0, none⟩) 3 3] W' fun e w' => e = .returned (.tuple #[.agg #[.int .i64 2, .int .i64 1, .string ⟨#[]⟩], .int .i64 0]) ∧ Below W'.heap.size W' w') := fun W' xv hW' hE => by
        have hbw := bel_of hbr hW' (Nat.le_refl _)
        have := Eval_any hE (HG.out W' hbw).1 (HG.out W' hbw).2 (HV.out.up (bel_of HR.out hW' (Nat.le_refl _))) (lgV_len _ _ _) (lgV_sm (by decide) (by decide) HN.out) hs hl
        rw [he] at this
        exact this
      have dT : wr.cell? ⟨w1.heap.size + 1 + 1 + 1, i, none⟩ = some (.string (S (lgT[i]'hlt))) := (HR.out.cell (p := ⟨w1.heap.size + 1 + 1 + 1, i, none⟩) HL.out).trans (HT.out i hlt)
      generalize lgT[i]'hlt = tx at *
      generalize S tx = st at *
      have i1 : (0 : Int) ≤ (i : Int) := by omega
      have i2 : (i : Int) < 7 := by omega
      clear hp he hs hl hbr
      go_wp2_with (first
        | (go_at_call 10; refine CP.mono ?_; rintro e w3 ⟨v3, rfl, hx3, hb3⟩; (have HX3 : Hid (Es w3 v3 l) := Px.es hx3); obtain ⟨a3, c3, hv3, -⟩ := row_slice hx3; subst hv3; (have HB3 : Hid (Below wr.heap.size wr w3) := hb3); clear hx3 hb3 CP)
        | (go_at_call 11; refine (HE.out w3 _ HB3.out HX3.out).mono ?_; rintro e w4 ⟨rfl, hb4⟩; (have HB4 : Hid (Below W.heap.size W w4) := HR.out.trans ((HB3.out.trans (hb4.mono HB3.out.size)).mono HR.out.size)); clear hb4 HE))
      go_roundw
      case rel => exact ⟨i + 1, by simp, by omega, HB4.out.alloc HB4.out.size _⟩
      case measure => simp [intOf]; omega
    · obtain rfl : i = 7 := by omega
      go_wp2
      go_ret
      exact ⟨rfl, bel_of HW.out HR.out (Nat.le_refl _)⟩
end Go.Proofs.YtpdengbdnijcfaaGreatDoor.x10

namespace Go.Proofs.YtpdengbdnijcfaaGreatDoor.exprLogic
open Go.Proofs.YtpdengbdnijcfaaGreatDoor.x10
open Go.ChangeShapes Go.WideShapes Go.ChangeAt Go.WideMaps Go.WideElems Go.RowKit
theorem walk (a b : Bool) {n : Int} (hn : -9223372036854775808 ≤ n ∧ n ≤ 9223372036854775807) {w : World} (hg : Gx w.heap.size w) (hv : Gv w.heap.size w) : Calls Tryz.prog 3 #[.bool a, .bool b, .int .i64 n] w fun e w' => e = .returned (.bool true) ∧ Below w.heap.size w w' := by
  cases a <;> cases b
  · exact logic00 hg hv (Nat.le_refl _) hn
  · exact logic01 hg hv (Nat.le_refl _) hn
  · exact logic10 hg hv (Nat.le_refl _) hn
  · exact logic11 hg hv (Nat.le_refl _) hn
set_option maxRecDepth 100000 in
theorem lifted (os : Os) (started : os.Started) (H : Type) (enc : TypeId × Value → H) :
    ReturnsInHanded {} Tryz.checked os 3 .any (fun w args => (Rows.exprLogicSpec.pre enc Tryz.prog Tryz.f3 [] false w args ∧ laidMetH Tryz.prog laid7 w) ∧ sizedMet enc Tryz.prog Tryz.f3 (OpenSpec.ofChange Rows.exprLogicSpec) false w args)
      (Rows.exprLogicSpec.post enc Tryz.prog Tryz.f3 false true false false) := by
  refine returnsInHanded_of_change_and (C := Tryz.checked) (X := fun w _ => laidMetH Tryz.prog laid7 w) (fun _ _ _ hh h => h.of_heap hh) own10 started (by kernel_rfl) Tryz.func3
    (ChangeSpec.witness_shaped (enc := enc) (C := Tryz.checked) (os := os) (X := fun w _ => laidMetH Tryz.prog laid7 w) false (World.doorLaid Tryz.prog 400 os) #[.bool false, .bool false, .int .i64 0] 8 rfl (World.shaped_of_RefB (by kernel_rfl) (by kernel_rfl)) (by kernel_rfl) (by kernel_rfl) (by kernel_rfl) (door_met os _)) ?_
  intro W base args ds gs before hval0 hW _ _ hL _
  have hval : ∀ (j : Nat) t v, Tryz.f3.params[j]? = some t → args[j]? = some v → Value.okWide Tryz.prog W .any base t v := hval0
  have hW' := hW
  obtain ⟨p, q, hA0, hV, rfl, hfz, hnd⟩ := hW
  have hA : DataW.TrodAll enc Tryz.prog W 0 (fun _ => true) true Tryz.f3.params.toList args.toList ds p := hA0
  rw [Tryz.params3] at hA hval
  obtain ⟨v0, vs0, d0, ds0, p0, q0, hargs, rfl, rfl, h0, r0⟩ := trodAll_cons hA
  obtain ⟨v1, vs1, d1, ds1, p1, q1, rfl, rfl, rfl, h1, r1⟩ := trodAll_cons r0
  obtain ⟨v2, vs2, d2, ds2, p2, q2, rfl, rfl, rfl, h2, r2⟩ := trodAll_cons r1
  obtain ⟨rfl, rfl, rfl⟩ := trodAll_nil r2
  obtain rfl : args = #[v0, v1, v2] := by cases args; simp_all
  obtain ⟨rfl, rfl⟩ := trodVars_none hV
  obtain ⟨a0, rfl, rfl, rfl⟩ := open_bool Tryz.underlying4 (hval 0 4 v0 rfl rfl) h0
  obtain ⟨a1, rfl, rfl, rfl⟩ := open_bool Tryz.underlying4 (hval 1 4 v1 rfl rfl) h1
  obtain ⟨a2, rfl, rfl, rfl, w2⟩ := open_int Tryz.underlying2 (hval 2 2 v2 rfl rfl) h2
  clear hA0 hval0
  refine (walk a0 a1 (bounds_i64 w2) (gx_of hL) (gv_of hL)).mono fun e W' ⟨he, bel⟩ => ?_
  subst he
  exact ⟨_, rfl, _, _, _, [], _, [], hW', trodAll_mk1 (shut_bool Tryz.underlying4 _), (trodAll_cons_mk (shut_bool Tryz.underlying4 _) (trodAll_cons_mk (shut_bool Tryz.underlying4 _) (trodAll_cons_mk (shut_int Tryz.underlying2 w2) trodAll_mk0))), rfl, bel.frame _, fun h => by cases h⟩
theorem said : Rows.ExprLogicSaid :=
  OpenClaim.holds_of_wide 3 Tryz.f3 rfl rfl rfl rfl rfl rfl rfl ⟨rfl, rfl, rfl, rfl, rfl⟩ rfl rfl rfl rfl rfl (by kernel_rfl) Tryz.func3 (by kernel_rfl)
    (of_decide_eq_true (by kernel_rfl)) (by unfold Func.isWrapper; first | (rw [if_pos (by decide +kernel)]; kernel_rfl) | (rw [if_neg (by decide +kernel)]; exact ⟨rfl, rfl⟩))
    (fun os started H enc _ => lifted os started H enc)
theorem proved : Rows.ExprLogicCardSaid :=
  Claim7.holds_tied_plain_at .later [] [.data, .data, .data, .sentinel, .sentinel, .data, .data] true (true, "01b6627e36903762cc912256a461ee8df46f73bd94dc15f982ec678df759bca7") true
    said (fun _ h => by cases h) (by kernel_rfl) (fun _ h => by cases h) exprLogic_row_tie rfl ⟨rfl, rfl⟩ (by kernel_rfl) rfl
    (fun f fn hf hfn => by
      obtain rfl : f = 3 := Option.some.inj ((show Tryz.prog.funcNamed "wherry/wherrylaw10.ExprLogic" = some 3 by kernel_rfl).symm.trans hf) |>.symm
      obtain rfl : fn = Tryz.f3 := (Option.some.inj (Tryz.func3.symm.trans hfn)).symm
      exact ⟨by kernel_rfl, fun j t ht => by
        rw [Tryz.params3] at ht
        have hm : t ∈ [4, 4, 2] := by simpa using Array.mem_of_getElem? ht
        have hall : ([4, 4, 2].all fun u => !Tryz.prog.wantsStandIn u) = true := by kernel_rfl
        exact (show Tryz.prog.wantsStandIn t = false by simpa using List.all_eq_true.1 hall t hm)⟩)
    (by kernel_rfl)
end Go.Proofs.YtpdengbdnijcfaaGreatDoor.exprLogic

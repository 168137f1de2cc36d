/-
  Proved: for every two values ValueApart answers true, and changes nothing that was there before the call: two values that may be have the same bytes, or the same text, just if they are the same. The program's own tables are as its text lays them (the card's tie).
-/
import Derived.Test.YtaahmnkfjkbliaaDoorV9One
import Derived.Deep.RegionHeld3
namespace Go.Proofs.YtaahmnkfjkbliaaDoor.valueApart
open Go.RowKit Go.Shelf Go.Sort
open Go.Lib hiding intOf

set_option maxHeartbeats 4000000 in
set_option maxRecDepth 100000 in
theorem walk (a b : V9) (ka : Vk a) (kb : Vk b) {w : World} (hg : Gv w.heap.size w) : Calls Tryd.prog 8 #[vA a, vA b] w fun e w' => e = .returned (.bool true) ∧ Below w.heap.size w w' := by
  have CX := dMay_any a
  have CY := dMay_any b
  have CA := Bytes_any a ka
  have CB := Bytes_any b kb
  have HSA : Hid (∀ W, Below w.heap.size w W → _) := fun W (hW : Below w.heap.size w W) => Show_any a ka (hg.below hW) hW.size
  have HSB : Hid (∀ W, Below w.heap.size w W → _) := fun W (hW : Below w.heap.size w W) => Show_any b kb (hg.below hW) hW.size
  have hcs : mayV a = false ∨ (mayV a = true ∧ mayV b = false) ∨ (mayV a = true ∧ mayV b = true ∧ a = b) ∨ (mayV a = true ∧ mayV b = true ∧ a ≠ b ∧ ((S (bytV a)).toList == (S (bytV b)).toList) = false ∧ ((S (shw a)).toList == (S (shw b)).toList) = false) := by
    cases h1 : mayV a with
    | false => exact .inl rfl
    | true =>
      cases h2 : mayV b with
      | false => exact .inr (.inl ⟨rfl, rfl⟩)
      | true =>
        by_cases he : a = b
        · exact .inr (.inr (.inl ⟨rfl, rfl, he⟩))
        · refine .inr (.inr (.inr ⟨rfl, rfl, he, ?_, ?_⟩))
          · rw [S_toList, S_toList, beq_eq_false_iff_ne]; exact fun e => he (byt_inj h1 h2 ka kb e)
          · rw [S_toList, S_toList, beq_eq_false_iff_ne]; exact fun e => he (shw_inj h1 h2 e)
  generalize mayV a = x at *
  generalize mayV b = y at *
  obtain ⟨a1, a2, a3⟩ := a
  obtain ⟨b1, b2, b3⟩ := b
  have B0 : Hid (Below w.heap.size w ((w.alloc (.cells #[.int .i64 a1, .int .i64 a2, .string (S a3)] 23)).alloc (.cells #[.int .i64 b1, .int .i64 b2, .string (S b3)] 23))) := ((Below.refl _ w).alloc (Nat.le_refl _) _).alloc (by simp) _
  have CS := shown9_any (hg.below B0.out) B0.out.size
  have HX : Hid (∀ W, Below ((w.alloc (.cells #[.int .i64 a1, .int .i64 a2, .string (S a3)] 23)).alloc (.cells #[.int .i64 b1, .int .i64 b2, .string (S b3)] 23)).heap.size ((w.alloc (.cells #[.int .i64 a1, .int .i64 a2, .string (S a3)] 23)).alloc (.cells #[.int .i64 b1, .int .i64 b2, .string (S b3)] 23)) W → _) := fun W hW => box2 (n := w.heap.size) rfl hW
  unfold vA at CX CY CA CB HSA HSB ⊢
  clear hg
  rcases hcs with rfl | ⟨rfl, rfl⟩ | ⟨rfl, rfl, he⟩ | ⟨rfl, rfl, hne, z1, z2⟩
  · cases y
    all_goals
      go_enter Tryd.func8, Tryd.ntmps8
      go_wp2_with (first
        | (go_at_call 9; refine CS.mono ?_; rintro e w1 ⟨rfl, b1'⟩; (have B1 : Hid (Below _ _ w1) := b1'); obtain ⟨p1, p2⟩ := HX.out w1 B1.out; clear b1' CS)
        | (go_at_call 11; refine (CX _).mono ?_; rintro e w2 ⟨rfl, b2'⟩; (have B2 : Hid (Below _ _ w2) := bel_of B1.out b2' (Nat.le_refl _)); clear p1 p2; obtain ⟨p1, p2⟩ := HX.out w2 B2.out; clear b2' CX)
        | (go_at_call 11; refine (CY _).mono ?_; rintro e w3 ⟨rfl, b3'⟩; (have B3 : Hid (Below _ _ w3) := bel_of B2.out b3' (Nat.le_refl _)); clear p1 p2; obtain ⟨p1, p2⟩ := HX.out w3 B3.out; clear b3' CY))
      go_ret
      exact ⟨rfl, bel_of B0.out B3.out (Nat.le_refl _)⟩
  · go_enter Tryd.func8, Tryd.ntmps8
    go_wp2_with (first
      | (go_at_call 9; refine CS.mono ?_; rintro e w1 ⟨rfl, b1'⟩; (have B1 : Hid (Below _ _ w1) := b1'); obtain ⟨p1, p2⟩ := HX.out w1 B1.out; clear b1' CS)
      | (go_at_call 11; refine (CX _).mono ?_; rintro e w2 ⟨rfl, b2'⟩; (have B2 : Hid (Below _ _ w2) := bel_of B1.out b2' (Nat.le_refl _)); clear p1 p2; obtain ⟨p1, p2⟩ := HX.out w2 B2.out; clear b2' CX)
      | (go_at_call 11; refine (CY _).mono ?_; rintro e w3 ⟨rfl, b3'⟩; (have B3 : Hid (Below _ _ w3) := bel_of B2.out b3' (Nat.le_refl _)); clear p1 p2; obtain ⟨p1, p2⟩ := HX.out w3 B3.out; clear b3' CY))
    go_ret
    exact ⟨rfl, bel_of B0.out B3.out (Nat.le_refl _)⟩
  · simp only [Prod.mk.injEq] at he
    obtain ⟨rfl, rfl, rfl⟩ := he
    generalize S (bytV (a1, a2, a3)) = ba at *
    generalize S (shw (a1, a2, a3)) = sa at *
    clear CB HSB
    go_enter Tryd.func8, Tryd.ntmps8
    go_wp2_with (first
      | (go_at_call 9; refine CS.mono ?_; rintro e w1 ⟨rfl, b1'⟩; (have B1 : Hid (Below _ _ w1) := b1'); obtain ⟨p1, p2⟩ := HX.out w1 B1.out; clear b1' CS)
      | (go_at_call 11; refine (CX _).mono ?_; rintro e w2 ⟨rfl, b2'⟩; (have B2 : Hid (Below _ _ w2) := bel_of B1.out b2' (Nat.le_refl _)); clear p1 p2; obtain ⟨p1, p2⟩ := HX.out w2 B2.out; clear b2' CX)
      | (go_at_call 11; refine (CY _).mono ?_; rintro e w3 ⟨rfl, b3'⟩; (have B3 : Hid (Below _ _ w3) := bel_of B2.out b3' (Nat.le_refl _)); clear p1 p2; obtain ⟨p1, p2⟩ := HX.out w3 B3.out; clear b3' CY))
    have s0 := p1 0
    have s1 := p1 1
    have s2 := p1 2
    have t0 := p2 0
    have t1 := p2 1
    have t2 := p2 2
    simp only [List.getElem?_toArray, List.getElem?_cons_zero, List.getElem?_cons_succ] at s0 s1 s2 t0 t1 t2
    have HB : Hid (Below w.heap.size w w3) := bel_of B0.out B3.out (Nat.le_refl _)
    have hz : w.heap.size + 1 < w3.heap.size := by have := B3.out.size; rw [World.size_alloc, World.size_alloc] at this; omega
    clear p1 p2 B0 B1 B2 B3 HX
    go_region_held3 (fun w' => w'.cell? ⟨w.heap.size, 0, none⟩ = some (.int .i64 a1) ∧ w'.cell? ⟨w.heap.size, 1, none⟩ = some (.int .i64 a2) ∧ w'.cell? ⟨w.heap.size, 2, none⟩ = some (.string (S a3)) ∧ w'.cell? ⟨w.heap.size + 1, 0, none⟩ = some (.int .i64 a1) ∧ w'.cell? ⟨w.heap.size + 1, 1, none⟩ = some (.int .i64 a2) ∧ w'.cell? ⟨w.heap.size + 1, 2, none⟩ = some (.string (S a3)))
      (first
        | go_keep
        | exact ⟨s0, s1, s2, t0, t1, t2⟩)
      (first
        | (go_at_call_of 16 (Value.agg #[.int .i64 a1, .int .i64 a2, .string (S a3)]); refine (CA _).mono ?_; rintro e u1 ⟨rfl, bu1⟩; (replace HB : Hid (Below w.heap.size w u1) := by first | exact bel_of HB.out.drew bu1 (Nat.le_refl _) | exact bel_of HB.out bu1 (Nat.le_refl _)); (replace s0 := (bu1.cell (p := ⟨w.heap.size, 0, none⟩) (show w.heap.size < _ by exact Nat.lt_of_succ_lt hz)).trans s0); (replace s1 := (bu1.cell (p := ⟨w.heap.size, 1, none⟩) (show w.heap.size < _ by exact Nat.lt_of_succ_lt hz)).trans s1); (replace s2 := (bu1.cell (p := ⟨w.heap.size, 2, none⟩) (show w.heap.size < _ by exact Nat.lt_of_succ_lt hz)).trans s2); (replace t0 := (bu1.cell (p := ⟨w.heap.size + 1, 0, none⟩) hz).trans t0); (replace t1 := (bu1.cell (p := ⟨w.heap.size + 1, 1, none⟩) hz).trans t1); (replace t2 := (bu1.cell (p := ⟨w.heap.size + 1, 2, none⟩) hz).trans t2); (replace hz : w.heap.size + 1 < u1.heap.size := Nat.lt_of_lt_of_le hz bu1.size); clear bu1)
        | (go_at_call_of 16 (Value.agg #[.int .i64 a1, .int .i64 a2, .string (S a3)]); refine (CB _).mono ?_; rintro e u2 ⟨rfl, bu2⟩; (replace HB : Hid (Below w.heap.size w u2) := by first | exact bel_of HB.out.drew bu2 (Nat.le_refl _) | exact bel_of HB.out bu2 (Nat.le_refl _)); (replace s0 := (bu2.cell (p := ⟨w.heap.size, 0, none⟩) (show w.heap.size < _ by exact Nat.lt_of_succ_lt hz)).trans s0); (replace s1 := (bu2.cell (p := ⟨w.heap.size, 1, none⟩) (show w.heap.size < _ by exact Nat.lt_of_succ_lt hz)).trans s1); (replace s2 := (bu2.cell (p := ⟨w.heap.size, 2, none⟩) (show w.heap.size < _ by exact Nat.lt_of_succ_lt hz)).trans s2); (replace t0 := (bu2.cell (p := ⟨w.heap.size + 1, 0, none⟩) hz).trans t0); (replace t1 := (bu2.cell (p := ⟨w.heap.size + 1, 1, none⟩) hz).trans t1); (replace t2 := (bu2.cell (p := ⟨w.heap.size + 1, 2, none⟩) hz).trans t2); (replace hz : w.heap.size + 1 < u2.heap.size := Nat.lt_of_lt_of_le hz bu2.size); clear bu2)
        | (go_at_call_of 18 (Value.agg #[.int .i64 a1, .int .i64 a2, .string (S a3)]); refine (HSA.out _ (by first | exact HB.out.drew | exact HB.out)).mono ?_; rintro e u3 ⟨rfl, bu3⟩; (replace HB : Hid (Below w.heap.size w u3) := by first | exact bel_of HB.out.drew bu3 (Nat.le_refl _) | exact bel_of HB.out bu3 (Nat.le_refl _)); (replace s0 := (bu3.cell (p := ⟨w.heap.size, 0, none⟩) (show w.heap.size < _ by exact Nat.lt_of_succ_lt hz)).trans s0); (replace s1 := (bu3.cell (p := ⟨w.heap.size, 1, none⟩) (show w.heap.size < _ by exact Nat.lt_of_succ_lt hz)).trans s1); (replace s2 := (bu3.cell (p := ⟨w.heap.size, 2, none⟩) (show w.heap.size < _ by exact Nat.lt_of_succ_lt hz)).trans s2); (replace t0 := (bu3.cell (p := ⟨w.heap.size + 1, 0, none⟩) hz).trans t0); (replace t1 := (bu3.cell (p := ⟨w.heap.size + 1, 1, none⟩) hz).trans t1); (replace t2 := (bu3.cell (p := ⟨w.heap.size + 1, 2, none⟩) hz).trans t2); (replace hz : w.heap.size + 1 < u3.heap.size := Nat.lt_of_lt_of_le hz bu3.size); clear bu3)
        | (go_at_call_of 18 (Value.agg #[.int .i64 a1, .int .i64 a2, .string (S a3)]); refine (HSB.out _ (by first | exact HB.out.drew | exact HB.out)).mono ?_; rintro e u4 ⟨rfl, bu4⟩; (replace HB : Hid (Below w.heap.size w u4) := by first | exact bel_of HB.out.drew bu4 (Nat.le_refl _) | exact bel_of HB.out bu4 (Nat.le_refl _)); (replace s0 := (bu4.cell (p := ⟨w.heap.size, 0, none⟩) (show w.heap.size < _ by exact Nat.lt_of_succ_lt hz)).trans s0); (replace s1 := (bu4.cell (p := ⟨w.heap.size, 1, none⟩) (show w.heap.size < _ by exact Nat.lt_of_succ_lt hz)).trans s1); (replace s2 := (bu4.cell (p := ⟨w.heap.size, 2, none⟩) (show w.heap.size < _ by exact Nat.lt_of_succ_lt hz)).trans s2); (replace t0 := (bu4.cell (p := ⟨w.heap.size + 1, 0, none⟩) hz).trans t0); (replace t1 := (bu4.cell (p := ⟨w.heap.size + 1, 1, none⟩) hz).trans t1); (replace t2 := (bu4.cell (p := ⟨w.heap.size + 1, 2, none⟩) hz).trans t2); (replace hz : w.heap.size + 1 < u4.heap.size := Nat.lt_of_lt_of_le hz bu4.size); clear bu4))
    all_goals
      go_wp2
      go_ret
      exact ⟨rfl, HB.out⟩
  · have hd := ne_ways hne
    clear hne
    generalize S (bytV (a1, a2, a3)) = ba at *
    generalize S (bytV (b1, b2, b3)) = bb at *
    generalize S (shw (a1, a2, a3)) = sa at *
    generalize S (shw (b1, b2, b3)) = sb at *
    rcases hd with d1 | ⟨d1, d2⟩ | ⟨d1, d2, d3⟩
    all_goals
      go_enter Tryd.func8, Tryd.ntmps8
      go_wp2_with (first
        | (go_at_call 9; refine CS.mono ?_; rintro e w1 ⟨rfl, b1'⟩; (have B1 : Hid (Below _ _ w1) := b1'); obtain ⟨p1, p2⟩ := HX.out w1 B1.out; clear b1' CS)
        | (go_at_call 11; refine (CX _).mono ?_; rintro e w2 ⟨rfl, b2'⟩; (have B2 : Hid (Below _ _ w2) := bel_of B1.out b2' (Nat.le_refl _)); clear p1 p2; obtain ⟨p1, p2⟩ := HX.out w2 B2.out; clear b2' CX)
        | (go_at_call 11; refine (CY _).mono ?_; rintro e w3 ⟨rfl, b3'⟩; (have B3 : Hid (Below _ _ w3) := bel_of B2.out b3' (Nat.le_refl _)); clear p1 p2; obtain ⟨p1, p2⟩ := HX.out w3 B3.out; clear b3' CY))
      have s0 := p1 0
      have s1 := p1 1
      have s2 := p1 2
      have t0 := p2 0
      have t1 := p2 1
      have t2 := p2 2
      simp only [List.getElem?_toArray, List.getElem?_cons_zero, List.getElem?_cons_succ] at s0 s1 s2 t0 t1 t2
      have HB : Hid (Below w.heap.size w w3) := bel_of B0.out B3.out (Nat.le_refl _)
      have hz : w.heap.size + 1 < w3.heap.size := by have := B3.out.size; rw [World.size_alloc, World.size_alloc] at this; omega
      clear p1 p2 B0 B1 B2 B3 HX
      go_region_held3 (fun w' => w'.cell? ⟨w.heap.size, 0, none⟩ = some (.int .i64 a1) ∧ w'.cell? ⟨w.heap.size, 1, none⟩ = some (.int .i64 a2) ∧ w'.cell? ⟨w.heap.size, 2, none⟩ = some (.string (S a3)) ∧ w'.cell? ⟨w.heap.size + 1, 0, none⟩ = some (.int .i64 b1) ∧ w'.cell? ⟨w.heap.size + 1, 1, none⟩ = some (.int .i64 b2) ∧ w'.cell? ⟨w.heap.size + 1, 2, none⟩ = some (.string (S b3)))
        (first
          | go_keep
          | exact ⟨s0, s1, s2, t0, t1, t2⟩)
        (first
          | (go_at_call_of 16 (Value.agg #[.int .i64 a1, .int .i64 a2, .string (S a3)]); refine (CA _).mono ?_; rintro e u1 ⟨rfl, bu1⟩; (replace HB : Hid (Below w.heap.size w u1) := by first | exact bel_of HB.out.drew bu1 (Nat.le_refl _) | exact bel_of HB.out bu1 (Nat.le_refl _)); (replace s0 := (bu1.cell (p := ⟨w.heap.size, 0, none⟩) (show w.heap.size < _ by exact Nat.lt_of_succ_lt hz)).trans s0); (replace s1 := (bu1.cell (p := ⟨w.heap.size, 1, none⟩) (show w.heap.size < _ by exact Nat.lt_of_succ_lt hz)).trans s1); (replace s2 := (bu1.cell (p := ⟨w.heap.size, 2, none⟩) (show w.heap.size < _ by exact Nat.lt_of_succ_lt hz)).trans s2); (replace t0 := (bu1.cell (p := ⟨w.heap.size + 1, 0, none⟩) hz).trans t0); (replace t1 := (bu1.cell (p := ⟨w.heap.size + 1, 1, none⟩) hz).trans t1); (replace t2 := (bu1.cell (p := ⟨w.heap.size + 1, 2, none⟩) hz).trans t2); (replace hz : w.heap.size + 1 < u1.heap.size := Nat.lt_of_lt_of_le hz bu1.size); clear bu1)
          | (go_at_call_of 16 (Value.agg #[.int .i64 b1, .int .i64 b2, .string (S b3)]); refine (CB _).mono ?_; rintro e u2 ⟨rfl, bu2⟩; (replace HB : Hid (Below w.heap.size w u2) := by first | exact bel_of HB.out.drew bu2 (Nat.le_refl _) | exact bel_of HB.out bu2 (Nat.le_refl _)); (replace s0 := (bu2.cell (p := ⟨w.heap.size, 0, none⟩) (show w.heap.size < _ by exact Nat.lt_of_succ_lt hz)).trans s0); (replace s1 := (bu2.cell (p := ⟨w.heap.size, 1, none⟩) (show w.heap.size < _ by exact Nat.lt_of_succ_lt hz)).trans s1); (replace s2 := (bu2.cell (p := ⟨w.heap.size, 2, none⟩) (show w.heap.size < _ by exact Nat.lt_of_succ_lt hz)).trans s2); (replace t0 := (bu2.cell (p := ⟨w.heap.size + 1, 0, none⟩) hz).trans t0); (replace t1 := (bu2.cell (p := ⟨w.heap.size + 1, 1, none⟩) hz).trans t1); (replace t2 := (bu2.cell (p := ⟨w.heap.size + 1, 2, none⟩) hz).trans t2); (replace hz : w.heap.size + 1 < u2.heap.size := Nat.lt_of_lt_of_le hz bu2.size); clear bu2)
          | (go_at_call_of 18 (Value.agg #[.int .i64 a1, .int .i64 a2, .string (S a3)]); refine (HSA.out _ (by first | exact HB.out.drew | exact HB.out)).mono ?_; rintro e u3 ⟨rfl, bu3⟩; (replace HB : Hid (Below w.heap.size w u3) := by first | exact bel_of HB.out.drew bu3 (Nat.le_refl _) | exact bel_of HB.out bu3 (Nat.le_refl _)); (replace s0 := (bu3.cell (p := ⟨w.heap.size, 0, none⟩) (show w.heap.size < _ by exact Nat.lt_of_succ_lt hz)).trans s0); (replace s1 := (bu3.cell (p := ⟨w.heap.size, 1, none⟩) (show w.heap.size < _ by exact Nat.lt_of_succ_lt hz)).trans s1); (replace s2 := (bu3.cell (p := ⟨w.heap.size, 2, none⟩) (show w.heap.size < _ by exact Nat.lt_of_succ_lt hz)).trans s2); (replace t0 := (bu3.cell (p := ⟨w.heap.size + 1, 0, none⟩) hz).trans t0); (replace t1 := (bu3.cell (p := ⟨w.heap.size + 1, 1, none⟩) hz).trans t1); (replace t2 := (bu3.cell (p := ⟨w.heap.size + 1, 2, none⟩) hz).trans t2); (replace hz : w.heap.size + 1 < u3.heap.size := Nat.lt_of_lt_of_le hz bu3.size); clear bu3)
          | (go_at_call_of 18 (Value.agg #[.int .i64 b1, .int .i64 b2, .string (S b3)]); refine (HSB.out _ (by first | exact HB.out.drew | exact HB.out)).mono ?_; rintro e u4 ⟨rfl, bu4⟩; (replace HB : Hid (Below w.heap.size w u4) := by first | exact bel_of HB.out.drew bu4 (Nat.le_refl _) | exact bel_of HB.out bu4 (Nat.le_refl _)); (replace s0 := (bu4.cell (p := ⟨w.heap.size, 0, none⟩) (show w.heap.size < _ by exact Nat.lt_of_succ_lt hz)).trans s0); (replace s1 := (bu4.cell (p := ⟨w.heap.size, 1, none⟩) (show w.heap.size < _ by exact Nat.lt_of_succ_lt hz)).trans s1); (replace s2 := (bu4.cell (p := ⟨w.heap.size, 2, none⟩) (show w.heap.size < _ by exact Nat.lt_of_succ_lt hz)).trans s2); (replace t0 := (bu4.cell (p := ⟨w.heap.size + 1, 0, none⟩) hz).trans t0); (replace t1 := (bu4.cell (p := ⟨w.heap.size + 1, 1, none⟩) hz).trans t1); (replace t2 := (bu4.cell (p := ⟨w.heap.size + 1, 2, none⟩) hz).trans t2); (replace hz : w.heap.size + 1 < u4.heap.size := Nat.lt_of_lt_of_le hz bu4.size); clear bu4))
      all_goals
        go_wp2
        go_ret
        exact ⟨rfl, HB.out⟩

open Go.ChangeShapes Go.WideShapes Go.ChangeAt Go.WideMaps Go.WideElems in
set_option maxRecDepth 100000 in
theorem lifted (os : Os) (started : os.Started) (H : Type) (enc : TypeId × Value → H) :
    ReturnsInHanded {} Tryd.checked os 8 .any (fun w args => (Rows.valueApartSpec.pre enc Tryd.prog Tryd.f8 [] false w args ∧ laidMetH Tryd.prog laid9 w) ∧ sizedMet enc Tryd.prog Tryd.f8 (OpenSpec.ofChange Rows.valueApartSpec) false w args)
      (Rows.valueApartSpec.post enc Tryd.prog Tryd.f8 false true false false) := by
  refine returnsInHanded_of_change_and (C := Tryd.checked) (X := fun w _ => laidMetH Tryd.prog laid9 w) (fun _ _ _ hh h => h.of_heap hh) own9 started (by kernel_rfl) Tryd.func8
    (ChangeSpec.witness_shaped (enc := enc) (C := Tryd.checked) (os := os) (X := fun w _ => laidMetH Tryd.prog laid9 w) false (World.doorLaid Tryd.prog 400 os) #[.agg #[.int .i64 0, .int .i64 0, .string .empty], .agg #[.int .i64 0, .int .i64 0, .string .empty]] 8 rfl (World.shaped_of_RefB (by kernel_rfl) (by kernel_rfl)) (by kernel_rfl) (by kernel_rfl) (by kernel_rfl) (door_met os _)) ?_
  intro W base args ds gs before hval0 hW hcnd hsz0 hL _
  have hval : ∀ (j : Nat) t v, Tryd.f8.params[j]? = some t → args[j]? = some v → Value.okWide Tryd.prog W .any base t v := hval0
  have hW' := hW
  obtain ⟨p, q, hA0, hV, rfl, hfz, hnd⟩ := hW
  have hA : DataW.TrodAll enc Tryd.prog W 0 (fun _ => true) true Tryd.f8.params.toList args.toList ds p := hA0
  have hsz : (DataW.weightsEach Tryd.prog (Tryd.f8.params.toList ++ Rows.valueApartSpec.plain.varTypes Tryd.prog) (ds ++ gs)).all (· ≤ reachBytes) = true := hsz0
  rw [Tryd.params8] at hA hval hsz
  obtain ⟨v0, vs0, d0, ds0, p0, q0, hargs, rfl, rfl, h0, r0⟩ := trodAll_cons hA
  obtain ⟨v1, vs1, d1, ds1, p1, q1, rfl, rfl, rfl, h1, r1⟩ := trodAll_cons r0
  obtain ⟨rfl, rfl, rfl⟩ := trodAll_nil r1
  obtain rfl : args = #[v0, v1] := by cases args; simp_all
  obtain ⟨rfl, rfl⟩ := trodVars_none hV
  have lt0 : ∀ x ∈ p0, x.block < W.heap.size := by obtain ⟨m, hm⟩ := h0; exact DataW.trod_lt m _ _ _ hm
  have lt1 : ∀ x ∈ p1, x.block < W.heap.size := by obtain ⟨m, hm⟩ := h1; exact DataW.trod_lt m _ _ _ hm
  obtain ⟨x0, rfl, k0⟩ := openVal (hval 0 23 v0 rfl rfl) h0
  obtain ⟨x1, rfl, k1⟩ := openVal (hval 1 23 v1 rfl rfl) h1
  have s0 := k0 (sized_at hsz (i := 0) rfl rfl)
  have s1 := k1 (sized_at hsz (i := 1) rfl rfl)
  clear hA0 hval0
  refine (walk x0 x1 s0 s1 (gv_of hL)).mono fun e W' ⟨he, bel⟩ => ?_
  subst he
  exact ⟨_, rfl, _, _, _, [], _, [], hW', trodAll_mk1 (shut_bool Tryd.underlying4 _), (trodAll_cons_mk (Below.trod laidOut9 (by kernel_rfl) (of_decide_eq_true (by kernel_rfl)) h0 bel lt0) (trodAll_cons_mk (Below.trod laidOut9 (by kernel_rfl) (of_decide_eq_true (by kernel_rfl)) h1 bel lt1) trodAll_mk0)), rfl, bel.frame _, fun h => by cases h⟩
theorem said : Rows.ValueApartSaid :=
  OpenClaim.holds_of_wide 8 Tryd.f8 rfl rfl rfl rfl rfl rfl rfl ⟨rfl, rfl, rfl, rfl, rfl⟩ rfl rfl rfl rfl rfl (by kernel_rfl) Tryd.func8 (by kernel_rfl)
    (of_decide_eq_true (by kernel_rfl)) (by unfold Func.isWrapper; first | (rw [if_pos (by decide +kernel)]; kernel_rfl) | (rw [if_neg (by decide +kernel)]; exact ⟨rfl, rfl⟩))
    (fun os started H enc _ => lifted os started H enc)
theorem proved : Rows.ValueApartCardSaid :=
  Claim7.holds_tied_plain_at .later [] [.data, .data, .data] true (true, "56e91a075cffa44262a3916c20c4f80ca298e481936aacf4d9325e14358247f9") false
    said (fun _ h => by cases h) (by kernel_rfl) (fun _ h => by cases h) valueApart_row_tie rfl ⟨rfl, rfl⟩ (by kernel_rfl) rfl
    (fun f fn hf hfn => by
      obtain rfl : f = 8 := Option.some.inj ((show Tryd.prog.funcNamed "wherry/wherrylaw09.ValueApart" = some 8 by kernel_rfl).symm.trans hf) |>.symm
      obtain rfl : fn = Tryd.f8 := (Option.some.inj (Tryd.func8.symm.trans hfn)).symm
      exact ⟨by kernel_rfl, fun j t ht => by
        rw [Tryd.params8] at ht
        have hm : t ∈ [23, 23] := by simpa using Array.mem_of_getElem? ht
        have hall : ([23, 23].all fun u => !Tryd.prog.wantsStandIn u) = true := by kernel_rfl
        exact (show Tryd.prog.wantsStandIn t = false by simpa using List.all_eq_true.1 hall t hm)⟩)
    (by kernel_rfl)
end Go.Proofs.YtaahmnkfjkbliaaDoor.valueApart

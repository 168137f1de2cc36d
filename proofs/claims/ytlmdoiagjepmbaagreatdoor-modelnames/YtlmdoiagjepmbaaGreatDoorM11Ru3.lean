/-
  Package model: the rules of nodes, one by one.
-/
import Derived.Test.YtlmdoiagjepmbaaGreatDoorM11Ru2
namespace Go.Proofs.YtlmdoiagjepmbaaGreatDoor.m11
open Go.Proofs.YtlmdoiagjepmbaaGreatDoor.x10
open Go.RowKit Go.Shelf Go.Sort
open Go.Lib hiding intOf

theorem S_emp (l : List UInt8) : (S l).toList.isEmpty = (l == []) := by rw [S_toList]; cases l <;> rfl

set_option maxHeartbeats 1000000 in
theorem nr4_any {w : World} {pb : Nat} {nv fv : Value} {P : Pc} (hb : Pb w pb nv fv P) {i : Nat} (hi : i < P.nodes.length) : Calls Tryz.prog 64 #[.int .i64 (i : Int), nA P.nodes[i], .pointer (some ⟨pb, 0, none⟩)] w fun e w' => e = .returned (.bool (if sit P.nodes[i].kind then isPl P.nodes.length P.nodes[i].host && wai (P.nd P.nodes[i].host).kind && ((P.nd P.nodes[i].host).parent == P.nodes[i].parent) else P.nodes[i].host == -1)) ∧ Below w.heap.size w w' := by
  obtain ⟨x, hx⟩ : ∃ x, P.nodes[i] = x := ⟨_, rfl⟩
  rw [hx]
  clear hx
  obtain ⟨k, p, h, nm, ty, ke, n⟩ := x
  have hB1 : Below w.heap.size w (w.alloc (.cells #[.int .i64 k, .int .i64 p, .int .i64 h, .string (S nm), .string (S ty), .string (S ke), .int .i64 n] 32)) := (Below.refl _ w).alloc (Nat.le_refl _) _
  have CS := sits_any ⟨k, p, h, nm, ty, ke, n⟩ (w.alloc (.cells #[.int .i64 k, .int .i64 p, .int .i64 h, .string (S nm), .string (S ty), .string (S ke), .int .i64 n] 32))
  obtain ⟨b', off, cap', hsl, hcap, hbl0, hcell⟩ := hb.po.ns.at hi
  subst hsl
  have CP := fun W => isPlace_any (w := W) h hb.po.ns
  have HB : Hid (∀ w1, Below (w.alloc (.cells #[.int .i64 k, .int .i64 p, .int .i64 h, .string (S nm), .string (S ty), .string (S ke), .int .i64 n] 32)).heap.size (w.alloc (.cells #[.int .i64 k, .int .i64 p, .int .i64 h, .string (S nm), .string (S ty), .string (S ke), .int .i64 n] 32)) w1 → Pb w1 pb (.slice (some ⟨b', off, none⟩) P.nodes.length cap') fv P ∧ Nc w1 w.heap.size 0 ⟨k, p, h, nm, ty, ke, n⟩ ∧ Below w.heap.size w w1 ∧ w.heap.size < w1.heap.size) := fun w1 h1 => ⟨(hb.up hB1).up h1, (nc_new w k p h nm ty ke n).below h1 (by simp), bel_of hB1 h1 (Nat.le_refl _), Nat.lt_of_lt_of_le (by simp) h1.size⟩
  unfold nA at CS ⊢
  simp only at CS ⊢
  clear hB1 hb
  cases hs : sit k with
  | false =>
    rw [hs] at CS
    rw [if_neg (by simp)]
    clear hs
    go_enter Tryz.func64, Tryz.ntmps64
    go_wp2_with (go_at_call 65; refine CS.mono ?_; rintro e w1 ⟨rfl, hb1⟩; obtain ⟨-, hn, hb2, -⟩ := HB.out w1 hb1; (have B2 : Hid (Below w.heap.size w w1) := hb2); obtain ⟨c0, c1, c2, c3, c4, c5, c6⟩ := hn; simp only at c0 c1 c2 c3 c4 c5 c6; clear hb1 hb2 CS)
    go_ret
    exact ⟨rfl, B2.out⟩
  | true =>
    rw [hs] at CS
    rw [if_pos rfl]
    clear hs
    cases hp : isPl P.nodes.length h with
    | false =>
      rw [hp] at CP
      clear hcell hp
      simp only [Bool.false_and]
      go_enter Tryz.func64, Tryz.ntmps64
      go_wp2_with (go_at_call 65; refine CS.mono ?_; rintro e w1 ⟨rfl, hb1⟩; obtain ⟨hp, hn, hb2, hlt⟩ := HB.out w1 hb1; (have B2 : Hid (Below w.heap.size w w1) := hb2); obtain ⟨c0, c1, c2, c3, c4, c5, c6⟩ := hn; obtain ⟨b0, b1, b2, blt, -⟩ := hp; simp only at c0 c1 c2 c3 c4 c5 c6; clear hb1 hb2 CS HB)
      go_quiet (first | (go_at_call 63; refine Calls.quiet_of_same (CP _)))
      go_wp2
      go_ret
      exact ⟨rfl, below_drewN B2.out _⟩
    | true =>
      rw [hp] at CP
      obtain ⟨m, hm, hml⟩ := isPl_iff.1 hp
      subst hm
      have j1 : (0 : Int) ≤ (m : Int) := by omega
      have j2 : (m : Int) < (P.nodes.length : Int) := by omega
      rw [nd_at P hml]
      have HCM : Hid (∀ W, Below w.heap.size w W → Nc W b' (off + m * 7) P.nodes[m]) := fun W hW => hcell W hW m hml
      generalize P.nodes[m] = y at *
      obtain ⟨y0, y1, y2, y3, y4, y5, y6⟩ := y
      simp only [Bool.true_and]
      have CW : ∀ W, Calls Tryz.prog 20 #[nA ⟨y0, y1, y2, y3, y4, y5, y6⟩] W fun e w' => e = .returned (.bool (wai y0)) ∧ Below W.heap.size W w' := fun W => waits_any ⟨y0, y1, y2, y3, y4, y5, y6⟩ W
      unfold nA at CW
      simp only at CW
      generalize wai y0 = r at *
      obtain ⟨q, hq⟩ : ∃ q, (y1 == p) = q := ⟨_, rfl⟩
      rw [hq]
      clear hcell hp
      cases r with
      | false =>
        simp only [Bool.false_and]
        go_enter Tryz.func64, Tryz.ntmps64
        go_wp2_with (go_at_call 65; refine CS.mono ?_; rintro e w1 ⟨rfl, hb1⟩; obtain ⟨hp, hn, hb2, hlt⟩ := HB.out w1 hb1; (have B2 : Hid (Below w.heap.size w w1) := hb2); obtain ⟨c0, c1, c2, c3, c4, c5, c6⟩ := hn; obtain ⟨b0, b1, b2, blt, -⟩ := hp; simp only at c0 c1 c2 c3 c4 c5 c6; clear hb1 hb2 CS HB)
        obtain ⟨d0, d1, d2, d3, d4, d5, d6⟩ := HCM.out w1 B2.out
        simp only at d0 d1 d2 d3 d4 d5 d6
        have hbl : b' < w1.heap.size := Nat.lt_of_lt_of_le hbl0 B2.out.size
        have HS : Hid (∀ W, Below w1.heap.size w1 W → W.cell? ⟨w.heap.size, 1, none⟩ = some (.int .i64 p) ∧ W.cell? ⟨w.heap.size, 2, none⟩ = some (.int .i64 (m : Int)) ∧ W.cell? ⟨pb, 1, none⟩ = some (.slice (some ⟨b', off, none⟩) P.nodes.length cap') ∧ W.cell? ⟨b', off + m * 7, none⟩ = some (.int .i64 y0) ∧ W.cell? ⟨b', off + m * 7 + 1, none⟩ = some (.int .i64 y1) ∧ W.cell? ⟨b', off + m * 7 + 2, none⟩ = some (.int .i64 y2) ∧ W.cell? ⟨b', off + m * 7 + 3, none⟩ = some (.string (S y3)) ∧ W.cell? ⟨b', off + m * 7 + 4, none⟩ = some (.string (S y4)) ∧ W.cell? ⟨b', off + m * 7 + 5, none⟩ = some (.string (S y5)) ∧ W.cell? ⟨b', off + m * 7 + 6, none⟩ = some (.int .i64 y6)) := fun W hW => ⟨(hW.cell (p := ⟨w.heap.size, 1, none⟩) hlt).trans c1, (hW.cell (p := ⟨w.heap.size, 2, none⟩) hlt).trans c2, (hW.cell (p := ⟨pb, 1, none⟩) blt).trans b1, (hW.cell (p := ⟨b', off + m * 7, none⟩) hbl).trans d0, (hW.cell (p := ⟨b', off + m * 7 + 1, none⟩) hbl).trans d1, (hW.cell (p := ⟨b', off + m * 7 + 2, none⟩) hbl).trans d2, (hW.cell (p := ⟨b', off + m * 7 + 3, none⟩) hbl).trans d3, (hW.cell (p := ⟨b', off + m * 7 + 4, none⟩) hbl).trans d4, (hW.cell (p := ⟨b', off + m * 7 + 5, none⟩) hbl).trans d5, (hW.cell (p := ⟨b', off + m * 7 + 6, none⟩) hbl).trans d6⟩
        have CV : ∀ W, Below w1.heap.size w1 W → Calls Tryz.prog 20 #[.agg #[.int .i64 y0, .int .i64 y1, .int .i64 y2, .string (S y3), .string (S y4), .string (S y5), .int .i64 y6]] W fun e w' => e = .returned (.bool _) ∧ Below w1.heap.size w1 w' := fun W hW => (CW W).mono fun e w' hh => ⟨hh.1, bel_of hW hh.2 (Nat.le_refl _)⟩
        clear CW HCM hbl hlt
        refine wp_region_held_drew (S := (fun W => W.cell? ⟨w.heap.size, 1, none⟩ = some (.int .i64 p) ∧ W.cell? ⟨w.heap.size, 2, none⟩ = some (.int .i64 (m : Int)) ∧ W.cell? ⟨pb, 1, none⟩ = some (.slice (some ⟨b', off, none⟩) P.nodes.length cap') ∧ W.cell? ⟨b', off + m * 7, none⟩ = some (.int .i64 y0) ∧ W.cell? ⟨b', off + m * 7 + 1, none⟩ = some (.int .i64 y1) ∧ W.cell? ⟨b', off + m * 7 + 2, none⟩ = some (.int .i64 y2) ∧ W.cell? ⟨b', off + m * 7 + 3, none⟩ = some (.string (S y3)) ∧ W.cell? ⟨b', off + m * 7 + 4, none⟩ = some (.string (S y4)) ∧ W.cell? ⟨b', off + m * 7 + 5, none⟩ = some (.string (S y5)) ∧ W.cell? ⟨b', off + m * 7 + 6, none⟩ = some (.int .i64 y6))) (by kernel_rfl) (by first | go_keep | exact HS.out _ (Below.refl _ _) | exact HS.out _ hX) (fun hHeld => ?_)
        refine wpAnyH_take (i := 0) (v := ?_) rfl (by kernel_rfl) (by kernel_rfl) (by kernel_rfl) (fun _ _ _ h => h) (Or.inl ⟨by rfl, ?_⟩) (by assumption) ?_
        rotate_left 1
        · intro w hSw; (try dsimp only at hSw); go_simp; try with_reducible rfl
        refine wpAnyH_take (i := 1) (v := ?_) rfl (by kernel_rfl) (by kernel_rfl) (by kernel_rfl) (fun _ _ _ h => h) (Or.inl ⟨by rfl, ?_⟩) (by assumption) ?_
        rotate_left 1
        · intro w hSw; (try dsimp only at hSw); go_simp; try with_reducible rfl
        refine wpAnyH_take (i := 2) (v := ?_) rfl (by kernel_rfl) (by kernel_rfl) (by kernel_rfl) (fun _ _ _ h => h) (Or.inl ⟨by rfl, ?_⟩) (by assumption) ?_
        rotate_left 1
        · intro w hSw; (try dsimp only at hSw); go_simp; try with_reducible rfl
        refine wpAnyH_take (i := 3) (v := ?_) rfl (by kernel_rfl) (by kernel_rfl) (by kernel_rfl) (fun _ _ _ h => h) (Or.inl ⟨by rfl, ?_⟩) (by assumption) ?_
        rotate_left 1
        · intro w hSw; (try dsimp only at hSw); go_simp; try with_reducible rfl
        change wpAnyH _ _ _ _ _ _ _ { tmps := #[.int .i64 (i : Int), .agg #[.int .i64 k, .int .i64 p, .int .i64 (m : Int), .string (S nm), .string (S ty), .string (S ke), .int .i64 n], .pointer (some ⟨pb, 0, none⟩), undef, .pointer (some ⟨w.heap.size, 0, none⟩), .bool false, .agg #[.int .i64 k, .int .i64 p, .int .i64 (m : Int), .string (S nm), .string (S ty), .string (S ke), .int .i64 n], .bool true, .bool false, undef, undef, undef, .pointer (some ⟨pb, 1, none⟩), (.slice (some ⟨b', off, none⟩) P.nodes.length cap'), .pointer (some ⟨w.heap.size, 2, none⟩), .int .i64 (m : Int), undef, undef, undef, undef, undef, undef, undef, undef, undef, undef, undef, undef, undef, undef, undef, undef, undef, undef, undef, undef, undef, undef], defers := [] } _
        refine wpAnyH_ready (rs := [4]) (by kernel_rfl) (by simp) ?_
        refine AllReadyH.cons rfl (fun K hK => ?_) AllReadyH.nil
        go_simp
        (go_at_call 63; refine (CP _).mono ?_; rintro e u1 ⟨rfl, hu1⟩; rw [hu1]; clear hu1; go_wp2_with fail)
        refine hK.out _ _ (by first | go_keep | exact HS.out _ (Below.refl _ _) | exact HS.out _ hX) (fun hHeld => ?_)
        clear hK K
        change wpAnyH _ _ _ _ _ _ _ { tmps := #[.int .i64 (i : Int), .agg #[.int .i64 k, .int .i64 p, .int .i64 (m : Int), .string (S nm), .string (S ty), .string (S ke), .int .i64 n], .pointer (some ⟨pb, 0, none⟩), undef, .pointer (some ⟨w.heap.size, 0, none⟩), .bool false, .agg #[.int .i64 k, .int .i64 p, .int .i64 (m : Int), .string (S nm), .string (S ty), .string (S ke), .int .i64 n], .bool true, .bool false, undef, undef, undef, .pointer (some ⟨pb, 1, none⟩), (.slice (some ⟨b', off, none⟩) P.nodes.length cap'), .pointer (some ⟨w.heap.size, 2, none⟩), .int .i64 (m : Int), .bool true, undef, undef, undef, undef, undef, undef, undef, undef, undef, undef, undef, undef, undef, undef, undef, undef, undef, undef, undef, undef, undef], defers := [] } _
        refine wpAnyH_take (i := 5) (v := ?_) rfl (by kernel_rfl) (by kernel_rfl) (by kernel_rfl) (fun _ _ _ h => h) (Or.inl ⟨by rfl, ?_⟩) (by assumption) ?_
        rotate_left 1
        · intro w hSw; (try dsimp only at hSw); go_simp; try with_reducible rfl
        refine wpAnyH_take (i := 6) (v := ?_) rfl (by kernel_rfl) (by kernel_rfl) (by kernel_rfl) (fun _ _ _ h => h) (Or.inl ⟨by rfl, ?_⟩) (by assumption) ?_
        rotate_left 1
        · intro w hSw; (try dsimp only at hSw); go_simp; try with_reducible rfl
        refine wpAnyH_take (i := 7) (v := ?_) rfl (by kernel_rfl) (by kernel_rfl) (by kernel_rfl) (fun _ _ _ h => h) (Or.inl ⟨by rfl, ?_⟩) (by assumption) ?_
        rotate_left 1
        · intro w hSw; (try dsimp only at hSw); go_simp; try with_reducible rfl
        refine wpAnyH_take (i := 8) (v := ?_) rfl (by kernel_rfl) (by kernel_rfl) (by kernel_rfl) (fun _ _ _ h => h) (Or.inl ⟨by rfl, ?_⟩) (by assumption) ?_
        rotate_left 1
        · intro w hSw; (try dsimp only at hSw); go_simp; try with_reducible rfl
        change wpAnyH _ _ _ _ _ _ _ { tmps := #[.int .i64 (i : Int), .agg #[.int .i64 k, .int .i64 p, .int .i64 (m : Int), .string (S nm), .string (S ty), .string (S ke), .int .i64 n], .pointer (some ⟨pb, 0, none⟩), undef, .pointer (some ⟨w.heap.size, 0, none⟩), .bool false, .agg #[.int .i64 k, .int .i64 p, .int .i64 (m : Int), .string (S nm), .string (S ty), .string (S ke), .int .i64 n], .bool true, .bool false, undef, undef, undef, .pointer (some ⟨pb, 1, none⟩), (.slice (some ⟨b', off, none⟩) P.nodes.length cap'), .pointer (some ⟨w.heap.size, 2, none⟩), .int .i64 (m : Int), .bool true, .bool true, .pointer (some ⟨pb, 1, none⟩), (.slice (some ⟨b', off, none⟩) P.nodes.length cap'), .pointer (some ⟨w.heap.size, 2, none⟩), undef, undef, undef, undef, undef, undef, undef, undef, undef, undef, undef, undef, undef, undef, undef, undef, undef], defers := [] } _
        refine wpAnyH_take (i := 9) (v := ?_) rfl (by kernel_rfl) (by kernel_rfl) (by kernel_rfl) (fun _ _ _ h => h) (Or.inl ⟨by rfl, ?_⟩) (by assumption) ?_
        rotate_left 1
        · intro w hSw; (try dsimp only at hSw); go_simp; try with_reducible rfl
        refine wpAnyH_take (i := 10) (v := ?_) rfl (by kernel_rfl) (by kernel_rfl) (by kernel_rfl) (fun _ _ _ h => h) (Or.inl ⟨by rfl, ?_⟩) (by assumption) ?_
        rotate_left 1
        · intro w hSw; (try dsimp only at hSw); go_simp; try with_reducible rfl
        refine wpAnyH_take (i := 11) (v := ?_) rfl (by kernel_rfl) (by kernel_rfl) (by kernel_rfl) (fun _ _ _ h => h) (Or.inl ⟨by rfl, ?_⟩) (by assumption) ?_
        rotate_left 1
        · intro w hSw; (try dsimp only at hSw); go_simp; try with_reducible rfl
        change wpAnyH _ _ _ _ _ _ _ { tmps := #[.int .i64 (i : Int), .agg #[.int .i64 k, .int .i64 p, .int .i64 (m : Int), .string (S nm), .string (S ty), .string (S ke), .int .i64 n], .pointer (some ⟨pb, 0, none⟩), undef, .pointer (some ⟨w.heap.size, 0, none⟩), .bool false, .agg #[.int .i64 k, .int .i64 p, .int .i64 (m : Int), .string (S nm), .string (S ty), .string (S ke), .int .i64 n], .bool true, .bool false, undef, undef, undef, .pointer (some ⟨pb, 1, none⟩), (.slice (some ⟨b', off, none⟩) P.nodes.length cap'), .pointer (some ⟨w.heap.size, 2, none⟩), .int .i64 (m : Int), .bool true, .bool true, .pointer (some ⟨pb, 1, none⟩), (.slice (some ⟨b', off, none⟩) P.nodes.length cap'), .pointer (some ⟨w.heap.size, 2, none⟩), .int .i64 (m : Int), .pointer (some ⟨b', off + m * 7, none⟩), .agg #[.int .i64 y0, .int .i64 y1, .int .i64 y2, .string (S y3), .string (S y4), .string (S y5), .int .i64 y6], undef, undef, undef, undef, undef, undef, undef, undef, undef, undef, undef, undef, undef, undef], defers := [] } _
        refine wpAnyH_ready (rs := [12]) (by kernel_rfl) (by simp) ?_
        refine AllReadyH.cons rfl (fun K hK => ?_) AllReadyH.nil
        go_simp
        (go_at_call 20; refine (CV _ (by first | exact Below.refl _ _ | exact (Below.refl _ _).drew | exact below_drewN (Below.refl _ _) _)).mono ?_; rintro e u1 ⟨rfl, hX⟩; (have B3 : Hid (Below w.heap.size w u1) := bel_of B2.out hX (Nat.le_refl _)); go_wp2_with fail)
        refine hK.out _ _ (by first | go_keep | exact HS.out _ (Below.refl _ _) | exact HS.out _ hX) (fun hHeld => ?_)
        clear hK K
        change wpAnyH _ _ _ _ _ _ _ { tmps := #[.int .i64 (i : Int), .agg #[.int .i64 k, .int .i64 p, .int .i64 (m : Int), .string (S nm), .string (S ty), .string (S ke), .int .i64 n], .pointer (some ⟨pb, 0, none⟩), undef, .pointer (some ⟨w.heap.size, 0, none⟩), .bool false, .agg #[.int .i64 k, .int .i64 p, .int .i64 (m : Int), .string (S nm), .string (S ty), .string (S ke), .int .i64 n], .bool true, .bool false, undef, undef, undef, .pointer (some ⟨pb, 1, none⟩), (.slice (some ⟨b', off, none⟩) P.nodes.length cap'), .pointer (some ⟨w.heap.size, 2, none⟩), .int .i64 (m : Int), .bool true, .bool true, .pointer (some ⟨pb, 1, none⟩), (.slice (some ⟨b', off, none⟩) P.nodes.length cap'), .pointer (some ⟨w.heap.size, 2, none⟩), .int .i64 (m : Int), .pointer (some ⟨b', off + m * 7, none⟩), .agg #[.int .i64 y0, .int .i64 y1, .int .i64 y2, .string (S y3), .string (S y4), .string (S y5), .int .i64 y6], .bool false, undef, undef, undef, undef, undef, undef, undef, undef, undef, undef, undef, undef, undef], defers := [] } _
        refine wpAnyH_take (i := 13) (v := ?_) rfl (by kernel_rfl) (by kernel_rfl) (by kernel_rfl) (fun _ _ _ h => h) (Or.inl ⟨by rfl, ?_⟩) (by assumption) ?_
        rotate_left 1
        · intro w hSw; (try dsimp only at hSw); go_simp; try with_reducible rfl
        refine wpAnyH_take (i := 14) (v := ?_) rfl (by kernel_rfl) (by kernel_rfl) (by kernel_rfl) (fun _ _ _ h => h) (Or.inl ⟨by rfl, ?_⟩) (by assumption) ?_
        rotate_left 1
        · intro w hSw; (try dsimp only at hSw); go_simp; try with_reducible rfl
        change wpAnyH _ _ _ _ _ _ _ { tmps := #[.int .i64 (i : Int), .agg #[.int .i64 k, .int .i64 p, .int .i64 (m : Int), .string (S nm), .string (S ty), .string (S ke), .int .i64 n], .pointer (some ⟨pb, 0, none⟩), undef, .pointer (some ⟨w.heap.size, 0, none⟩), .bool false, .agg #[.int .i64 k, .int .i64 p, .int .i64 (m : Int), .string (S nm), .string (S ty), .string (S ke), .int .i64 n], .bool true, .bool false, undef, undef, undef, .pointer (some ⟨pb, 1, none⟩), (.slice (some ⟨b', off, none⟩) P.nodes.length cap'), .pointer (some ⟨w.heap.size, 2, none⟩), .int .i64 (m : Int), .bool true, .bool true, .pointer (some ⟨pb, 1, none⟩), (.slice (some ⟨b', off, none⟩) P.nodes.length cap'), .pointer (some ⟨w.heap.size, 2, none⟩), .int .i64 (m : Int), .pointer (some ⟨b', off + m * 7, none⟩), .agg #[.int .i64 y0, .int .i64 y1, .int .i64 y2, .string (S y3), .string (S y4), .string (S y5), .int .i64 y6], .bool false, .bool false, .bool false, undef, undef, undef, undef, undef, undef, undef, undef, undef, undef, undef], defers := [] } _
        refine wpAnyH_take (i := 15) (v := undef) rfl (by kernel_rfl) (by kernel_rfl) (by kernel_rfl) (fun _ _ _ h => h) (Or.inr ⟨by rfl, rfl⟩) (by assumption) ?_
        refine wpAnyH_take (i := 16) (v := undef) rfl (by kernel_rfl) (by kernel_rfl) (by kernel_rfl) (fun _ _ _ h => h) (Or.inr ⟨by rfl, rfl⟩) (by assumption) ?_
        refine wpAnyH_take (i := 17) (v := undef) rfl (by kernel_rfl) (by kernel_rfl) (by kernel_rfl) (fun _ _ _ h => h) (Or.inr ⟨by rfl, rfl⟩) (by assumption) ?_
        change wpAnyH _ _ _ _ _ _ _ { tmps := #[.int .i64 (i : Int), .agg #[.int .i64 k, .int .i64 p, .int .i64 (m : Int), .string (S nm), .string (S ty), .string (S ke), .int .i64 n], .pointer (some ⟨pb, 0, none⟩), undef, .pointer (some ⟨w.heap.size, 0, none⟩), .bool false, .agg #[.int .i64 k, .int .i64 p, .int .i64 (m : Int), .string (S nm), .string (S ty), .string (S ke), .int .i64 n], .bool true, .bool false, undef, undef, undef, .pointer (some ⟨pb, 1, none⟩), (.slice (some ⟨b', off, none⟩) P.nodes.length cap'), .pointer (some ⟨w.heap.size, 2, none⟩), .int .i64 (m : Int), .bool true, .bool true, .pointer (some ⟨pb, 1, none⟩), (.slice (some ⟨b', off, none⟩) P.nodes.length cap'), .pointer (some ⟨w.heap.size, 2, none⟩), .int .i64 (m : Int), .pointer (some ⟨b', off + m * 7, none⟩), .agg #[.int .i64 y0, .int .i64 y1, .int .i64 y2, .string (S y3), .string (S y4), .string (S y5), .int .i64 y6], .bool false, .bool false, .bool false, undef, undef, undef, undef, undef, undef, undef, undef, undef, undef, undef], defers := [] } _
        refine wpAnyH_take (i := 18) (v := undef) rfl (by kernel_rfl) (by kernel_rfl) (by kernel_rfl) (fun _ _ _ h => h) (Or.inr ⟨by rfl, rfl⟩) (by assumption) ?_
        refine wpAnyH_take (i := 19) (v := undef) rfl (by kernel_rfl) (by kernel_rfl) (by kernel_rfl) (fun _ _ _ h => h) (Or.inr ⟨by rfl, rfl⟩) (by assumption) ?_
        refine wpAnyH_take (i := 20) (v := undef) rfl (by kernel_rfl) (by kernel_rfl) (by kernel_rfl) (fun _ _ _ h => h) (Or.inr ⟨by rfl, rfl⟩) (by assumption) ?_
        change wpAnyH _ _ _ _ _ _ _ { tmps := #[.int .i64 (i : Int), .agg #[.int .i64 k, .int .i64 p, .int .i64 (m : Int), .string (S nm), .string (S ty), .string (S ke), .int .i64 n], .pointer (some ⟨pb, 0, none⟩), undef, .pointer (some ⟨w.heap.size, 0, none⟩), .bool false, .agg #[.int .i64 k, .int .i64 p, .int .i64 (m : Int), .string (S nm), .string (S ty), .string (S ke), .int .i64 n], .bool true, .bool false, undef, undef, undef, .pointer (some ⟨pb, 1, none⟩), (.slice (some ⟨b', off, none⟩) P.nodes.length cap'), .pointer (some ⟨w.heap.size, 2, none⟩), .int .i64 (m : Int), .bool true, .bool true, .pointer (some ⟨pb, 1, none⟩), (.slice (some ⟨b', off, none⟩) P.nodes.length cap'), .pointer (some ⟨w.heap.size, 2, none⟩), .int .i64 (m : Int), .pointer (some ⟨b', off + m * 7, none⟩), .agg #[.int .i64 y0, .int .i64 y1, .int .i64 y2, .string (S y3), .string (S y4), .string (S y5), .int .i64 y6], .bool false, .bool false, .bool false, undef, undef, undef, undef, undef, undef, undef, undef, undef, undef, undef], defers := [] } _
        refine wpAnyH_take (i := 21) (v := undef) rfl (by kernel_rfl) (by kernel_rfl) (by kernel_rfl) (fun _ _ _ h => h) (Or.inr ⟨by rfl, rfl⟩) (by assumption) ?_
        refine wpAnyH_take (i := 22) (v := undef) rfl (by kernel_rfl) (by kernel_rfl) (by kernel_rfl) (fun _ _ _ h => h) (Or.inr ⟨by rfl, rfl⟩) (by assumption) ?_
        refine wpAnyH_take (i := 23) (v := undef) rfl (by kernel_rfl) (by kernel_rfl) (by kernel_rfl) (fun _ _ _ h => h) (Or.inr ⟨by rfl, rfl⟩) (by assumption) ?_
        refine wpAnyH_take (i := 24) (v := undef) rfl (by kernel_rfl) (by kernel_rfl) (by kernel_rfl) (fun _ _ _ h => h) (Or.inr ⟨by rfl, rfl⟩) (by assumption) ?_
        change wpAnyH _ _ _ _ _ _ _ { tmps := #[.int .i64 (i : Int), .agg #[.int .i64 k, .int .i64 p, .int .i64 (m : Int), .string (S nm), .string (S ty), .string (S ke), .int .i64 n], .pointer (some ⟨pb, 0, none⟩), undef, .pointer (some ⟨w.heap.size, 0, none⟩), .bool false, .agg #[.int .i64 k, .int .i64 p, .int .i64 (m : Int), .string (S nm), .string (S ty), .string (S ke), .int .i64 n], .bool true, .bool false, undef, undef, undef, .pointer (some ⟨pb, 1, none⟩), (.slice (some ⟨b', off, none⟩) P.nodes.length cap'), .pointer (some ⟨w.heap.size, 2, none⟩), .int .i64 (m : Int), .bool true, .bool true, .pointer (some ⟨pb, 1, none⟩), (.slice (some ⟨b', off, none⟩) P.nodes.length cap'), .pointer (some ⟨w.heap.size, 2, none⟩), .int .i64 (m : Int), .pointer (some ⟨b', off + m * 7, none⟩), .agg #[.int .i64 y0, .int .i64 y1, .int .i64 y2, .string (S y3), .string (S y4), .string (S y5), .int .i64 y6], .bool false, .bool false, .bool false, undef, undef, undef, undef, undef, undef, undef, undef, undef, undef, undef], defers := [] } _
        refine wpAnyH_take (i := 25) (v := ?_) rfl (by kernel_rfl) (by kernel_rfl) (by kernel_rfl) (fun _ _ _ h => h) (Or.inl ⟨by rfl, ?_⟩) (by assumption) ?_
        rotate_left 1
        · intro w hSw; (try dsimp only at hSw); go_simp; try with_reducible rfl
        refine wpAnyH_take (i := 26) (v := ?_) rfl (by kernel_rfl) (by kernel_rfl) (by kernel_rfl) (fun _ _ _ h => h) (Or.inl ⟨by rfl, ?_⟩) (by assumption) ?_
        rotate_left 1
        · intro w hSw; (try dsimp only at hSw); go_simp; try with_reducible rfl
        refine wpAnyH_done (by kernel_rfl) ?_ _
        go_wp2
        go_ret
        exact ⟨rfl, B3.out⟩
      | true =>
        simp only [Bool.true_and]
        go_enter Tryz.func64, Tryz.ntmps64
        go_wp2_with (go_at_call 65; refine CS.mono ?_; rintro e w1 ⟨rfl, hb1⟩; obtain ⟨hp, hn, hb2, hlt⟩ := HB.out w1 hb1; (have B2 : Hid (Below w.heap.size w w1) := hb2); obtain ⟨c0, c1, c2, c3, c4, c5, c6⟩ := hn; obtain ⟨b0, b1, b2, blt, -⟩ := hp; simp only at c0 c1 c2 c3 c4 c5 c6; clear hb1 hb2 CS HB)
        obtain ⟨d0, d1, d2, d3, d4, d5, d6⟩ := HCM.out w1 B2.out
        simp only at d0 d1 d2 d3 d4 d5 d6
        have hbl : b' < w1.heap.size := Nat.lt_of_lt_of_le hbl0 B2.out.size
        have HS : Hid (∀ W, Below w1.heap.size w1 W → W.cell? ⟨w.heap.size, 1, none⟩ = some (.int .i64 p) ∧ W.cell? ⟨w.heap.size, 2, none⟩ = some (.int .i64 (m : Int)) ∧ W.cell? ⟨pb, 1, none⟩ = some (.slice (some ⟨b', off, none⟩) P.nodes.length cap') ∧ W.cell? ⟨b', off + m * 7, none⟩ = some (.int .i64 y0) ∧ W.cell? ⟨b', off + m * 7 + 1, none⟩ = some (.int .i64 y1) ∧ W.cell? ⟨b', off + m * 7 + 2, none⟩ = some (.int .i64 y2) ∧ W.cell? ⟨b', off + m * 7 + 3, none⟩ = some (.string (S y3)) ∧ W.cell? ⟨b', off + m * 7 + 4, none⟩ = some (.string (S y4)) ∧ W.cell? ⟨b', off + m * 7 + 5, none⟩ = some (.string (S y5)) ∧ W.cell? ⟨b', off + m * 7 + 6, none⟩ = some (.int .i64 y6)) := fun W hW => ⟨(hW.cell (p := ⟨w.heap.size, 1, none⟩) hlt).trans c1, (hW.cell (p := ⟨w.heap.size, 2, none⟩) hlt).trans c2, (hW.cell (p := ⟨pb, 1, none⟩) blt).trans b1, (hW.cell (p := ⟨b', off + m * 7, none⟩) hbl).trans d0, (hW.cell (p := ⟨b', off + m * 7 + 1, none⟩) hbl).trans d1, (hW.cell (p := ⟨b', off + m * 7 + 2, none⟩) hbl).trans d2, (hW.cell (p := ⟨b', off + m * 7 + 3, none⟩) hbl).trans d3, (hW.cell (p := ⟨b', off + m * 7 + 4, none⟩) hbl).trans d4, (hW.cell (p := ⟨b', off + m * 7 + 5, none⟩) hbl).trans d5, (hW.cell (p := ⟨b', off + m * 7 + 6, none⟩) hbl).trans d6⟩
        have CV : ∀ W, Below w1.heap.size w1 W → Calls Tryz.prog 20 #[.agg #[.int .i64 y0, .int .i64 y1, .int .i64 y2, .string (S y3), .string (S y4), .string (S y5), .int .i64 y6]] W fun e w' => e = .returned (.bool _) ∧ Below w1.heap.size w1 w' := fun W hW => (CW W).mono fun e w' hh => ⟨hh.1, bel_of hW hh.2 (Nat.le_refl _)⟩
        clear CW HCM hbl hlt
        go_region_held3 (fun W => W.cell? ⟨w.heap.size, 1, none⟩ = some (.int .i64 p) ∧ W.cell? ⟨w.heap.size, 2, none⟩ = some (.int .i64 (m : Int)) ∧ W.cell? ⟨pb, 1, none⟩ = some (.slice (some ⟨b', off, none⟩) P.nodes.length cap') ∧ W.cell? ⟨b', off + m * 7, none⟩ = some (.int .i64 y0) ∧ W.cell? ⟨b', off + m * 7 + 1, none⟩ = some (.int .i64 y1) ∧ W.cell? ⟨b', off + m * 7 + 2, none⟩ = some (.int .i64 y2) ∧ W.cell? ⟨b', off + m * 7 + 3, none⟩ = some (.string (S y3)) ∧ W.cell? ⟨b', off + m * 7 + 4, none⟩ = some (.string (S y4)) ∧ W.cell? ⟨b', off + m * 7 + 5, none⟩ = some (.string (S y5)) ∧ W.cell? ⟨b', off + m * 7 + 6, none⟩ = some (.int .i64 y6))
          (first | go_keep | exact HS.out _ (Below.refl _ _) | exact HS.out _ hX)
          (first
            | (go_at_call 63; refine (CP _).mono ?_; rintro e u1 ⟨rfl, hu1⟩; rw [hu1]; clear hu1)
            | (go_at_call 20; refine (CV _ (by first | exact Below.refl _ _ | exact (Below.refl _ _).drew | exact below_drewN (Below.refl _ _) _)).mono ?_; rintro e u1 ⟨rfl, hX⟩; (have B3 : Hid (Below w.heap.size w u1) := bel_of B2.out hX (Nat.le_refl _))))
        all_goals
          go_wp2
          go_ret
          exact ⟨rfl, B3.out⟩

set_option maxHeartbeats 400000 in
theorem nr5_any (x : Nd) (i : Int) (w : World) (hz : Nz x) : Calls Tryz.prog 66 #[.int .i64 i, nA x] w fun e w' => e = .returned (.bool (if [(3 : Int), 6, 9].contains x.kind then namV x.typ else x.typ == [])) ∧ Below w.heap.size w w' := by
  obtain ⟨k, p, h, nm, ty, ke, n⟩ := x
  have hB1 : Below w.heap.size w (w.alloc (.cells #[.int .i64 k, .int .i64 p, .int .i64 h, .string (S nm), .string (S ty), .string (S ke), .int .i64 n] 32)) := (Below.refl _ w).alloc (Nat.le_refl _) _
  have CC := isOf_lit ⟨k, p, h, nm, ty, ke, n⟩ (w.alloc (.cells #[.int .i64 k, .int .i64 p, .int .i64 h, .string (S nm), .string (S ty), .string (S ke), .int .i64 n] 32)) (w.heap.size + 1) (by simp) [(3 : Int), 6, 9] (by decide) 3
  have HB : Hid (∀ w1, Below (w.alloc (.cells #[.int .i64 k, .int .i64 p, .int .i64 h, .string (S nm), .string (S ty), .string (S ke), .int .i64 n] 32)).heap.size (w.alloc (.cells #[.int .i64 k, .int .i64 p, .int .i64 h, .string (S nm), .string (S ty), .string (S ke), .int .i64 n] 32)) w1 → Nc w1 w.heap.size 0 ⟨k, p, h, nm, ty, ke, n⟩ ∧ Below w.heap.size w w1) := fun w1 h1 => ⟨(nc_new w k p h nm ty ke n).below h1 (by simp), bel_of hB1 h1 (Nat.le_refl _)⟩
  have CN := fun w => Named_any (S ty) (by rw [S_size]; have := hz.2.1; simp only at this; omega) w
  rw [S_data] at CN
  generalize namV ty = rn at *
  unfold nA at CC ⊢
  simp only [List.length_cons, List.length_nil, Nat.reduceAdd, List.map_cons, List.map_nil] at CC ⊢
  generalize [(3 : Int), 6, 9].contains k = r at *
  cases r with
  | false =>
    rw [if_neg (by simp)]
    clear CN
    have HQ : Hid ((S ty).toList.isEmpty = (ty == [])) := S_emp ty
    go_enter Tryz.func66, Tryz.ntmps66
    go_wp2_with (go_at_call 35; refine CC.mono ?_; rintro e w1 ⟨rfl, hb1⟩; obtain ⟨hn, hb2⟩ := HB.out w1 hb1; (have B2 : Hid (Below w.heap.size w w1) := hb2); obtain ⟨c0, c1, c2, c3, c4, c5, c6⟩ := hn; simp only at c0 c1 c2 c3 c4 c5 c6; clear hb1 hb2 CC)
    go_ret
    exact ⟨by rw [← HQ.out]; rfl, B2.out⟩
  | true =>
    rw [if_pos rfl]
    go_enter Tryz.func66, Tryz.ntmps66
    go_wp2_with (first
      | (go_at_call 35; refine CC.mono ?_; rintro e w1 ⟨rfl, hb1⟩; obtain ⟨hn, hb2⟩ := HB.out w1 hb1; (have B2 : Hid (Below w.heap.size w w1) := hb2); obtain ⟨c0, c1, c2, c3, c4, c5, c6⟩ := hn; simp only at c0 c1 c2 c3 c4 c5 c6; clear hb1 hb2 CC)
      | (go_at_call 31; refine (CN _).mono ?_; rintro e w2 ⟨rfl, hw2⟩; rw [hw2]; clear hw2 w2))
    go_ret
    exact ⟨rfl, B2.out⟩

set_option maxHeartbeats 400000 in
theorem nr6_any (x : Nd) (i : Int) (w : World) (hg : Gg w) : Calls Tryz.prog 67 #[.int .i64 i, nA x] w fun e w' => e = .returned (.bool (if [(6 : Int), 9].contains x.kind then prsB x.key else x.key == [])) ∧ Below w.heap.size w w' := by
  obtain ⟨k, p, h, nm, ty, ke, n⟩ := x
  have hB1 : Below w.heap.size w (w.alloc (.cells #[.int .i64 k, .int .i64 p, .int .i64 h, .string (S nm), .string (S ty), .string (S ke), .int .i64 n] 32)) := (Below.refl _ w).alloc (Nat.le_refl _) _
  have CC := isOf_lit ⟨k, p, h, nm, ty, ke, n⟩ (w.alloc (.cells #[.int .i64 k, .int .i64 p, .int .i64 h, .string (S nm), .string (S ty), .string (S ke), .int .i64 n] 32)) (w.heap.size + 1) (by simp) [(6 : Int), 9] (by decide) 3
  have HB : Hid (∀ w1, Below (w.alloc (.cells #[.int .i64 k, .int .i64 p, .int .i64 h, .string (S nm), .string (S ty), .string (S ke), .int .i64 n] 32)).heap.size (w.alloc (.cells #[.int .i64 k, .int .i64 p, .int .i64 h, .string (S nm), .string (S ty), .string (S ke), .int .i64 n] 32)) w1 → Nc w1 w.heap.size 0 ⟨k, p, h, nm, ty, ke, n⟩ ∧ Below w.heap.size w w1) := fun w1 h1 => ⟨(nc_new w k p h nm ty ke n).below h1 (by simp), bel_of hB1 h1 (Nat.le_refl _)⟩
  have CN : Hid (∀ W, Below w.heap.size w W → Calls Tryz.prog 68 #[.string (S ke)] W fun e w' => e = .returned (.bool (prsB ke)) ∧ Below w.heap.size w w') := fun W hW => (parses_any ke (hg.up hW)).mono fun e w' hh => ⟨hh.1, bel_of hW hh.2 (Nat.le_refl _)⟩
  generalize prsB ke = rn at *
  unfold nA at CC ⊢
  simp only [List.length_cons, List.length_nil, Nat.reduceAdd, List.map_cons, List.map_nil] at CC ⊢
  generalize [(6 : Int), 9].contains k = r at *
  cases r with
  | false =>
    rw [if_neg (by simp)]
    clear CN
    have HQ : Hid ((S ke).toList.isEmpty = (ke == [])) := S_emp ke
    go_enter Tryz.func67, Tryz.ntmps67
    go_wp2_with (go_at_call 35; refine CC.mono ?_; rintro e w1 ⟨rfl, hb1⟩; obtain ⟨hn, hb2⟩ := HB.out w1 hb1; (have B2 : Hid (Below w.heap.size w w1) := hb2); obtain ⟨c0, c1, c2, c3, c4, c5, c6⟩ := hn; simp only at c0 c1 c2 c3 c4 c5 c6; clear hb1 hb2 CC)
    go_ret
    exact ⟨by rw [← HQ.out]; rfl, B2.out⟩
  | true =>
    rw [if_pos rfl]
    go_enter Tryz.func67, Tryz.ntmps67
    go_wp2_with (first
      | (go_at_call 35; refine CC.mono ?_; rintro e w1 ⟨rfl, hb1⟩; obtain ⟨hn, hb2⟩ := HB.out w1 hb1; (have B2 : Hid (Below w.heap.size w w1) := hb2); obtain ⟨c0, c1, c2, c3, c4, c5, c6⟩ := hn; simp only at c0 c1 c2 c3 c4 c5 c6; clear hb1 hb2 CC)
      | (go_at_call 68; refine (CN.out w1 B2.out).mono ?_; rintro e w2 ⟨rfl, hw2⟩; (have B3 : Hid (Below w.heap.size w w2) := hw2); clear hw2))
    go_ret
    exact ⟨rfl, B3.out⟩

set_option maxRecDepth 100000 in
set_option maxHeartbeats 400000 in
theorem nr7_any {x : Nd} (i : Int) {w : World} (hz : Nz x) {eb mb : Nat} (he : w.cell? ⟨eb, 0, none⟩ = some (.map (some mb))) (hlt : eb < w.heap.size) (hm : Bn w mb) (hml : mb < w.heap.size) : Calls Tryz.prog 69 #[.int .i64 i, nA x, .pointer (some ⟨eb, 0, none⟩)] w fun e w' => e = .returned (.bool (decide ((bnd x.kind).1 ≤ x.n) && decide (x.n ≤ (bnd x.kind).2))) ∧ Below w.heap.size w w' := by
  obtain ⟨k, p, h, nm, ty, ke, n⟩ := x
  have hB1 : Below w.heap.size w (w.alloc (.cells #[.int .i64 k, .int .i64 p, .int .i64 h, .string (S nm), .string (S ty), .string (S ke), .int .i64 n] 32)) := (Below.refl _ w).alloc (Nat.le_refl _) _
  have B1 : Hid (Below w.heap.size w (w.alloc (.cells #[.int .i64 k, .int .i64 p, .int .i64 h, .string (S nm), .string (S ty), .string (S ke), .int .i64 n] 32))) := hB1
  have hlk := (hm.up hB1 hml).look hz.2.2.2.1
  have he1 := (hB1.cell (p := ⟨eb, 0, none⟩) hlt).trans he
  unfold nA
  simp only at hlk ⊢
  generalize (bnd k).1 = lo at *
  generalize (bnd k).2 = hi at *
  have hx0 : ∀ W : World, (Instr.index 94 (.agg #[.int .i64 lo, .int .i64 hi]) (.int .i64 0)).run Tryz.prog W = .ok (.int .i64 lo) W := fun W => by kernel_rfl
  have hx1 : ∀ W : World, (Instr.index 94 (.agg #[.int .i64 lo, .int .i64 hi]) (.int .i64 1)).run Tryz.prog W = .ok (.int .i64 hi) W := fun W => by kernel_rfl
  clear hB1 hm hz
  by_cases h1 : lo ≤ n
  · by_cases h2 : n ≤ hi
    · go_enter Tryz.func69, Tryz.ntmps69
      go_wp2
      go_ret
      exact ⟨by simp [h1, h2], B1.out⟩
    · go_enter Tryz.func69, Tryz.ntmps69
      go_wp2
      go_ret
      exact ⟨by simp [h2], B1.out⟩
  · go_enter Tryz.func69, Tryz.ntmps69
    go_wp2
    go_ret
    exact ⟨by simp; omega, B1.out⟩
end Go.Proofs.YtlmdoiagjepmbaaGreatDoor.m11

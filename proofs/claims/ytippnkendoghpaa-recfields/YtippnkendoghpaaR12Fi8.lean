/-
  Package rec's fits: a text is too long.
-/
import Derived.Test.YtippnkendoghpaaR12Fit
namespace Go.Proofs.Ytippnkendoghpaa.r12
open Go.RowKit Go.Shelf Go.Sort
open Go.Lib hiding intOf

set_option maxHeartbeats 8000000 in
set_option maxRecDepth 100000 in
theorem fits_f8 (cl kd tm n m : Int) (fr k1 k2 k3 : Nat) (sa sb sc : ByteArray) (va : Option Addr) (vl vc : Nat) (h1 : 1 ≤ kd) (h2 : kd ≤ lk cl) (h3 : fr = 0 ↔ cl = 1) (h4 : 0 ≤ tm) (h5 : tm ≤ 1099511627776) (h6 : (sa.size : Int) ≤ (if cl = 1 ∧ kd = 1 then 8192 else 32 : Int)) (h7 : (sb.size : Int) ≤ (if cl = 2 ∧ kd = 1 then 8192 else 1024 : Int)) (h : ¬ (sc.size : Int) ≤ 32) (w : World) : Calls Try.prog 17 #[.agg #[.int .i64 cl, .int .i64 kd, .int .u64 (fr : Int), .int .i64 tm, .int .u64 (k1 : Int), .int .u64 (k2 : Int), .int .u64 (k3 : Int), .int .i64 n, .int .i64 m, .string sa, .string sb, .string sc, .slice va vl vc]] w fun e w' => e = .returned (.bool false) ∧ Below w.heap.size w w' := by
  have d1 : decide (1 ≤ kd) = true := decide_eq_true (by omega)
  have d2 : decide (kd ≤ lk cl) = true := decide_eq_true (by omega)
  have d3 : ((fr : Int) == 0) = (cl == 1) := by
    by_cases e : cl = 1
    · subst e; simp; omega
    · rw [beq_eq_false_iff_ne.2 e]; simp; omega
  obtain ⟨p, hp⟩ : ∃ p, (cl == 1) = p := ⟨_, rfl⟩
  rw [hp] at d3
  have d4 : decide (0 ≤ tm) = true := decide_eq_true (by omega)
  have d5 : decide (tm ≤ 1099511627776) = true := decide_eq_true (by omega)
  have d6 : decide ((sa.size : Int) ≤ (if cl = 1 ∧ kd = 1 then 8192 else 32 : Int)) = true := decide_eq_true h6
  have d7 : decide ((sb.size : Int) ≤ (if cl = 2 ∧ kd = 1 then 8192 else 1024 : Int)) = true := decide_eq_true h7
  have d8 : decide ((sc.size : Int) ≤ 32) = false := decide_eq_false h
  have d9 : decide (sc.size ≤ 32) = false := decide_eq_false (by omega)
  have hbs : w.heap.size < (w.alloc (.cells #[.int .i64 cl, .int .i64 kd, .int .u64 (fr : Int), .int .i64 tm, .int .u64 (k1 : Int), .int .u64 (k2 : Int), .int .u64 (k3 : Int), .int .i64 n, .int .i64 m, .string sa, .string sb, .string sc, .slice va vl vc] 25)).heap.size := by simp
  have HS : Hid (∀ W, Below (w.alloc (.cells #[.int .i64 cl, .int .i64 kd, .int .u64 (fr : Int), .int .i64 tm, .int .u64 (k1 : Int), .int .u64 (k2 : Int), .int .u64 (k3 : Int), .int .i64 n, .int .i64 m, .string sa, .string sb, .string sc, .slice va vl vc] 25)).heap.size (w.alloc (.cells #[.int .i64 cl, .int .i64 kd, .int .u64 (fr : Int), .int .i64 tm, .int .u64 (k1 : Int), .int .u64 (k2 : Int), .int .u64 (k3 : Int), .int .i64 n, .int .i64 m, .string sa, .string sb, .string sc, .slice va vl vc] 25)) W → W.cell? ⟨w.heap.size, 0, none⟩ = some (.int .i64 cl) ∧ W.cell? ⟨w.heap.size, 1, none⟩ = some (.int .i64 kd) ∧ W.cell? ⟨w.heap.size, 2, none⟩ = some (.int .u64 (fr : Int)) ∧ W.cell? ⟨w.heap.size, 3, none⟩ = some (.int .i64 tm) ∧ W.cell? ⟨w.heap.size, 4, none⟩ = some (.int .u64 (k1 : Int)) ∧ W.cell? ⟨w.heap.size, 5, none⟩ = some (.int .u64 (k2 : Int)) ∧ W.cell? ⟨w.heap.size, 6, none⟩ = some (.int .u64 (k3 : Int)) ∧ W.cell? ⟨w.heap.size, 7, none⟩ = some (.int .i64 n) ∧ W.cell? ⟨w.heap.size, 8, none⟩ = some (.int .i64 m) ∧ W.cell? ⟨w.heap.size, 9, none⟩ = some (.string sa) ∧ W.cell? ⟨w.heap.size, 10, none⟩ = some (.string sb) ∧ W.cell? ⟨w.heap.size, 11, none⟩ = some (.string sc) ∧ W.cell? ⟨w.heap.size, 12, none⟩ = some (.slice va vl vc)) := fun W hW => ⟨(hW.cell (p := ⟨w.heap.size, 0, none⟩) hbs).trans (World.cell?_alloc_new _ _ _ _), (hW.cell (p := ⟨w.heap.size, 1, none⟩) hbs).trans (World.cell?_alloc_new _ _ _ _), (hW.cell (p := ⟨w.heap.size, 2, none⟩) hbs).trans (World.cell?_alloc_new _ _ _ _), (hW.cell (p := ⟨w.heap.size, 3, none⟩) hbs).trans (World.cell?_alloc_new _ _ _ _), (hW.cell (p := ⟨w.heap.size, 4, none⟩) hbs).trans (World.cell?_alloc_new _ _ _ _), (hW.cell (p := ⟨w.heap.size, 5, none⟩) hbs).trans (World.cell?_alloc_new _ _ _ _), (hW.cell (p := ⟨w.heap.size, 6, none⟩) hbs).trans (World.cell?_alloc_new _ _ _ _), (hW.cell (p := ⟨w.heap.size, 7, none⟩) hbs).trans (World.cell?_alloc_new _ _ _ _), (hW.cell (p := ⟨w.heap.size, 8, none⟩) hbs).trans (World.cell?_alloc_new _ _ _ _), (hW.cell (p := ⟨w.heap.size, 9, none⟩) hbs).trans (World.cell?_alloc_new _ _ _ _), (hW.cell (p := ⟨w.heap.size, 10, none⟩) hbs).trans (World.cell?_alloc_new _ _ _ _), (hW.cell (p := ⟨w.heap.size, 11, none⟩) hbs).trans (World.cell?_alloc_new _ _ _ _), (hW.cell (p := ⟨w.heap.size, 12, none⟩) hbs).trans (World.cell?_alloc_new _ _ _ _)⟩
  have B1 : Hid (Below w.heap.size w (w.alloc (.cells #[.int .i64 cl, .int .i64 kd, .int .u64 (fr : Int), .int .i64 tm, .int .u64 (k1 : Int), .int .u64 (k2 : Int), .int .u64 (k3 : Int), .int .i64 n, .int .i64 m, .string sa, .string sb, .string sc, .slice va vl vc] 25))) := (Below.refl _ w).alloc (Nat.le_refl _) _
  have CL : ∀ W, Below (w.alloc (.cells #[.int .i64 cl, .int .i64 kd, .int .u64 (fr : Int), .int .i64 tm, .int .u64 (k1 : Int), .int .u64 (k2 : Int), .int .u64 (k3 : Int), .int .i64 n, .int .i64 m, .string sa, .string sb, .string sc, .slice va vl vc] 25)).heap.size (w.alloc (.cells #[.int .i64 cl, .int .i64 kd, .int .u64 (fr : Int), .int .i64 tm, .int .u64 (k1 : Int), .int .u64 (k2 : Int), .int .u64 (k3 : Int), .int .i64 n, .int .i64 m, .string sa, .string sb, .string sc, .slice va vl vc] 25)) W → Calls Try.prog 33 #[.int .i64 cl] W fun e w' => e = .returned (.int .i64 (lk cl)) ∧ Below (w.alloc (.cells #[.int .i64 cl, .int .i64 kd, .int .u64 (fr : Int), .int .i64 tm, .int .u64 (k1 : Int), .int .u64 (k2 : Int), .int .u64 (k3 : Int), .int .i64 n, .int .i64 m, .string sa, .string sb, .string sc, .slice va vl vc] 25)).heap.size (w.alloc (.cells #[.int .i64 cl, .int .i64 kd, .int .u64 (fr : Int), .int .i64 tm, .int .u64 (k1 : Int), .int .u64 (k2 : Int), .int .u64 (k3 : Int), .int .i64 n, .int .i64 m, .string sa, .string sb, .string sc, .slice va vl vc] 25)) w' := fun W hW => (lastKind_any cl W).mono fun e w' hh => ⟨hh.1, hh.2 ▸ hW⟩
  have CA : ∀ W, Below (w.alloc (.cells #[.int .i64 cl, .int .i64 kd, .int .u64 (fr : Int), .int .i64 tm, .int .u64 (k1 : Int), .int .u64 (k2 : Int), .int .u64 (k3 : Int), .int .i64 n, .int .i64 m, .string sa, .string sb, .string sc, .slice va vl vc] 25)).heap.size (w.alloc (.cells #[.int .i64 cl, .int .i64 kd, .int .u64 (fr : Int), .int .i64 tm, .int .u64 (k1 : Int), .int .u64 (k2 : Int), .int .u64 (k3 : Int), .int .i64 n, .int .i64 m, .string sa, .string sb, .string sc, .slice va vl vc] 25)) W → Calls Try.prog 34 #[.agg #[.int .i64 cl, .int .i64 kd, .int .u64 (fr : Int), .int .i64 tm, .int .u64 (k1 : Int), .int .u64 (k2 : Int), .int .u64 (k3 : Int), .int .i64 n, .int .i64 m, .string sa, .string sb, .string sc, .slice va vl vc]] W fun e w' => e = .returned (.int .i64 (if cl = 1 ∧ kd = 1 then 8192 else 32)) ∧ Below (w.alloc (.cells #[.int .i64 cl, .int .i64 kd, .int .u64 (fr : Int), .int .i64 tm, .int .u64 (k1 : Int), .int .u64 (k2 : Int), .int .u64 (k3 : Int), .int .i64 n, .int .i64 m, .string sa, .string sb, .string sc, .slice va vl vc] 25)).heap.size (w.alloc (.cells #[.int .i64 cl, .int .i64 kd, .int .u64 (fr : Int), .int .i64 tm, .int .u64 (k1 : Int), .int .u64 (k2 : Int), .int .u64 (k3 : Int), .int .i64 n, .int .i64 m, .string sa, .string sb, .string sc, .slice va vl vc] 25)) w' := fun W hW => (mostA_any cl kd tm n m fr k1 k2 k3 sa sb sc va vl vc W).mono fun e w' hh => ⟨hh.1, bel_of hW hh.2 (Nat.le_refl _)⟩
  have CB : ∀ W, Below (w.alloc (.cells #[.int .i64 cl, .int .i64 kd, .int .u64 (fr : Int), .int .i64 tm, .int .u64 (k1 : Int), .int .u64 (k2 : Int), .int .u64 (k3 : Int), .int .i64 n, .int .i64 m, .string sa, .string sb, .string sc, .slice va vl vc] 25)).heap.size (w.alloc (.cells #[.int .i64 cl, .int .i64 kd, .int .u64 (fr : Int), .int .i64 tm, .int .u64 (k1 : Int), .int .u64 (k2 : Int), .int .u64 (k3 : Int), .int .i64 n, .int .i64 m, .string sa, .string sb, .string sc, .slice va vl vc] 25)) W → Calls Try.prog 35 #[.agg #[.int .i64 cl, .int .i64 kd, .int .u64 (fr : Int), .int .i64 tm, .int .u64 (k1 : Int), .int .u64 (k2 : Int), .int .u64 (k3 : Int), .int .i64 n, .int .i64 m, .string sa, .string sb, .string sc, .slice va vl vc]] W fun e w' => e = .returned (.int .i64 (if cl = 2 ∧ kd = 1 then 8192 else 1024)) ∧ Below (w.alloc (.cells #[.int .i64 cl, .int .i64 kd, .int .u64 (fr : Int), .int .i64 tm, .int .u64 (k1 : Int), .int .u64 (k2 : Int), .int .u64 (k3 : Int), .int .i64 n, .int .i64 m, .string sa, .string sb, .string sc, .slice va vl vc] 25)).heap.size (w.alloc (.cells #[.int .i64 cl, .int .i64 kd, .int .u64 (fr : Int), .int .i64 tm, .int .u64 (k1 : Int), .int .u64 (k2 : Int), .int .u64 (k3 : Int), .int .i64 n, .int .i64 m, .string sa, .string sb, .string sc, .slice va vl vc] 25)) w' := fun W hW => (mostB_any cl kd tm n m fr k1 k2 k3 sa sb sc va vl vc W).mono fun e w' hh => ⟨hh.1, bel_of hW hh.2 (Nat.le_refl _)⟩
  clear h1 h2 h3 h4 h5 h6 h7 h
  generalize lk cl = q at *
  generalize (if cl = 1 ∧ kd = 1 then 8192 else 32 : Int) = ma at *
  generalize (if cl = 2 ∧ kd = 1 then 8192 else 1024 : Int) = mb at *
  obtain ⟨c0, c1, c2, c3, c4, c5, c6, c7, c8, c9, c10, c11, c12⟩ := HS.out _ (Below.refl _ _)
  go_enter Try.func17, Try.ntmps17
  go_wp2
  generalize (w.alloc (.cells #[.int .i64 cl, .int .i64 kd, .int .u64 (fr : Int), .int .i64 tm, .int .u64 (k1 : Int), .int .u64 (k2 : Int), .int .u64 (k3 : Int), .int .i64 n, .int .i64 m, .string sa, .string sb, .string sc, .slice va vl vc] 25)) = W1 at *
  refine wp_region_held_drew (S := (fun W => W.cell? ⟨w.heap.size, 0, none⟩ = some (.int .i64 cl) ∧ W.cell? ⟨w.heap.size, 1, none⟩ = some (.int .i64 kd) ∧ W.cell? ⟨w.heap.size, 2, none⟩ = some (.int .u64 (fr : Int)) ∧ W.cell? ⟨w.heap.size, 3, none⟩ = some (.int .i64 tm) ∧ W.cell? ⟨w.heap.size, 4, none⟩ = some (.int .u64 (k1 : Int)) ∧ W.cell? ⟨w.heap.size, 5, none⟩ = some (.int .u64 (k2 : Int)) ∧ W.cell? ⟨w.heap.size, 6, none⟩ = some (.int .u64 (k3 : Int)) ∧ W.cell? ⟨w.heap.size, 7, none⟩ = some (.int .i64 n) ∧ W.cell? ⟨w.heap.size, 8, none⟩ = some (.int .i64 m) ∧ W.cell? ⟨w.heap.size, 9, none⟩ = some (.string sa) ∧ W.cell? ⟨w.heap.size, 10, none⟩ = some (.string sb) ∧ W.cell? ⟨w.heap.size, 11, none⟩ = some (.string sc) ∧ W.cell? ⟨w.heap.size, 12, none⟩ = some (.slice va vl vc))) (by kernel_rfl) (by first | go_keep | exact HS.out _ (Below.refl _ _) | exact HS.out _ (Below.refl _ _).drew | exact HS.out _ hX) (fun hHeld => ?_)
  refine wpAnyH_take (i := 0) (v := ?_) rfl (by kernel_rfl) (by kernel_rfl) (by kernel_rfl) (fun _ _ _ h => h) (Or.inl ⟨by rfl, ?_⟩) (by assumption) ?_
  rotate_left 1
  · intro w hSw; (try dsimp only at hSw); go_simp; try with_reducible rfl
  refine wpAnyH_take (i := 1) (v := ?_) rfl (by kernel_rfl) (by kernel_rfl) (by kernel_rfl) (fun _ _ _ h => h) (Or.inl ⟨by rfl, ?_⟩) (by assumption) ?_
  rotate_left 1
  · intro w hSw; (try dsimp only at hSw); go_simp; try with_reducible rfl
  refine wpAnyH_take (i := 2) (v := ?_) rfl (by kernel_rfl) (by kernel_rfl) (by kernel_rfl) (fun _ _ _ h => h) (Or.inl ⟨by rfl, ?_⟩) (by assumption) ?_
  rotate_left 1
  · intro w hSw; (try dsimp only at hSw); go_simp; try with_reducible rfl
  refine wpAnyH_take (i := 3) (v := ?_) rfl (by kernel_rfl) (by kernel_rfl) (by kernel_rfl) (fun _ _ _ h => h) (Or.inl ⟨by rfl, ?_⟩) (by assumption) ?_
  rotate_left 1
  · intro w hSw; (try dsimp only at hSw); go_simp; try with_reducible rfl
  change wpAnyH _ _ _ _ _ _ _ { tmps := #[.agg #[.int .i64 cl, .int .i64 kd, .int .u64 (fr : Int), .int .i64 tm, .int .u64 (k1 : Int), .int .u64 (k2 : Int), .int .u64 (k3 : Int), .int .i64 n, .int .i64 m, .string sa, .string sb, .string sc, .slice va vl vc], .pointer (some ⟨w.heap.size, 0, none⟩), .bool false, .pointer (some ⟨w.heap.size, 1, none⟩), .int .i64 kd, .bool true, .bool true, undef, undef, undef, undef, undef, undef, undef, undef, undef, undef, undef, undef, undef, undef, undef, undef, undef, undef, undef, undef, undef, undef, undef, undef, undef, undef, undef, undef, undef, undef, undef, undef, undef, undef, undef, undef, undef, undef, undef, undef, undef, undef, undef, undef, undef, undef, undef, undef, undef, undef, undef, undef, undef], defers := [] } _
  refine wpAnyH_take (i := 4) (v := ?_) rfl (by kernel_rfl) (by kernel_rfl) (by kernel_rfl) (fun _ _ _ h => h) (Or.inl ⟨by rfl, ?_⟩) (by assumption) ?_
  rotate_left 1
  · intro w hSw; (try dsimp only at hSw); go_simp; try with_reducible rfl
  refine wpAnyH_take (i := 5) (v := ?_) rfl (by kernel_rfl) (by kernel_rfl) (by kernel_rfl) (fun _ _ _ h => h) (Or.inl ⟨by rfl, ?_⟩) (by assumption) ?_
  rotate_left 1
  · intro w hSw; (try dsimp only at hSw); go_simp; try with_reducible rfl
  refine wpAnyH_take (i := 6) (v := ?_) rfl (by kernel_rfl) (by kernel_rfl) (by kernel_rfl) (fun _ _ _ h => h) (Or.inl ⟨by rfl, ?_⟩) (by assumption) ?_
  rotate_left 1
  · intro w hSw; (try dsimp only at hSw); go_simp; try with_reducible rfl
  refine wpAnyH_take (i := 7) (v := ?_) rfl (by kernel_rfl) (by kernel_rfl) (by kernel_rfl) (fun _ _ _ h => h) (Or.inl ⟨by rfl, ?_⟩) (by assumption) ?_
  rotate_left 1
  · intro w hSw; (try dsimp only at hSw); go_simp; try with_reducible rfl
  change wpAnyH _ _ _ _ _ _ _ { tmps := #[.agg #[.int .i64 cl, .int .i64 kd, .int .u64 (fr : Int), .int .i64 tm, .int .u64 (k1 : Int), .int .u64 (k2 : Int), .int .u64 (k3 : Int), .int .i64 n, .int .i64 m, .string sa, .string sb, .string sc, .slice va vl vc], .pointer (some ⟨w.heap.size, 0, none⟩), .bool false, .pointer (some ⟨w.heap.size, 1, none⟩), .int .i64 kd, .bool true, .bool true, .pointer (some ⟨w.heap.size, 1, none⟩), .int .i64 kd, .pointer (some ⟨w.heap.size, 0, none⟩), .int .i64 cl, undef, undef, undef, undef, undef, undef, undef, undef, undef, undef, undef, undef, undef, undef, undef, undef, undef, undef, undef, undef, undef, undef, undef, undef, undef, undef, undef, undef, undef, undef, undef, undef, undef, undef, undef, undef, undef, undef, undef, undef, undef, undef, undef, undef, undef, undef, undef, undef, undef], defers := [] } _
  change wpAnyH _ _ _ _ _ _ _ { tmps := #[.agg #[.int .i64 cl, .int .i64 kd, .int .u64 (fr : Int), .int .i64 tm, .int .u64 (k1 : Int), .int .u64 (k2 : Int), .int .u64 (k3 : Int), .int .i64 n, .int .i64 m, .string sa, .string sb, .string sc, .slice va vl vc], .pointer (some ⟨w.heap.size, 0, none⟩), .bool false, .pointer (some ⟨w.heap.size, 1, none⟩), .int .i64 kd, .bool true, .bool true, .pointer (some ⟨w.heap.size, 1, none⟩), .int .i64 kd, .pointer (some ⟨w.heap.size, 0, none⟩), .int .i64 cl, undef, undef, undef, undef, undef, undef, undef, undef, undef, undef, undef, undef, undef, undef, undef, undef, undef, undef, undef, undef, undef, undef, undef, undef, undef, undef, undef, undef, undef, undef, undef, undef, undef, undef, undef, undef, undef, undef, undef, undef, undef, undef, undef, undef, undef, undef, undef, undef, undef], defers := [] } _
  refine wpAnyH_ready (rs := [8]) (by kernel_rfl) (by simp) ?_
  refine AllReadyH.cons rfl (fun K hK => ?_) AllReadyH.nil
  go_simp
  (go_at_call 33; refine (CL _ (by first | exact Below.refl _ _ | exact (Below.refl _ _).drew | exact hX | exact hX.drew | exact below_drewN (Below.refl _ _) _)).mono ?_; rintro e u1 ⟨rfl, hX⟩; clear CL; go_wp2_with fail)
  refine hK.out _ _ (by first | go_keep | exact HS.out _ (Below.refl _ _) | exact HS.out _ (Below.refl _ _).drew | exact HS.out _ hX) (fun hHeld => ?_)
  clear hK K
  change wpAnyH _ _ _ _ _ _ _ { tmps := #[.agg #[.int .i64 cl, .int .i64 kd, .int .u64 (fr : Int), .int .i64 tm, .int .u64 (k1 : Int), .int .u64 (k2 : Int), .int .u64 (k3 : Int), .int .i64 n, .int .i64 m, .string sa, .string sb, .string sc, .slice va vl vc], .pointer (some ⟨w.heap.size, 0, none⟩), .bool false, .pointer (some ⟨w.heap.size, 1, none⟩), .int .i64 kd, .bool true, .bool true, .pointer (some ⟨w.heap.size, 1, none⟩), .int .i64 kd, .pointer (some ⟨w.heap.size, 0, none⟩), .int .i64 cl, .int .i64 q, undef, undef, undef, undef, undef, undef, undef, undef, undef, undef, undef, undef, undef, undef, undef, undef, undef, undef, undef, undef, undef, undef, undef, undef, undef, undef, undef, undef, undef, undef, undef, undef, undef, undef, undef, undef, undef, undef, undef, undef, undef, undef, undef, undef, undef, undef, undef, undef], defers := [] } _
  refine wpAnyH_take (i := 9) (v := ?_) rfl (by kernel_rfl) (by kernel_rfl) (by kernel_rfl) (fun _ _ _ h => h) (Or.inl ⟨by rfl, ?_⟩) (by assumption) ?_
  rotate_left 1
  · intro w hSw; (try dsimp only at hSw); go_simp; try with_reducible rfl
  refine wpAnyH_take (i := 10) (v := ?_) rfl (by kernel_rfl) (by kernel_rfl) (by kernel_rfl) (fun _ _ _ h => h) (Or.inl ⟨by rfl, ?_⟩) (by assumption) ?_
  rotate_left 1
  · intro w hSw; (try dsimp only at hSw); go_simp; try with_reducible rfl
  refine wpAnyH_take (i := 11) (v := ?_) rfl (by kernel_rfl) (by kernel_rfl) (by kernel_rfl) (fun _ _ _ h => h) (Or.inl ⟨by rfl, ?_⟩) (by assumption) ?_
  rotate_left 1
  · intro w hSw; (try dsimp only at hSw); go_simp; try with_reducible rfl
  refine wpAnyH_take (i := 12) (v := ?_) rfl (by kernel_rfl) (by kernel_rfl) (by kernel_rfl) (fun _ _ _ h => h) (Or.inl ⟨by rfl, ?_⟩) (by assumption) ?_
  rotate_left 1
  · intro w hSw; (try dsimp only at hSw); go_simp; try with_reducible rfl
  change wpAnyH _ _ _ _ _ _ _ { tmps := #[.agg #[.int .i64 cl, .int .i64 kd, .int .u64 (fr : Int), .int .i64 tm, .int .u64 (k1 : Int), .int .u64 (k2 : Int), .int .u64 (k3 : Int), .int .i64 n, .int .i64 m, .string sa, .string sb, .string sc, .slice va vl vc], .pointer (some ⟨w.heap.size, 0, none⟩), .bool false, .pointer (some ⟨w.heap.size, 1, none⟩), .int .i64 kd, .bool true, .bool true, .pointer (some ⟨w.heap.size, 1, none⟩), .int .i64 kd, .pointer (some ⟨w.heap.size, 0, none⟩), .int .i64 cl, .int .i64 q, .bool true, .bool true, .bool true, .pointer (some ⟨w.heap.size, 2, none⟩), undef, undef, undef, undef, undef, undef, undef, undef, undef, undef, undef, undef, undef, undef, undef, undef, undef, undef, undef, undef, undef, undef, undef, undef, undef, undef, undef, undef, undef, undef, undef, undef, undef, undef, undef, undef, undef, undef, undef, undef, undef, undef, undef, undef], defers := [] } _
  refine wpAnyH_take (i := 13) (v := ?_) rfl (by kernel_rfl) (by kernel_rfl) (by kernel_rfl) (fun _ _ _ h => h) (Or.inl ⟨by rfl, ?_⟩) (by assumption) ?_
  rotate_left 1
  · intro w hSw; (try dsimp only at hSw); go_simp; try with_reducible rfl
  refine wpAnyH_take (i := 14) (v := ?_) rfl (by kernel_rfl) (by kernel_rfl) (by kernel_rfl) (fun _ _ _ h => h) (Or.inl ⟨by rfl, ?_⟩) (by assumption) ?_
  rotate_left 1
  · intro w hSw; (try dsimp only at hSw); go_simp; try with_reducible rfl
  refine wpAnyH_take (i := 15) (v := ?_) rfl (by kernel_rfl) (by kernel_rfl) (by kernel_rfl) (fun _ _ _ h => h) (Or.inl ⟨by rfl, ?_⟩) (by assumption) ?_
  rotate_left 1
  · intro w hSw; (try dsimp only at hSw); go_simp; try with_reducible rfl
  refine wpAnyH_take (i := 16) (v := ?_) rfl (by kernel_rfl) (by kernel_rfl) (by kernel_rfl) (fun _ _ _ h => h) (Or.inl ⟨by rfl, ?_⟩) (by assumption) ?_
  rotate_left 1
  · intro w hSw; (try dsimp only at hSw); go_simp; try with_reducible rfl
  change wpAnyH _ _ _ _ _ _ _ { tmps := #[.agg #[.int .i64 cl, .int .i64 kd, .int .u64 (fr : Int), .int .i64 tm, .int .u64 (k1 : Int), .int .u64 (k2 : Int), .int .u64 (k3 : Int), .int .i64 n, .int .i64 m, .string sa, .string sb, .string sc, .slice va vl vc], .pointer (some ⟨w.heap.size, 0, none⟩), .bool false, .pointer (some ⟨w.heap.size, 1, none⟩), .int .i64 kd, .bool true, .bool true, .pointer (some ⟨w.heap.size, 1, none⟩), .int .i64 kd, .pointer (some ⟨w.heap.size, 0, none⟩), .int .i64 cl, .int .i64 q, .bool true, .bool true, .bool true, .pointer (some ⟨w.heap.size, 2, none⟩), .int .u64 (fr : Int), .bool p, .pointer (some ⟨w.heap.size, 0, none⟩), .int .i64 cl, undef, undef, undef, undef, undef, undef, undef, undef, undef, undef, undef, undef, undef, undef, undef, undef, undef, undef, undef, undef, undef, undef, undef, undef, undef, undef, undef, undef, undef, undef, undef, undef, undef, undef, undef, undef, undef, undef, undef, undef], defers := [] } _
  refine wpAnyH_take (i := 17) (v := ?_) rfl (by kernel_rfl) (by kernel_rfl) (by kernel_rfl) (fun _ _ _ h => h) (Or.inl ⟨by rfl, ?_⟩) (by assumption) ?_
  rotate_left 1
  · intro w hSw; (try dsimp only at hSw); go_simp; try with_reducible rfl
  refine wpAnyH_take (i := 18) (v := ?_) rfl (by kernel_rfl) (by kernel_rfl) (by kernel_rfl) (fun _ _ _ h => h) (Or.inl ⟨by rfl, ?_⟩) (by assumption) ?_
  rotate_left 1
  · intro w hSw; (try dsimp only at hSw); go_simp; try with_reducible rfl
  refine wpAnyH_take (i := 19) (v := ?_) rfl (by kernel_rfl) (by kernel_rfl) (by kernel_rfl) (fun _ _ _ h => h) (Or.inl ⟨by rfl, ?_⟩) (by assumption) ?_
  rotate_left 1
  · intro w hSw; (try dsimp only at hSw); go_simp; try with_reducible rfl
  refine wpAnyH_take (i := 20) (v := ?_) rfl (by kernel_rfl) (by kernel_rfl) (by kernel_rfl) (fun _ _ _ h => h) (Or.inl ⟨by rfl, ?_⟩) (by assumption) ?_
  rotate_left 1
  · intro w hSw; (try dsimp only at hSw); go_simp; try with_reducible rfl
  change wpAnyH _ _ _ _ _ _ _ { tmps := #[.agg #[.int .i64 cl, .int .i64 kd, .int .u64 (fr : Int), .int .i64 tm, .int .u64 (k1 : Int), .int .u64 (k2 : Int), .int .u64 (k3 : Int), .int .i64 n, .int .i64 m, .string sa, .string sb, .string sc, .slice va vl vc], .pointer (some ⟨w.heap.size, 0, none⟩), .bool false, .pointer (some ⟨w.heap.size, 1, none⟩), .int .i64 kd, .bool true, .bool true, .pointer (some ⟨w.heap.size, 1, none⟩), .int .i64 kd, .pointer (some ⟨w.heap.size, 0, none⟩), .int .i64 cl, .int .i64 q, .bool true, .bool true, .bool true, .pointer (some ⟨w.heap.size, 2, none⟩), .int .u64 (fr : Int), .bool p, .pointer (some ⟨w.heap.size, 0, none⟩), .int .i64 cl, .bool p, .bool true, .bool true, .bool true, undef, undef, undef, undef, undef, undef, undef, undef, undef, undef, undef, undef, undef, undef, undef, undef, undef, undef, undef, undef, undef, undef, undef, undef, undef, undef, undef, undef, undef, undef, undef, undef, undef, undef, undef, undef], defers := [] } _
  refine wpAnyH_take (i := 21) (v := ?_) rfl (by kernel_rfl) (by kernel_rfl) (by kernel_rfl) (fun _ _ _ h => h) (Or.inl ⟨by rfl, ?_⟩) (by assumption) ?_
  rotate_left 1
  · intro w hSw; (try dsimp only at hSw); go_simp; try with_reducible rfl
  refine wpAnyH_take (i := 22) (v := ?_) rfl (by kernel_rfl) (by kernel_rfl) (by kernel_rfl) (fun _ _ _ h => h) (Or.inl ⟨by rfl, ?_⟩) (by assumption) ?_
  rotate_left 1
  · intro w hSw; (try dsimp only at hSw); go_simp; try with_reducible rfl
  refine wpAnyH_take (i := 23) (v := ?_) rfl (by kernel_rfl) (by kernel_rfl) (by kernel_rfl) (fun _ _ _ h => h) (Or.inl ⟨by rfl, ?_⟩) (by assumption) ?_
  rotate_left 1
  · intro w hSw; (try dsimp only at hSw); go_simp; try with_reducible rfl
  refine wpAnyH_take (i := 24) (v := ?_) rfl (by kernel_rfl) (by kernel_rfl) (by kernel_rfl) (fun _ _ _ h => h) (Or.inl ⟨by rfl, ?_⟩) (by assumption) ?_
  rotate_left 1
  · intro w hSw; (try dsimp only at hSw); go_simp; try with_reducible rfl
  change wpAnyH _ _ _ _ _ _ _ { tmps := #[.agg #[.int .i64 cl, .int .i64 kd, .int .u64 (fr : Int), .int .i64 tm, .int .u64 (k1 : Int), .int .u64 (k2 : Int), .int .u64 (k3 : Int), .int .i64 n, .int .i64 m, .string sa, .string sb, .string sc, .slice va vl vc], .pointer (some ⟨w.heap.size, 0, none⟩), .bool false, .pointer (some ⟨w.heap.size, 1, none⟩), .int .i64 kd, .bool true, .bool true, .pointer (some ⟨w.heap.size, 1, none⟩), .int .i64 kd, .pointer (some ⟨w.heap.size, 0, none⟩), .int .i64 cl, .int .i64 q, .bool true, .bool true, .bool true, .pointer (some ⟨w.heap.size, 2, none⟩), .int .u64 (fr : Int), .bool p, .pointer (some ⟨w.heap.size, 0, none⟩), .int .i64 cl, .bool p, .bool true, .bool true, .bool true, .pointer (some ⟨w.heap.size, 3, none⟩), .int .i64 tm, .bool true, .bool true, undef, undef, undef, undef, undef, undef, undef, undef, undef, undef, undef, undef, undef, undef, undef, undef, undef, undef, undef, undef, undef, undef, undef, undef, undef, undef, undef, undef, undef, undef, undef, undef], defers := [] } _
  refine wpAnyH_take (i := 25) (v := ?_) rfl (by kernel_rfl) (by kernel_rfl) (by kernel_rfl) (fun _ _ _ h => h) (Or.inl ⟨by rfl, ?_⟩) (by assumption) ?_
  rotate_left 1
  · intro w hSw; (try dsimp only at hSw); go_simp; try with_reducible rfl
  refine wpAnyH_take (i := 26) (v := ?_) rfl (by kernel_rfl) (by kernel_rfl) (by kernel_rfl) (fun _ _ _ h => h) (Or.inl ⟨by rfl, ?_⟩) (by assumption) ?_
  rotate_left 1
  · intro w hSw; (try dsimp only at hSw); go_simp; try with_reducible rfl
  refine wpAnyH_take (i := 27) (v := ?_) rfl (by kernel_rfl) (by kernel_rfl) (by kernel_rfl) (fun _ _ _ h => h) (Or.inl ⟨by rfl, ?_⟩) (by assumption) ?_
  rotate_left 1
  · intro w hSw; (try dsimp only at hSw); go_simp; try with_reducible rfl
  refine wpAnyH_take (i := 28) (v := ?_) rfl (by kernel_rfl) (by kernel_rfl) (by kernel_rfl) (fun _ _ _ h => h) (Or.inl ⟨by rfl, ?_⟩) (by assumption) ?_
  rotate_left 1
  · intro w hSw; (try dsimp only at hSw); go_simp; try with_reducible rfl
  change wpAnyH _ _ _ _ _ _ _ { tmps := #[.agg #[.int .i64 cl, .int .i64 kd, .int .u64 (fr : Int), .int .i64 tm, .int .u64 (k1 : Int), .int .u64 (k2 : Int), .int .u64 (k3 : Int), .int .i64 n, .int .i64 m, .string sa, .string sb, .string sc, .slice va vl vc], .pointer (some ⟨w.heap.size, 0, none⟩), .bool false, .pointer (some ⟨w.heap.size, 1, none⟩), .int .i64 kd, .bool true, .bool true, .pointer (some ⟨w.heap.size, 1, none⟩), .int .i64 kd, .pointer (some ⟨w.heap.size, 0, none⟩), .int .i64 cl, .int .i64 q, .bool true, .bool true, .bool true, .pointer (some ⟨w.heap.size, 2, none⟩), .int .u64 (fr : Int), .bool p, .pointer (some ⟨w.heap.size, 0, none⟩), .int .i64 cl, .bool p, .bool true, .bool true, .bool true, .pointer (some ⟨w.heap.size, 3, none⟩), .int .i64 tm, .bool true, .bool true, .bool true, .pointer (some ⟨w.heap.size, 3, none⟩), .int .i64 tm, .bool true, undef, undef, undef, undef, undef, undef, undef, undef, undef, undef, undef, undef, undef, undef, undef, undef, undef, undef, undef, undef, undef, undef, undef, undef, undef, undef, undef, undef], defers := [] } _
  refine wpAnyH_take (i := 29) (v := ?_) rfl (by kernel_rfl) (by kernel_rfl) (by kernel_rfl) (fun _ _ _ h => h) (Or.inl ⟨by rfl, ?_⟩) (by assumption) ?_
  rotate_left 1
  · intro w hSw; (try dsimp only at hSw); go_simp; try with_reducible rfl
  refine wpAnyH_take (i := 30) (v := ?_) rfl (by kernel_rfl) (by kernel_rfl) (by kernel_rfl) (fun _ _ _ h => h) (Or.inl ⟨by rfl, ?_⟩) (by assumption) ?_
  rotate_left 1
  · intro w hSw; (try dsimp only at hSw); go_simp; try with_reducible rfl
  refine wpAnyH_take (i := 31) (v := ?_) rfl (by kernel_rfl) (by kernel_rfl) (by kernel_rfl) (fun _ _ _ h => h) (Or.inl ⟨by rfl, ?_⟩) (by assumption) ?_
  rotate_left 1
  · intro w hSw; (try dsimp only at hSw); go_simp; try with_reducible rfl
  refine wpAnyH_take (i := 32) (v := ?_) rfl (by kernel_rfl) (by kernel_rfl) (by kernel_rfl) (fun _ _ _ h => h) (Or.inl ⟨by rfl, ?_⟩) (by assumption) ?_
  rotate_left 1
  · intro w hSw; (try dsimp only at hSw); go_simp; try with_reducible rfl
  change wpAnyH _ _ _ _ _ _ _ { tmps := #[.agg #[.int .i64 cl, .int .i64 kd, .int .u64 (fr : Int), .int .i64 tm, .int .u64 (k1 : Int), .int .u64 (k2 : Int), .int .u64 (k3 : Int), .int .i64 n, .int .i64 m, .string sa, .string sb, .string sc, .slice va vl vc], .pointer (some ⟨w.heap.size, 0, none⟩), .bool false, .pointer (some ⟨w.heap.size, 1, none⟩), .int .i64 kd, .bool true, .bool true, .pointer (some ⟨w.heap.size, 1, none⟩), .int .i64 kd, .pointer (some ⟨w.heap.size, 0, none⟩), .int .i64 cl, .int .i64 q, .bool true, .bool true, .bool true, .pointer (some ⟨w.heap.size, 2, none⟩), .int .u64 (fr : Int), .bool p, .pointer (some ⟨w.heap.size, 0, none⟩), .int .i64 cl, .bool p, .bool true, .bool true, .bool true, .pointer (some ⟨w.heap.size, 3, none⟩), .int .i64 tm, .bool true, .bool true, .bool true, .pointer (some ⟨w.heap.size, 3, none⟩), .int .i64 tm, .bool true, .bool true, .bool true, .pointer (some ⟨w.heap.size, 9, none⟩), .string sa, undef, undef, undef, undef, undef, undef, undef, undef, undef, undef, undef, undef, undef, undef, undef, undef, undef, undef, undef, undef, undef, undef, undef, undef], defers := [] } _
  refine wpAnyH_take (i := 33) (v := ?_) rfl (by kernel_rfl) (by kernel_rfl) (by kernel_rfl) (fun _ _ _ h => h) (Or.inl ⟨by rfl, ?_⟩) (by assumption) ?_
  rotate_left 1
  · intro w hSw; (try dsimp only at hSw); go_simp; try with_reducible rfl
  refine wpAnyH_take (i := 34) (v := ?_) rfl (by kernel_rfl) (by kernel_rfl) (by kernel_rfl) (fun _ _ _ h => h) (Or.inl ⟨by rfl, ?_⟩) (by assumption) ?_
  rotate_left 1
  · intro w hSw; (try dsimp only at hSw); go_simp; try with_reducible rfl
  change wpAnyH _ _ _ _ _ _ _ { tmps := #[.agg #[.int .i64 cl, .int .i64 kd, .int .u64 (fr : Int), .int .i64 tm, .int .u64 (k1 : Int), .int .u64 (k2 : Int), .int .u64 (k3 : Int), .int .i64 n, .int .i64 m, .string sa, .string sb, .string sc, .slice va vl vc], .pointer (some ⟨w.heap.size, 0, none⟩), .bool false, .pointer (some ⟨w.heap.size, 1, none⟩), .int .i64 kd, .bool true, .bool true, .pointer (some ⟨w.heap.size, 1, none⟩), .int .i64 kd, .pointer (some ⟨w.heap.size, 0, none⟩), .int .i64 cl, .int .i64 q, .bool true, .bool true, .bool true, .pointer (some ⟨w.heap.size, 2, none⟩), .int .u64 (fr : Int), .bool p, .pointer (some ⟨w.heap.size, 0, none⟩), .int .i64 cl, .bool p, .bool true, .bool true, .bool true, .pointer (some ⟨w.heap.size, 3, none⟩), .int .i64 tm, .bool true, .bool true, .bool true, .pointer (some ⟨w.heap.size, 3, none⟩), .int .i64 tm, .bool true, .bool true, .bool true, .pointer (some ⟨w.heap.size, 9, none⟩), .string sa, .int .i64 (sa.size : Int), .agg #[.int .i64 cl, .int .i64 kd, .int .u64 (fr : Int), .int .i64 tm, .int .u64 (k1 : Int), .int .u64 (k2 : Int), .int .u64 (k3 : Int), .int .i64 n, .int .i64 m, .string sa, .string sb, .string sc, .slice va vl vc], undef, undef, undef, undef, undef, undef, undef, undef, undef, undef, undef, undef, undef, undef, undef, undef, undef, undef, undef, undef, undef, undef], defers := [] } _
  refine wpAnyH_ready (rs := [35]) (by kernel_rfl) (by simp) ?_
  refine AllReadyH.cons rfl (fun K hK => ?_) AllReadyH.nil
  go_simp
  (go_at_call 34; refine (CA _ (by first | exact Below.refl _ _ | exact (Below.refl _ _).drew | exact hX | exact hX.drew | exact below_drewN (Below.refl _ _) _)).mono ?_; rintro e u1 ⟨rfl, hX⟩; clear CA; go_wp2_with fail)
  refine hK.out _ _ (by first | go_keep | exact HS.out _ (Below.refl _ _) | exact HS.out _ (Below.refl _ _).drew | exact HS.out _ hX) (fun hHeld => ?_)
  clear hK K
  change wpAnyH _ _ _ _ _ _ _ { tmps := #[.agg #[.int .i64 cl, .int .i64 kd, .int .u64 (fr : Int), .int .i64 tm, .int .u64 (k1 : Int), .int .u64 (k2 : Int), .int .u64 (k3 : Int), .int .i64 n, .int .i64 m, .string sa, .string sb, .string sc, .slice va vl vc], .pointer (some ⟨w.heap.size, 0, none⟩), .bool false, .pointer (some ⟨w.heap.size, 1, none⟩), .int .i64 kd, .bool true, .bool true, .pointer (some ⟨w.heap.size, 1, none⟩), .int .i64 kd, .pointer (some ⟨w.heap.size, 0, none⟩), .int .i64 cl, .int .i64 q, .bool true, .bool true, .bool true, .pointer (some ⟨w.heap.size, 2, none⟩), .int .u64 (fr : Int), .bool p, .pointer (some ⟨w.heap.size, 0, none⟩), .int .i64 cl, .bool p, .bool true, .bool true, .bool true, .pointer (some ⟨w.heap.size, 3, none⟩), .int .i64 tm, .bool true, .bool true, .bool true, .pointer (some ⟨w.heap.size, 3, none⟩), .int .i64 tm, .bool true, .bool true, .bool true, .pointer (some ⟨w.heap.size, 9, none⟩), .string sa, .int .i64 (sa.size : Int), .agg #[.int .i64 cl, .int .i64 kd, .int .u64 (fr : Int), .int .i64 tm, .int .u64 (k1 : Int), .int .u64 (k2 : Int), .int .u64 (k3 : Int), .int .i64 n, .int .i64 m, .string sa, .string sb, .string sc, .slice va vl vc], .int .i64 ma, undef, undef, undef, undef, undef, undef, undef, undef, undef, undef, undef, undef, undef, undef, undef, undef, undef, undef, undef, undef, undef], defers := [] } _
  refine wpAnyH_take (i := 36) (v := ?_) rfl (by kernel_rfl) (by kernel_rfl) (by kernel_rfl) (fun _ _ _ h => h) (Or.inl ⟨by rfl, ?_⟩) (by assumption) ?_
  rotate_left 1
  · intro w hSw; (try dsimp only at hSw); go_simp; try with_reducible rfl
  refine wpAnyH_take (i := 37) (v := ?_) rfl (by kernel_rfl) (by kernel_rfl) (by kernel_rfl) (fun _ _ _ h => h) (Or.inl ⟨by rfl, ?_⟩) (by assumption) ?_
  rotate_left 1
  · intro w hSw; (try dsimp only at hSw); go_simp; try with_reducible rfl
  refine wpAnyH_take (i := 38) (v := ?_) rfl (by kernel_rfl) (by kernel_rfl) (by kernel_rfl) (fun _ _ _ h => h) (Or.inl ⟨by rfl, ?_⟩) (by assumption) ?_
  rotate_left 1
  · intro w hSw; (try dsimp only at hSw); go_simp; try with_reducible rfl
  refine wpAnyH_take (i := 39) (v := ?_) rfl (by kernel_rfl) (by kernel_rfl) (by kernel_rfl) (fun _ _ _ h => h) (Or.inl ⟨by rfl, ?_⟩) (by assumption) ?_
  rotate_left 1
  · intro w hSw; (try dsimp only at hSw); go_simp; try with_reducible rfl
  change wpAnyH _ _ _ _ _ _ _ { tmps := #[.agg #[.int .i64 cl, .int .i64 kd, .int .u64 (fr : Int), .int .i64 tm, .int .u64 (k1 : Int), .int .u64 (k2 : Int), .int .u64 (k3 : Int), .int .i64 n, .int .i64 m, .string sa, .string sb, .string sc, .slice va vl vc], .pointer (some ⟨w.heap.size, 0, none⟩), .bool false, .pointer (some ⟨w.heap.size, 1, none⟩), .int .i64 kd, .bool true, .bool true, .pointer (some ⟨w.heap.size, 1, none⟩), .int .i64 kd, .pointer (some ⟨w.heap.size, 0, none⟩), .int .i64 cl, .int .i64 q, .bool true, .bool true, .bool true, .pointer (some ⟨w.heap.size, 2, none⟩), .int .u64 (fr : Int), .bool p, .pointer (some ⟨w.heap.size, 0, none⟩), .int .i64 cl, .bool p, .bool true, .bool true, .bool true, .pointer (some ⟨w.heap.size, 3, none⟩), .int .i64 tm, .bool true, .bool true, .bool true, .pointer (some ⟨w.heap.size, 3, none⟩), .int .i64 tm, .bool true, .bool true, .bool true, .pointer (some ⟨w.heap.size, 9, none⟩), .string sa, .int .i64 (sa.size : Int), .agg #[.int .i64 cl, .int .i64 kd, .int .u64 (fr : Int), .int .i64 tm, .int .u64 (k1 : Int), .int .u64 (k2 : Int), .int .u64 (k3 : Int), .int .i64 n, .int .i64 m, .string sa, .string sb, .string sc, .slice va vl vc], .int .i64 ma, .bool true, .bool true, .bool true, .pointer (some ⟨w.heap.size, 10, none⟩), undef, undef, undef, undef, undef, undef, undef, undef, undef, undef, undef, undef, undef, undef, undef, undef, undef], defers := [] } _
  refine wpAnyH_take (i := 40) (v := ?_) rfl (by kernel_rfl) (by kernel_rfl) (by kernel_rfl) (fun _ _ _ h => h) (Or.inl ⟨by rfl, ?_⟩) (by assumption) ?_
  rotate_left 1
  · intro w hSw; (try dsimp only at hSw); go_simp; try with_reducible rfl
  refine wpAnyH_take (i := 41) (v := ?_) rfl (by kernel_rfl) (by kernel_rfl) (by kernel_rfl) (fun _ _ _ h => h) (Or.inl ⟨by rfl, ?_⟩) (by assumption) ?_
  rotate_left 1
  · intro w hSw; (try dsimp only at hSw); go_simp; try with_reducible rfl
  refine wpAnyH_take (i := 42) (v := ?_) rfl (by kernel_rfl) (by kernel_rfl) (by kernel_rfl) (fun _ _ _ h => h) (Or.inl ⟨by rfl, ?_⟩) (by assumption) ?_
  rotate_left 1
  · intro w hSw; (try dsimp only at hSw); go_simp; try with_reducible rfl
  change wpAnyH _ _ _ _ _ _ _ { tmps := #[.agg #[.int .i64 cl, .int .i64 kd, .int .u64 (fr : Int), .int .i64 tm, .int .u64 (k1 : Int), .int .u64 (k2 : Int), .int .u64 (k3 : Int), .int .i64 n, .int .i64 m, .string sa, .string sb, .string sc, .slice va vl vc], .pointer (some ⟨w.heap.size, 0, none⟩), .bool false, .pointer (some ⟨w.heap.size, 1, none⟩), .int .i64 kd, .bool true, .bool true, .pointer (some ⟨w.heap.size, 1, none⟩), .int .i64 kd, .pointer (some ⟨w.heap.size, 0, none⟩), .int .i64 cl, .int .i64 q, .bool true, .bool true, .bool true, .pointer (some ⟨w.heap.size, 2, none⟩), .int .u64 (fr : Int), .bool p, .pointer (some ⟨w.heap.size, 0, none⟩), .int .i64 cl, .bool p, .bool true, .bool true, .bool true, .pointer (some ⟨w.heap.size, 3, none⟩), .int .i64 tm, .bool true, .bool true, .bool true, .pointer (some ⟨w.heap.size, 3, none⟩), .int .i64 tm, .bool true, .bool true, .bool true, .pointer (some ⟨w.heap.size, 9, none⟩), .string sa, .int .i64 (sa.size : Int), .agg #[.int .i64 cl, .int .i64 kd, .int .u64 (fr : Int), .int .i64 tm, .int .u64 (k1 : Int), .int .u64 (k2 : Int), .int .u64 (k3 : Int), .int .i64 n, .int .i64 m, .string sa, .string sb, .string sc, .slice va vl vc], .int .i64 ma, .bool true, .bool true, .bool true, .pointer (some ⟨w.heap.size, 10, none⟩), .string sb, .int .i64 (sb.size : Int), .agg #[.int .i64 cl, .int .i64 kd, .int .u64 (fr : Int), .int .i64 tm, .int .u64 (k1 : Int), .int .u64 (k2 : Int), .int .u64 (k3 : Int), .int .i64 n, .int .i64 m, .string sa, .string sb, .string sc, .slice va vl vc], undef, undef, undef, undef, undef, undef, undef, undef, undef, undef, undef, undef, undef, undef], defers := [] } _
  refine wpAnyH_ready (rs := [43]) (by kernel_rfl) (by simp) ?_
  refine AllReadyH.cons rfl (fun K hK => ?_) AllReadyH.nil
  go_simp
  (go_at_call 35; refine (CB _ (by first | exact Below.refl _ _ | exact (Below.refl _ _).drew | exact hX | exact hX.drew | exact below_drewN (Below.refl _ _) _)).mono ?_; rintro e u1 ⟨rfl, hX⟩; (have B2 : Hid (Below w.heap.size w u1) := bel_of B1.out hX (Nat.le_refl _)); clear CB; go_wp2_with fail)
  refine hK.out _ _ (by first | go_keep | exact HS.out _ (Below.refl _ _) | exact HS.out _ (Below.refl _ _).drew | exact HS.out _ hX) (fun hHeld => ?_)
  clear hK K
  change wpAnyH _ _ _ _ _ _ _ { tmps := #[.agg #[.int .i64 cl, .int .i64 kd, .int .u64 (fr : Int), .int .i64 tm, .int .u64 (k1 : Int), .int .u64 (k2 : Int), .int .u64 (k3 : Int), .int .i64 n, .int .i64 m, .string sa, .string sb, .string sc, .slice va vl vc], .pointer (some ⟨w.heap.size, 0, none⟩), .bool false, .pointer (some ⟨w.heap.size, 1, none⟩), .int .i64 kd, .bool true, .bool true, .pointer (some ⟨w.heap.size, 1, none⟩), .int .i64 kd, .pointer (some ⟨w.heap.size, 0, none⟩), .int .i64 cl, .int .i64 q, .bool true, .bool true, .bool true, .pointer (some ⟨w.heap.size, 2, none⟩), .int .u64 (fr : Int), .bool p, .pointer (some ⟨w.heap.size, 0, none⟩), .int .i64 cl, .bool p, .bool true, .bool true, .bool true, .pointer (some ⟨w.heap.size, 3, none⟩), .int .i64 tm, .bool true, .bool true, .bool true, .pointer (some ⟨w.heap.size, 3, none⟩), .int .i64 tm, .bool true, .bool true, .bool true, .pointer (some ⟨w.heap.size, 9, none⟩), .string sa, .int .i64 (sa.size : Int), .agg #[.int .i64 cl, .int .i64 kd, .int .u64 (fr : Int), .int .i64 tm, .int .u64 (k1 : Int), .int .u64 (k2 : Int), .int .u64 (k3 : Int), .int .i64 n, .int .i64 m, .string sa, .string sb, .string sc, .slice va vl vc], .int .i64 ma, .bool true, .bool true, .bool true, .pointer (some ⟨w.heap.size, 10, none⟩), .string sb, .int .i64 (sb.size : Int), .agg #[.int .i64 cl, .int .i64 kd, .int .u64 (fr : Int), .int .i64 tm, .int .u64 (k1 : Int), .int .u64 (k2 : Int), .int .u64 (k3 : Int), .int .i64 n, .int .i64 m, .string sa, .string sb, .string sc, .slice va vl vc], .int .i64 mb, undef, undef, undef, undef, undef, undef, undef, undef, undef, undef, undef, undef, undef], defers := [] } _
  refine wpAnyH_take (i := 44) (v := ?_) rfl (by kernel_rfl) (by kernel_rfl) (by kernel_rfl) (fun _ _ _ h => h) (Or.inl ⟨by rfl, ?_⟩) (by assumption) ?_
  rotate_left 1
  · intro w hSw; (try dsimp only at hSw); go_simp; try with_reducible rfl
  refine wpAnyH_take (i := 45) (v := ?_) rfl (by kernel_rfl) (by kernel_rfl) (by kernel_rfl) (fun _ _ _ h => h) (Or.inl ⟨by rfl, ?_⟩) (by assumption) ?_
  rotate_left 1
  · intro w hSw; (try dsimp only at hSw); go_simp; try with_reducible rfl
  refine wpAnyH_take (i := 46) (v := ?_) rfl (by kernel_rfl) (by kernel_rfl) (by kernel_rfl) (fun _ _ _ h => h) (Or.inl ⟨by rfl, ?_⟩) (by assumption) ?_
  rotate_left 1
  · intro w hSw; (try dsimp only at hSw); go_simp; try with_reducible rfl
  refine wpAnyH_take (i := 47) (v := ?_) rfl (by kernel_rfl) (by kernel_rfl) (by kernel_rfl) (fun _ _ _ h => h) (Or.inl ⟨by rfl, ?_⟩) (by assumption) ?_
  rotate_left 1
  · intro w hSw; (try dsimp only at hSw); go_simp; try with_reducible rfl
  change wpAnyH _ _ _ _ _ _ _ { tmps := #[.agg #[.int .i64 cl, .int .i64 kd, .int .u64 (fr : Int), .int .i64 tm, .int .u64 (k1 : Int), .int .u64 (k2 : Int), .int .u64 (k3 : Int), .int .i64 n, .int .i64 m, .string sa, .string sb, .string sc, .slice va vl vc], .pointer (some ⟨w.heap.size, 0, none⟩), .bool false, .pointer (some ⟨w.heap.size, 1, none⟩), .int .i64 kd, .bool true, .bool true, .pointer (some ⟨w.heap.size, 1, none⟩), .int .i64 kd, .pointer (some ⟨w.heap.size, 0, none⟩), .int .i64 cl, .int .i64 q, .bool true, .bool true, .bool true, .pointer (some ⟨w.heap.size, 2, none⟩), .int .u64 (fr : Int), .bool p, .pointer (some ⟨w.heap.size, 0, none⟩), .int .i64 cl, .bool p, .bool true, .bool true, .bool true, .pointer (some ⟨w.heap.size, 3, none⟩), .int .i64 tm, .bool true, .bool true, .bool true, .pointer (some ⟨w.heap.size, 3, none⟩), .int .i64 tm, .bool true, .bool true, .bool true, .pointer (some ⟨w.heap.size, 9, none⟩), .string sa, .int .i64 (sa.size : Int), .agg #[.int .i64 cl, .int .i64 kd, .int .u64 (fr : Int), .int .i64 tm, .int .u64 (k1 : Int), .int .u64 (k2 : Int), .int .u64 (k3 : Int), .int .i64 n, .int .i64 m, .string sa, .string sb, .string sc, .slice va vl vc], .int .i64 ma, .bool true, .bool true, .bool true, .pointer (some ⟨w.heap.size, 10, none⟩), .string sb, .int .i64 (sb.size : Int), .agg #[.int .i64 cl, .int .i64 kd, .int .u64 (fr : Int), .int .i64 tm, .int .u64 (k1 : Int), .int .u64 (k2 : Int), .int .u64 (k3 : Int), .int .i64 n, .int .i64 m, .string sa, .string sb, .string sc, .slice va vl vc], .int .i64 mb, .bool true, .bool true, .bool true, .pointer (some ⟨w.heap.size, 11, none⟩), undef, undef, undef, undef, undef, undef, undef, undef, undef], defers := [] } _
  refine wpAnyH_take (i := 48) (v := ?_) rfl (by kernel_rfl) (by kernel_rfl) (by kernel_rfl) (fun _ _ _ h => h) (Or.inl ⟨by rfl, ?_⟩) (by assumption) ?_
  rotate_left 1
  · intro w hSw; (try dsimp only at hSw); go_simp; try with_reducible rfl
  refine wpAnyH_take (i := 49) (v := ?_) rfl (by kernel_rfl) (by kernel_rfl) (by kernel_rfl) (fun _ _ _ h => h) (Or.inl ⟨by rfl, ?_⟩) (by assumption) ?_
  rotate_left 1
  · intro w hSw; (try dsimp only at hSw); go_simp; try with_reducible rfl
  refine wpAnyH_take (i := 50) (v := ?_) rfl (by kernel_rfl) (by kernel_rfl) (by kernel_rfl) (fun _ _ _ h => h) (Or.inl ⟨by rfl, ?_⟩) (by assumption) ?_
  rotate_left 1
  · intro w hSw; (try dsimp only at hSw); go_simp; try with_reducible rfl
  refine wpAnyH_take (i := 51) (v := ?_) rfl (by kernel_rfl) (by kernel_rfl) (by kernel_rfl) (fun _ _ _ h => h) (Or.inl ⟨by rfl, ?_⟩) (by assumption) ?_
  rotate_left 1
  · intro w hSw; (try dsimp only at hSw); go_simp; try with_reducible rfl
  change wpAnyH _ _ _ _ _ _ _ { tmps := #[.agg #[.int .i64 cl, .int .i64 kd, .int .u64 (fr : Int), .int .i64 tm, .int .u64 (k1 : Int), .int .u64 (k2 : Int), .int .u64 (k3 : Int), .int .i64 n, .int .i64 m, .string sa, .string sb, .string sc, .slice va vl vc], .pointer (some ⟨w.heap.size, 0, none⟩), .bool false, .pointer (some ⟨w.heap.size, 1, none⟩), .int .i64 kd, .bool true, .bool true, .pointer (some ⟨w.heap.size, 1, none⟩), .int .i64 kd, .pointer (some ⟨w.heap.size, 0, none⟩), .int .i64 cl, .int .i64 q, .bool true, .bool true, .bool true, .pointer (some ⟨w.heap.size, 2, none⟩), .int .u64 (fr : Int), .bool p, .pointer (some ⟨w.heap.size, 0, none⟩), .int .i64 cl, .bool p, .bool true, .bool true, .bool true, .pointer (some ⟨w.heap.size, 3, none⟩), .int .i64 tm, .bool true, .bool true, .bool true, .pointer (some ⟨w.heap.size, 3, none⟩), .int .i64 tm, .bool true, .bool true, .bool true, .pointer (some ⟨w.heap.size, 9, none⟩), .string sa, .int .i64 (sa.size : Int), .agg #[.int .i64 cl, .int .i64 kd, .int .u64 (fr : Int), .int .i64 tm, .int .u64 (k1 : Int), .int .u64 (k2 : Int), .int .u64 (k3 : Int), .int .i64 n, .int .i64 m, .string sa, .string sb, .string sc, .slice va vl vc], .int .i64 ma, .bool true, .bool true, .bool true, .pointer (some ⟨w.heap.size, 10, none⟩), .string sb, .int .i64 (sb.size : Int), .agg #[.int .i64 cl, .int .i64 kd, .int .u64 (fr : Int), .int .i64 tm, .int .u64 (k1 : Int), .int .u64 (k2 : Int), .int .u64 (k3 : Int), .int .i64 n, .int .i64 m, .string sa, .string sb, .string sc, .slice va vl vc], .int .i64 mb, .bool true, .bool true, .bool true, .pointer (some ⟨w.heap.size, 11, none⟩), .string sc, .int .i64 (sc.size : Int), .bool false, .bool false, undef, undef, undef, undef, undef], defers := [] } _
  refine wpAnyH_take (i := 52) (v := ?_) rfl (by kernel_rfl) (by kernel_rfl) (by kernel_rfl) (fun _ _ _ h => h) (Or.inl ⟨by rfl, ?_⟩) (by assumption) ?_
  rotate_left 1
  · intro w hSw; (try dsimp only at hSw); go_simp; try with_reducible rfl
  refine wpAnyH_take (i := 53) (v := undef) rfl (by kernel_rfl) (by kernel_rfl) (by kernel_rfl) (fun _ _ _ h => h) (Or.inr ⟨by rfl, rfl⟩) (by assumption) ?_
  refine wpAnyH_take (i := 54) (v := undef) rfl (by kernel_rfl) (by kernel_rfl) (by kernel_rfl) (fun _ _ _ h => h) (Or.inr ⟨by rfl, rfl⟩) (by assumption) ?_
  refine wpAnyH_take (i := 55) (v := undef) rfl (by kernel_rfl) (by kernel_rfl) (by kernel_rfl) (fun _ _ _ h => h) (Or.inr ⟨by rfl, rfl⟩) (by assumption) ?_
  change wpAnyH _ _ _ _ _ _ _ { tmps := #[.agg #[.int .i64 cl, .int .i64 kd, .int .u64 (fr : Int), .int .i64 tm, .int .u64 (k1 : Int), .int .u64 (k2 : Int), .int .u64 (k3 : Int), .int .i64 n, .int .i64 m, .string sa, .string sb, .string sc, .slice va vl vc], .pointer (some ⟨w.heap.size, 0, none⟩), .bool false, .pointer (some ⟨w.heap.size, 1, none⟩), .int .i64 kd, .bool true, .bool true, .pointer (some ⟨w.heap.size, 1, none⟩), .int .i64 kd, .pointer (some ⟨w.heap.size, 0, none⟩), .int .i64 cl, .int .i64 q, .bool true, .bool true, .bool true, .pointer (some ⟨w.heap.size, 2, none⟩), .int .u64 (fr : Int), .bool p, .pointer (some ⟨w.heap.size, 0, none⟩), .int .i64 cl, .bool p, .bool true, .bool true, .bool true, .pointer (some ⟨w.heap.size, 3, none⟩), .int .i64 tm, .bool true, .bool true, .bool true, .pointer (some ⟨w.heap.size, 3, none⟩), .int .i64 tm, .bool true, .bool true, .bool true, .pointer (some ⟨w.heap.size, 9, none⟩), .string sa, .int .i64 (sa.size : Int), .agg #[.int .i64 cl, .int .i64 kd, .int .u64 (fr : Int), .int .i64 tm, .int .u64 (k1 : Int), .int .u64 (k2 : Int), .int .u64 (k3 : Int), .int .i64 n, .int .i64 m, .string sa, .string sb, .string sc, .slice va vl vc], .int .i64 ma, .bool true, .bool true, .bool true, .pointer (some ⟨w.heap.size, 10, none⟩), .string sb, .int .i64 (sb.size : Int), .agg #[.int .i64 cl, .int .i64 kd, .int .u64 (fr : Int), .int .i64 tm, .int .u64 (k1 : Int), .int .u64 (k2 : Int), .int .u64 (k3 : Int), .int .i64 n, .int .i64 m, .string sa, .string sb, .string sc, .slice va vl vc], .int .i64 mb, .bool true, .bool true, .bool true, .pointer (some ⟨w.heap.size, 11, none⟩), .string sc, .int .i64 (sc.size : Int), .bool false, .bool false, .bool false, undef, undef, undef, undef], defers := [] } _
  refine wpAnyH_take (i := 56) (v := ?_) rfl (by kernel_rfl) (by kernel_rfl) (by kernel_rfl) (fun _ _ _ h => h) (Or.inl ⟨by rfl, ?_⟩) (by assumption) ?_
  rotate_left 1
  · intro w hSw; (try dsimp only at hSw); go_simp; try with_reducible rfl
  refine wpAnyH_take (i := 57) (v := ?_) rfl (by kernel_rfl) (by kernel_rfl) (by kernel_rfl) (fun _ _ _ h => h) (Or.inl ⟨by rfl, ?_⟩) (by assumption) ?_
  rotate_left 1
  · intro w hSw; (try dsimp only at hSw); go_simp; try with_reducible rfl
  refine wpAnyH_done (by kernel_rfl) ?_ _
  go_wp2
  go_ret
  exact ⟨rfl, B2.out⟩
end Go.Proofs.Ytippnkendoghpaa.r12

/-
  Package expr: does A decide?
-/
import Derived.Test.YtpbfdaijnndilaaGreatDoorGExprS
import Derived.Deep.RegionHeld3
namespace Go.Proofs.YtpbfdaijnndilaaGreatDoor.x10
open Go.RowKit Go.Shelf Go.Sort
open Go.Lib hiding intOf

/-- is A what the operator comes to, whatever B is? -/
def dcd (op : Int) (v : V9) : Bool := decide (op = 17 ∧ v = (2, 0, []) ∨ op = 18 ∧ v = (2, 1, []))

set_option maxHeartbeats 2000000 in
set_option maxRecDepth 100000 in
theorem dec17_a (v1 v2 : Int) (v3 : List UInt8) (k1 : ¬ v1 = 2) (w : World) : Calls Tryz.prog 89 #[.int .i64 17, .agg #[.int .i64 v1, .int .i64 v2, .string (S v3)]] w fun e w' => e = .returned (.bool false) ∧ Below w.heap.size w w' := by
  have CF := truth_v false
  simp only [Bool.false_eq_true, if_false] at CF
  have k1' : (v1 == 2) = false := beq_eq_false_iff_ne.2 k1
  have HB : Hid (∀ w' : World, Below (w.heap.size + 1) (w.alloc (.cells #[.int .i64 v1, .int .i64 v2, .string (S v3)] 48)).drew w' → Below w.heap.size w w' ∧ w'.cell? ⟨w.heap.size, 0, none⟩ = some (.int .i64 v1) ∧ w'.cell? ⟨w.heap.size, 1, none⟩ = some (.int .i64 v2) ∧ w'.cell? ⟨w.heap.size, 2, none⟩ = some (.string (S v3)) ∧ w.heap.size < w'.heap.size) := fun w' hb1 => by
    have hb : Below (w.heap.size + 1) (w.alloc (.cells #[.int .i64 v1, .int .i64 v2, .string (S v3)] 48)) w' := (Below.refl _ _).drew.trans hb1
    exact ⟨((Below.refl _ w).alloc (Nat.le_refl _) _).trans (hb.mono (Nat.le_succ _)), (hb.cell (p := ⟨w.heap.size, 0, none⟩) (Nat.lt_succ_self _)).trans (World.cell?_alloc_new _ _ _ _), (hb.cell (p := ⟨w.heap.size, 1, none⟩) (Nat.lt_succ_self _)).trans (World.cell?_alloc_new _ _ _ _), (hb.cell (p := ⟨w.heap.size, 2, none⟩) (Nat.lt_succ_self _)).trans (World.cell?_alloc_new _ _ _ _), by have := hb.size; rw [World.size_alloc] at this; omega⟩
  go_enter Tryz.func89, Tryz.ntmps89
  go_wp2
  go_region_with (go_at_call 72; refine (CF _).mono ?_; rintro e u1 ⟨rfl, bu1⟩; obtain ⟨b1, s0, s1, s2, hz⟩ := HB.out u1 (by simpa using bu1); have B1 : Hid (Below w.heap.size w u1) := b1; clear b1 bu1)
  all_goals
    go_wp2
    go_ret
    exact ⟨rfl, B1.out⟩

set_option maxHeartbeats 2000000 in
set_option maxRecDepth 100000 in
theorem dec17_b (v2 : Int) (v3 : List UInt8) (k2 : ¬ v2 = 0) (w : World) : Calls Tryz.prog 89 #[.int .i64 17, .agg #[.int .i64 2, .int .i64 v2, .string (S v3)]] w fun e w' => e = .returned (.bool false) ∧ Below w.heap.size w w' := by
  have CF := truth_v false
  simp only [Bool.false_eq_true, if_false] at CF
  have k2' : (v2 == 0) = false := beq_eq_false_iff_ne.2 k2
  have HB : Hid (∀ w' : World, Below (w.heap.size + 1) (w.alloc (.cells #[.int .i64 2, .int .i64 v2, .string (S v3)] 48)).drew w' → Below w.heap.size w w' ∧ w'.cell? ⟨w.heap.size, 0, none⟩ = some (.int .i64 2) ∧ w'.cell? ⟨w.heap.size, 1, none⟩ = some (.int .i64 v2) ∧ w'.cell? ⟨w.heap.size, 2, none⟩ = some (.string (S v3)) ∧ w.heap.size < w'.heap.size) := fun w' hb1 => by
    have hb : Below (w.heap.size + 1) (w.alloc (.cells #[.int .i64 2, .int .i64 v2, .string (S v3)] 48)) w' := (Below.refl _ _).drew.trans hb1
    exact ⟨((Below.refl _ w).alloc (Nat.le_refl _) _).trans (hb.mono (Nat.le_succ _)), (hb.cell (p := ⟨w.heap.size, 0, none⟩) (Nat.lt_succ_self _)).trans (World.cell?_alloc_new _ _ _ _), (hb.cell (p := ⟨w.heap.size, 1, none⟩) (Nat.lt_succ_self _)).trans (World.cell?_alloc_new _ _ _ _), (hb.cell (p := ⟨w.heap.size, 2, none⟩) (Nat.lt_succ_self _)).trans (World.cell?_alloc_new _ _ _ _), by have := hb.size; rw [World.size_alloc] at this; omega⟩
  go_enter Tryz.func89, Tryz.ntmps89
  go_wp2
  go_region_with (go_at_call 72; refine (CF _).mono ?_; rintro e u1 ⟨rfl, bu1⟩; obtain ⟨b1, s0, s1, s2, hz⟩ := HB.out u1 (by simpa using bu1); have B1 : Hid (Below w.heap.size w u1) := b1; clear b1 bu1)
  all_goals
    go_wp2
    go_ret
    exact ⟨rfl, B1.out⟩

set_option maxHeartbeats 2000000 in
set_option maxRecDepth 100000 in
theorem dec17_c (v3 : List UInt8) (k3 : ¬ v3 = []) (w : World) : Calls Tryz.prog 89 #[.int .i64 17, .agg #[.int .i64 2, .int .i64 0, .string (S v3)]] w fun e w' => e = .returned (.bool false) ∧ Below w.heap.size w w' := by
  have CF := truth_v false
  simp only [Bool.false_eq_true, if_false] at CF
  have k4 : ¬ (S v3).toList = [] := by rw [S_toList]; exact k3
  have k5 : ((S v3).toList == []) = false := beq_eq_false_iff_ne.2 k4
  have HB : Hid (∀ w' : World, Below (w.heap.size + 1) (w.alloc (.cells #[.int .i64 2, .int .i64 0, .string (S v3)] 48)).drew w' → Below w.heap.size w w' ∧ w'.cell? ⟨w.heap.size, 0, none⟩ = some (.int .i64 2) ∧ w'.cell? ⟨w.heap.size, 1, none⟩ = some (.int .i64 0) ∧ w'.cell? ⟨w.heap.size, 2, none⟩ = some (.string (S v3)) ∧ w.heap.size < w'.heap.size) := fun w' hb1 => by
    have hb : Below (w.heap.size + 1) (w.alloc (.cells #[.int .i64 2, .int .i64 0, .string (S v3)] 48)) w' := (Below.refl _ _).drew.trans hb1
    exact ⟨((Below.refl _ w).alloc (Nat.le_refl _) _).trans (hb.mono (Nat.le_succ _)), (hb.cell (p := ⟨w.heap.size, 0, none⟩) (Nat.lt_succ_self _)).trans (World.cell?_alloc_new _ _ _ _), (hb.cell (p := ⟨w.heap.size, 1, none⟩) (Nat.lt_succ_self _)).trans (World.cell?_alloc_new _ _ _ _), (hb.cell (p := ⟨w.heap.size, 2, none⟩) (Nat.lt_succ_self _)).trans (World.cell?_alloc_new _ _ _ _), by have := hb.size; rw [World.size_alloc] at this; omega⟩
  go_enter Tryz.func89, Tryz.ntmps89
  go_wp2
  go_region_with (go_at_call 72; refine (CF _).mono ?_; rintro e u1 ⟨rfl, bu1⟩; obtain ⟨b1, s0, s1, s2, hz⟩ := HB.out u1 (by simpa using bu1); have B1 : Hid (Below w.heap.size w u1) := b1; clear b1 bu1)
  all_goals
    go_wp2
    go_ret
    exact ⟨rfl, B1.out⟩
set_option maxHeartbeats 2000000 in
set_option maxRecDepth 100000 in
theorem dec17_d (v3 : List UInt8) (k3 : v3 = []) (w : World) : Calls Tryz.prog 89 #[.int .i64 17, .agg #[.int .i64 2, .int .i64 0, .string (S v3)]] w fun e w' => e = .returned (.bool true) ∧ Below w.heap.size w w' := by
  have CF := truth_v false
  simp only [Bool.false_eq_true, if_false] at CF
  have k5 : ((S v3).toList == []) = true := by rw [S_toList, k3]; rfl
  have k6 : (([] : List UInt8) == []) = true := rfl
  clear k3
  have HB : Hid (∀ w' : World, Below (w.heap.size + 1) (w.alloc (.cells #[.int .i64 2, .int .i64 0, .string (S v3)] 48)).drew w' → Below w.heap.size w w' ∧ w'.cell? ⟨w.heap.size, 0, none⟩ = some (.int .i64 2) ∧ w'.cell? ⟨w.heap.size, 1, none⟩ = some (.int .i64 0) ∧ w'.cell? ⟨w.heap.size, 2, none⟩ = some (.string (S v3)) ∧ w.heap.size < w'.heap.size) := fun w' hb1 => by
    have hb : Below (w.heap.size + 1) (w.alloc (.cells #[.int .i64 2, .int .i64 0, .string (S v3)] 48)) w' := (Below.refl _ _).drew.trans hb1
    exact ⟨((Below.refl _ w).alloc (Nat.le_refl _) _).trans (hb.mono (Nat.le_succ _)), (hb.cell (p := ⟨w.heap.size, 0, none⟩) (Nat.lt_succ_self _)).trans (World.cell?_alloc_new _ _ _ _), (hb.cell (p := ⟨w.heap.size, 1, none⟩) (Nat.lt_succ_self _)).trans (World.cell?_alloc_new _ _ _ _), (hb.cell (p := ⟨w.heap.size, 2, none⟩) (Nat.lt_succ_self _)).trans (World.cell?_alloc_new _ _ _ _), by have := hb.size; rw [World.size_alloc] at this; omega⟩
  have c0 : (w.alloc (.cells #[.int .i64 2, .int .i64 0, .string (S v3)] 48)).cell? ⟨w.heap.size, 0, none⟩ = some (.int .i64 2) := World.cell?_alloc_new _ _ _ _
  have c1 : (w.alloc (.cells #[.int .i64 2, .int .i64 0, .string (S v3)] 48)).cell? ⟨w.heap.size, 1, none⟩ = some (.int .i64 0) := World.cell?_alloc_new _ _ _ _
  have c2 : (w.alloc (.cells #[.int .i64 2, .int .i64 0, .string (S v3)] 48)).cell? ⟨w.heap.size, 2, none⟩ = some (.string (S v3)) := World.cell?_alloc_new _ _ _ _
  go_enter Tryz.func89, Tryz.ntmps89
  go_wp2
  refine wp_region_held_drew (S := (fun W => W.cell? ⟨w.heap.size, 0, none⟩ = some (.int .i64 2) ∧ W.cell? ⟨w.heap.size, 1, none⟩ = some (.int .i64 0) ∧ W.cell? ⟨w.heap.size, 2, none⟩ = some (.string (S v3)))) (by kernel_rfl) (by first | go_keep | exact ⟨c0, c1, c2⟩ | exact ⟨s0, s1, s2⟩) (fun hHeld => ?_)
  refine wpAnyH_take (i := 0) (v := ?_) rfl (by kernel_rfl) (by kernel_rfl) (by kernel_rfl) (fun _ _ _ h => h) (Or.inl ⟨by rfl, ?_⟩) (by assumption) ?_
  rotate_left 1
  · intro w hSw; (try dsimp only at hSw); go_simp; try with_reducible rfl
  refine wpAnyH_take (i := 1) (v := ?_) rfl (by kernel_rfl) (by kernel_rfl) (by kernel_rfl) (fun _ _ _ h => h) (Or.inl ⟨by rfl, ?_⟩) (by assumption) ?_
  rotate_left 1
  · intro w hSw; (try dsimp only at hSw); go_simp; try with_reducible rfl
  refine wpAnyH_take (i := 2) (v := ?_) rfl (by kernel_rfl) (by kernel_rfl) (by kernel_rfl) (fun _ _ _ h => h) (Or.inl ⟨by rfl, ?_⟩) (by assumption) ?_
  rotate_left 1
  · intro w hSw; (try dsimp only at hSw); go_simp; try with_reducible rfl
  refine wpAnyH_take (i := 3) (v := ?_) rfl (by kernel_rfl) (by kernel_rfl) (by kernel_rfl) (fun _ _ _ h => h) (Or.inl ⟨by rfl, ?_⟩) (by assumption) ?_
  rotate_left 1
  · intro w hSw; (try dsimp only at hSw); go_simp; try with_reducible rfl
  change wpAnyH _ _ _ _ _ _ _ { tmps := #[.int .i64 17, .agg #[.int .i64 2, .int .i64 0, .string (S v3)], undef, .pointer (some ⟨w.heap.size, 0, none⟩), .bool false, .int .i64 17, .bool true, .bool true, .agg #[.int .i64 2, .int .i64 0, .string (S v3)], undef, undef, undef, undef, undef, undef, undef, undef, undef, undef, undef, undef], defers := [] } _
  refine wpAnyH_ready (rs := [4]) (by kernel_rfl) (by simp) ?_
  refine AllReadyH.cons rfl (fun K hK => ?_) AllReadyH.nil
  go_simp
  (go_at_call 72; refine (CF _).mono ?_; rintro e u1 ⟨rfl, bu1⟩; obtain ⟨b1, s0, s1, s2, hz⟩ := HB.out u1 (by simpa using bu1); (have B1 : Hid (Below w.heap.size w u1) := b1); clear b1 bu1; go_wp2_with fail)
  refine hK.out _ _ (by first | go_keep | exact ⟨c0, c1, c2⟩ | exact ⟨s0, s1, s2⟩) (fun hHeld => ?_)
  clear hK K
  change wpAnyH _ _ _ _ _ _ _ { tmps := #[.int .i64 17, .agg #[.int .i64 2, .int .i64 0, .string (S v3)], undef, .pointer (some ⟨w.heap.size, 0, none⟩), .bool false, .int .i64 17, .bool true, .bool true, .agg #[.int .i64 2, .int .i64 0, .string (S v3)], .agg #[.int .i64 2, .int .i64 0, .string ⟨#[]⟩], undef, undef, undef, undef, undef, undef, undef, undef, undef, undef, undef], defers := [] } _
  refine wpAnyH_take (i := 5) (v := ?_) rfl (by kernel_rfl) (by kernel_rfl) (by kernel_rfl) (fun _ _ _ h => h) (Or.inl ⟨by rfl, ?_⟩) (by assumption) ?_
  rotate_left 1
  · intro w hSw; (try dsimp only at hSw); go_simp; try with_reducible rfl
  refine wpAnyH_take (i := 6) (v := ?_) rfl (by kernel_rfl) (by kernel_rfl) (by kernel_rfl) (fun _ _ _ h => h) (Or.inl ⟨by rfl, ?_⟩) (by assumption) ?_
  rotate_left 1
  · intro w hSw; (try dsimp only at hSw); go_simp; try with_reducible rfl
  refine wpAnyH_take (i := 7) (v := ?_) rfl (by kernel_rfl) (by kernel_rfl) (by kernel_rfl) (fun _ _ _ h => h) (Or.inl ⟨by rfl, ?_⟩) (by assumption) ?_
  rotate_left 1
  · intro w hSw; (try dsimp only at hSw); go_simp; try with_reducible rfl
  change wpAnyH _ _ _ _ _ _ _ { tmps := #[.int .i64 17, .agg #[.int .i64 2, .int .i64 0, .string (S v3)], undef, .pointer (some ⟨w.heap.size, 0, none⟩), .bool false, .int .i64 17, .bool true, .bool true, .agg #[.int .i64 2, .int .i64 0, .string (S v3)], .agg #[.int .i64 2, .int .i64 0, .string ⟨#[]⟩], .bool true, .bool true, .bool true, undef, undef, undef, undef, undef, undef, undef, undef], defers := [] } _
  refine wpAnyH_take (i := 8) (v := undef) rfl (by kernel_rfl) (by kernel_rfl) (by kernel_rfl) (fun _ _ _ h => h) (Or.inr ⟨by rfl, rfl⟩) (by assumption) ?_
  refine wpAnyH_take (i := 9) (v := undef) rfl (by kernel_rfl) (by kernel_rfl) (by kernel_rfl) (fun _ _ _ h => h) (Or.inr ⟨by rfl, rfl⟩) (by assumption) ?_
  refine wpAnyH_take (i := 10) (v := undef) rfl (by kernel_rfl) (by kernel_rfl) (by kernel_rfl) (fun _ _ _ h => h) (Or.inr ⟨by rfl, rfl⟩) (by assumption) ?_
  refine wpAnyH_take (i := 11) (v := undef) rfl (by kernel_rfl) (by kernel_rfl) (by kernel_rfl) (fun _ _ _ h => h) (Or.inr ⟨by rfl, rfl⟩) (by assumption) ?_
  refine wpAnyH_take (i := 12) (v := undef) rfl (by kernel_rfl) (by kernel_rfl) (by kernel_rfl) (fun _ _ _ h => h) (Or.inr ⟨by rfl, rfl⟩) (by assumption) ?_
  refine wpAnyH_take (i := 13) (v := undef) rfl (by kernel_rfl) (by kernel_rfl) (by kernel_rfl) (fun _ _ _ h => h) (Or.inr ⟨by rfl, rfl⟩) (by assumption) ?_
  refine wpAnyH_take (i := 14) (v := undef) rfl (by kernel_rfl) (by kernel_rfl) (by kernel_rfl) (fun _ _ _ h => h) (Or.inr ⟨by rfl, rfl⟩) (by assumption) ?_
  change wpAnyH _ _ _ _ _ _ _ { tmps := #[.int .i64 17, .agg #[.int .i64 2, .int .i64 0, .string (S v3)], undef, .pointer (some ⟨w.heap.size, 0, none⟩), .bool false, .int .i64 17, .bool true, .bool true, .agg #[.int .i64 2, .int .i64 0, .string (S v3)], .agg #[.int .i64 2, .int .i64 0, .string ⟨#[]⟩], .bool true, .bool true, .bool true, undef, undef, undef, undef, undef, undef, undef, undef], defers := [] } _
  refine wpAnyH_take (i := 15) (v := ?_) rfl (by kernel_rfl) (by kernel_rfl) (by kernel_rfl) (fun _ _ _ h => h) (Or.inl ⟨by rfl, ?_⟩) (by assumption) ?_
  rotate_left 1
  · intro w hSw; (try dsimp only at hSw); go_simp; try with_reducible rfl
  refine wpAnyH_take (i := 16) (v := ?_) rfl (by kernel_rfl) (by kernel_rfl) (by kernel_rfl) (fun _ _ _ h => h) (Or.inl ⟨by rfl, ?_⟩) (by assumption) ?_
  rotate_left 1
  · intro w hSw; (try dsimp only at hSw); go_simp; try with_reducible rfl
  refine wpAnyH_done (by kernel_rfl) ?_ _
  go_wp2
  go_ret
  exact ⟨rfl, B1.out⟩

set_option maxHeartbeats 2000000 in
set_option maxRecDepth 100000 in
theorem dec18_a (v1 v2 : Int) (v3 : List UInt8) (k1 : ¬ v1 = 2) (w : World) : Calls Tryz.prog 89 #[.int .i64 18, .agg #[.int .i64 v1, .int .i64 v2, .string (S v3)]] w fun e w' => e = .returned (.bool false) ∧ Below w.heap.size w w' := by
  have CF := truth_v true
  simp only [if_true] at CF
  have k1' : (v1 == 2) = false := beq_eq_false_iff_ne.2 k1
  have HB : Hid (∀ w' : World, Below (w.heap.size + 1) (w.alloc (.cells #[.int .i64 v1, .int .i64 v2, .string (S v3)] 48)).drew w' → Below w.heap.size w w' ∧ w'.cell? ⟨w.heap.size, 0, none⟩ = some (.int .i64 v1) ∧ w'.cell? ⟨w.heap.size, 1, none⟩ = some (.int .i64 v2) ∧ w'.cell? ⟨w.heap.size, 2, none⟩ = some (.string (S v3)) ∧ w.heap.size < w'.heap.size) := fun w' hb1 => by
    have hb : Below (w.heap.size + 1) (w.alloc (.cells #[.int .i64 v1, .int .i64 v2, .string (S v3)] 48)) w' := (Below.refl _ _).drew.trans hb1
    exact ⟨((Below.refl _ w).alloc (Nat.le_refl _) _).trans (hb.mono (Nat.le_succ _)), (hb.cell (p := ⟨w.heap.size, 0, none⟩) (Nat.lt_succ_self _)).trans (World.cell?_alloc_new _ _ _ _), (hb.cell (p := ⟨w.heap.size, 1, none⟩) (Nat.lt_succ_self _)).trans (World.cell?_alloc_new _ _ _ _), (hb.cell (p := ⟨w.heap.size, 2, none⟩) (Nat.lt_succ_self _)).trans (World.cell?_alloc_new _ _ _ _), by have := hb.size; rw [World.size_alloc] at this; omega⟩
  go_enter Tryz.func89, Tryz.ntmps89
  go_wp2
  go_region_with (go_at_call 72; refine (CF _).mono ?_; rintro e u1 ⟨rfl, bu1⟩; obtain ⟨b1, s0, s1, s2, hz⟩ := HB.out u1 (by simpa using bu1); have B1 : Hid (Below w.heap.size w u1) := b1; clear b1 bu1)
  all_goals
    go_wp2
    go_ret
    exact ⟨rfl, B1.out⟩

set_option maxHeartbeats 2000000 in
set_option maxRecDepth 100000 in
theorem dec18_b (v2 : Int) (v3 : List UInt8) (k2 : ¬ v2 = 1) (w : World) : Calls Tryz.prog 89 #[.int .i64 18, .agg #[.int .i64 2, .int .i64 v2, .string (S v3)]] w fun e w' => e = .returned (.bool false) ∧ Below w.heap.size w w' := by
  have CF := truth_v true
  simp only [if_true] at CF
  have k2' : (v2 == 1) = false := beq_eq_false_iff_ne.2 k2
  have HB : Hid (∀ w' : World, Below (w.heap.size + 1) (w.alloc (.cells #[.int .i64 2, .int .i64 v2, .string (S v3)] 48)).drew w' → Below w.heap.size w w' ∧ w'.cell? ⟨w.heap.size, 0, none⟩ = some (.int .i64 2) ∧ w'.cell? ⟨w.heap.size, 1, none⟩ = some (.int .i64 v2) ∧ w'.cell? ⟨w.heap.size, 2, none⟩ = some (.string (S v3)) ∧ w.heap.size < w'.heap.size) := fun w' hb1 => by
    have hb : Below (w.heap.size + 1) (w.alloc (.cells #[.int .i64 2, .int .i64 v2, .string (S v3)] 48)) w' := (Below.refl _ _).drew.trans hb1
    exact ⟨((Below.refl _ w).alloc (Nat.le_refl _) _).trans (hb.mono (Nat.le_succ _)), (hb.cell (p := ⟨w.heap.size, 0, none⟩) (Nat.lt_succ_self _)).trans (World.cell?_alloc_new _ _ _ _), (hb.cell (p := ⟨w.heap.size, 1, none⟩) (Nat.lt_succ_self _)).trans (World.cell?_alloc_new _ _ _ _), (hb.cell (p := ⟨w.heap.size, 2, none⟩) (Nat.lt_succ_self _)).trans (World.cell?_alloc_new _ _ _ _), by have := hb.size; rw [World.size_alloc] at this; omega⟩
  go_enter Tryz.func89, Tryz.ntmps89
  go_wp2
  go_region_with (go_at_call 72; refine (CF _).mono ?_; rintro e u1 ⟨rfl, bu1⟩; obtain ⟨b1, s0, s1, s2, hz⟩ := HB.out u1 (by simpa using bu1); have B1 : Hid (Below w.heap.size w u1) := b1; clear b1 bu1)
  all_goals
    go_wp2
    go_ret
    exact ⟨rfl, B1.out⟩

set_option maxHeartbeats 2000000 in
set_option maxRecDepth 100000 in
theorem dec18_c (v3 : List UInt8) (k3 : ¬ v3 = []) (w : World) : Calls Tryz.prog 89 #[.int .i64 18, .agg #[.int .i64 2, .int .i64 1, .string (S v3)]] w fun e w' => e = .returned (.bool false) ∧ Below w.heap.size w w' := by
  have CF := truth_v true
  simp only [if_true] at CF
  have k4 : ¬ (S v3).toList = [] := by rw [S_toList]; exact k3
  have k5 : ((S v3).toList == []) = false := beq_eq_false_iff_ne.2 k4
  have HB : Hid (∀ w' : World, Below (w.heap.size + 1) (w.alloc (.cells #[.int .i64 2, .int .i64 1, .string (S v3)] 48)).drew w' → Below w.heap.size w w' ∧ w'.cell? ⟨w.heap.size, 0, none⟩ = some (.int .i64 2) ∧ w'.cell? ⟨w.heap.size, 1, none⟩ = some (.int .i64 1) ∧ w'.cell? ⟨w.heap.size, 2, none⟩ = some (.string (S v3)) ∧ w.heap.size < w'.heap.size) := fun w' hb1 => by
    have hb : Below (w.heap.size + 1) (w.alloc (.cells #[.int .i64 2, .int .i64 1, .string (S v3)] 48)) w' := (Below.refl _ _).drew.trans hb1
    exact ⟨((Below.refl _ w).alloc (Nat.le_refl _) _).trans (hb.mono (Nat.le_succ _)), (hb.cell (p := ⟨w.heap.size, 0, none⟩) (Nat.lt_succ_self _)).trans (World.cell?_alloc_new _ _ _ _), (hb.cell (p := ⟨w.heap.size, 1, none⟩) (Nat.lt_succ_self _)).trans (World.cell?_alloc_new _ _ _ _), (hb.cell (p := ⟨w.heap.size, 2, none⟩) (Nat.lt_succ_self _)).trans (World.cell?_alloc_new _ _ _ _), by have := hb.size; rw [World.size_alloc] at this; omega⟩
  go_enter Tryz.func89, Tryz.ntmps89
  go_wp2
  go_region_with (go_at_call 72; refine (CF _).mono ?_; rintro e u1 ⟨rfl, bu1⟩; obtain ⟨b1, s0, s1, s2, hz⟩ := HB.out u1 (by simpa using bu1); have B1 : Hid (Below w.heap.size w u1) := b1; clear b1 bu1)
  all_goals
    go_wp2
    go_ret
    exact ⟨rfl, B1.out⟩

set_option maxHeartbeats 2000000 in
set_option maxRecDepth 100000 in
theorem dec18_d (v3 : List UInt8) (k3 : v3 = []) (w : World) : Calls Tryz.prog 89 #[.int .i64 18, .agg #[.int .i64 2, .int .i64 1, .string (S v3)]] w fun e w' => e = .returned (.bool true) ∧ Below w.heap.size w w' := by
  have CF := truth_v true
  simp only [if_true] at CF
  have k5 : ((S v3).toList == []) = true := by rw [S_toList, k3]; rfl
  have k6 : (([] : List UInt8) == []) = true := rfl
  clear k3
  have HB : Hid (∀ w' : World, Below (w.heap.size + 1) (w.alloc (.cells #[.int .i64 2, .int .i64 1, .string (S v3)] 48)).drew w' → Below w.heap.size w w' ∧ w'.cell? ⟨w.heap.size, 0, none⟩ = some (.int .i64 2) ∧ w'.cell? ⟨w.heap.size, 1, none⟩ = some (.int .i64 1) ∧ w'.cell? ⟨w.heap.size, 2, none⟩ = some (.string (S v3)) ∧ w.heap.size < w'.heap.size) := fun w' hb1 => by
    have hb : Below (w.heap.size + 1) (w.alloc (.cells #[.int .i64 2, .int .i64 1, .string (S v3)] 48)) w' := (Below.refl _ _).drew.trans hb1
    exact ⟨((Below.refl _ w).alloc (Nat.le_refl _) _).trans (hb.mono (Nat.le_succ _)), (hb.cell (p := ⟨w.heap.size, 0, none⟩) (Nat.lt_succ_self _)).trans (World.cell?_alloc_new _ _ _ _), (hb.cell (p := ⟨w.heap.size, 1, none⟩) (Nat.lt_succ_self _)).trans (World.cell?_alloc_new _ _ _ _), (hb.cell (p := ⟨w.heap.size, 2, none⟩) (Nat.lt_succ_self _)).trans (World.cell?_alloc_new _ _ _ _), by have := hb.size; rw [World.size_alloc] at this; omega⟩
  go_enter Tryz.func89, Tryz.ntmps89
  go_wp2
  go_region_with (go_at_call 72; refine (CF _).mono ?_; rintro e u1 ⟨rfl, bu1⟩; obtain ⟨b1, s0, s1, s2, hz⟩ := HB.out u1 (by simpa using bu1); have B1 : Hid (Below w.heap.size w u1) := b1; clear b1 bu1)
  all_goals
    go_wp2
    go_ret
    exact ⟨rfl, B1.out⟩

set_option maxHeartbeats 400000 in
theorem decides_any (op : Int) (v : V9) (w : World) : Calls Tryz.prog 89 #[.int .i64 op, vA' v] w fun e w' => e = .returned (.bool (dcd op v)) ∧ Below w.heap.size w w' := by
  obtain ⟨v1, v2, v3⟩ := v
  unfold vA'
  simp only
  by_cases o1 : op = 17
  · subst o1
    by_cases k1 : v1 = 2
    · subst k1
      by_cases k2 : v2 = 0
      · subst k2
        by_cases k3 : v3 = []
        · subst k3
          rw [show dcd 17 (2, 0, []) = true from by decide]
          exact dec17_d [] rfl w
        · rw [show dcd 17 (2, 0, v3) = false from by unfold dcd; simp [k3]]
          exact dec17_c v3 k3 w
      · rw [show dcd 17 (2, v2, v3) = false from by unfold dcd; simp [k2]]
        exact dec17_b v2 v3 k2 w
    · rw [show dcd 17 (v1, v2, v3) = false from by unfold dcd; simp [k1]]
      exact dec17_a v1 v2 v3 k1 w
  by_cases o2 : op = 18
  · subst o2
    by_cases k1 : v1 = 2
    · subst k1
      by_cases k2 : v2 = 1
      · subst k2
        by_cases k3 : v3 = []
        · subst k3
          rw [show dcd 18 (2, 1, []) = true from by decide]
          exact dec18_d [] rfl w
        · rw [show dcd 18 (2, 1, v3) = false from by unfold dcd; simp [k3]]
          exact dec18_c v3 k3 w
      · rw [show dcd 18 (2, v2, v3) = false from by unfold dcd; simp [k2]]
        exact dec18_b v2 v3 k2 w
    · rw [show dcd 18 (v1, v2, v3) = false from by unfold dcd; simp [k1]]
      exact dec18_a v1 v2 v3 k1 w
  have hd : dcd op (v1, v2, v3) = false := by
    unfold dcd
    simp [o1, o2]
  rw [hd]
  have b1 : (op == 17) = false := beq_eq_false_iff_ne.2 o1
  have b2 : (op == 18) = false := beq_eq_false_iff_ne.2 o2
  go_enter Tryz.func89, Tryz.ntmps89
  go_wp2
  go_quiet (fail)
  go_wp2
  go_ret
  exact ⟨rfl, below_drewN ((Below.refl _ w).alloc (Nat.le_refl _) _) _⟩
end Go.Proofs.YtpbfdaijnndilaaGreatDoor.x10

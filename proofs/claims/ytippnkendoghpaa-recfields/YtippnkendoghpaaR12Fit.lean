/-
  Package rec's fits: may a record be, field by field?
-/
import Derived.Test.YtippnkendoghpaaR12Tkn
import Derived.BigQuiet
import Derived.Deep.RegionHeld3
namespace Go.Proofs.Ytippnkendoghpaa.r12
open Go.RowKit Go.Shelf Go.Sort
open Go.Lib hiding intOf

set_option maxHeartbeats 400000 in
theorem lastKind_any (c : Int) (w : World) : Calls Try.prog 33 #[.int .i64 c] w fun e w' => e = .returned (.int .i64 (lk c)) ∧ w' = w := by
  unfold lk
  by_cases h1 : c = 1
  · subst h1
    go_enter Try.func33, Try.ntmps33
    go_wp2
    go_ret
    exact ⟨rfl, rfl⟩
  · rw [if_neg h1]
    have d1 : (c == 1) = false := beq_eq_false_iff_ne.2 h1
    by_cases h3 : c = 3
    · subst h3
      go_enter Try.func33, Try.ntmps33
      go_wp2
      go_ret
      exact ⟨rfl, rfl⟩
    · rw [if_neg h3]
      have d3 : (c == 3) = false := beq_eq_false_iff_ne.2 h3
      by_cases h2 : c = 2
      · subst h2
        go_enter Try.func33, Try.ntmps33
        go_wp2
        go_ret
        exact ⟨rfl, rfl⟩
      · rw [if_neg h2]
        have d2 : (c == 2) = false := beq_eq_false_iff_ne.2 h2
        clear h1 h2 h3
        go_enter Try.func33, Try.ntmps33
        go_wp2
        go_ret
        exact ⟨rfl, rfl⟩

set_option maxHeartbeats 1000000 in
theorem mostA_any (cl kd tm n m : Int) (fr k1 k2 k3 : Nat) (sa sb sc : ByteArray) (va : Option Addr) (vl vc : Nat) (w : World) : Calls Try.prog 34 #[.agg #[.int .i64 cl, .int .i64 kd, .int .u64 (fr : Int), .int .i64 tm, .int .u64 (k1 : Int), .int .u64 (k2 : Int), .int .u64 (k3 : Int), .int .i64 n, .int .i64 m, .string sa, .string sb, .string sc, .slice va vl vc]] w fun e w' => e = .returned (.int .i64 (if cl = 1 ∧ kd = 1 then 8192 else 32)) ∧ Below w.heap.size w w' := by
  have HB : Hid (Below w.heap.size w (w.alloc (.cells #[.int .i64 cl, .int .i64 kd, .int .u64 (fr : Int), .int .i64 tm, .int .u64 (k1 : Int), .int .u64 (k2 : Int), .int .u64 (k3 : Int), .int .i64 n, .int .i64 m, .string sa, .string sb, .string sc, .slice va vl vc] 25))) := (Below.refl _ _).alloc (Nat.le_refl _) _
  by_cases h1 : cl = 1
  · by_cases h2 : kd = 1
    · rw [if_pos ⟨h1, h2⟩]
      subst h1 h2
      go_enter Try.func34, Try.ntmps34
      go_wp2
      go_ret
      exact ⟨rfl, HB.out⟩
    · rw [if_neg (fun h => h2 h.2)]
      subst h1
      have d2 : (kd == 1) = false := beq_eq_false_iff_ne.2 h2
      clear h2
      go_enter Try.func34, Try.ntmps34
      go_wp2
      go_ret
      exact ⟨rfl, HB.out⟩
  · rw [if_neg (fun h => h1 h.1)]
    have d1 : (cl == 1) = false := beq_eq_false_iff_ne.2 h1
    clear h1
    go_enter Try.func34, Try.ntmps34
    go_wp2
    go_ret
    exact ⟨rfl, HB.out⟩

set_option maxHeartbeats 1000000 in
theorem mostB_any (cl kd tm n m : Int) (fr k1 k2 k3 : Nat) (sa sb sc : ByteArray) (va : Option Addr) (vl vc : Nat) (w : World) : Calls Try.prog 35 #[.agg #[.int .i64 cl, .int .i64 kd, .int .u64 (fr : Int), .int .i64 tm, .int .u64 (k1 : Int), .int .u64 (k2 : Int), .int .u64 (k3 : Int), .int .i64 n, .int .i64 m, .string sa, .string sb, .string sc, .slice va vl vc]] w fun e w' => e = .returned (.int .i64 (if cl = 2 ∧ kd = 1 then 8192 else 1024)) ∧ Below w.heap.size w w' := by
  have HB : Hid (Below w.heap.size w (w.alloc (.cells #[.int .i64 cl, .int .i64 kd, .int .u64 (fr : Int), .int .i64 tm, .int .u64 (k1 : Int), .int .u64 (k2 : Int), .int .u64 (k3 : Int), .int .i64 n, .int .i64 m, .string sa, .string sb, .string sc, .slice va vl vc] 25))) := (Below.refl _ _).alloc (Nat.le_refl _) _
  by_cases h1 : cl = 2
  · by_cases h2 : kd = 1
    · rw [if_pos ⟨h1, h2⟩]
      subst h1 h2
      go_enter Try.func35, Try.ntmps35
      go_wp2
      go_ret
      exact ⟨rfl, HB.out⟩
    · rw [if_neg (fun h => h2 h.2)]
      subst h1
      have d2 : (kd == 1) = false := beq_eq_false_iff_ne.2 h2
      clear h2
      go_enter Try.func35, Try.ntmps35
      go_wp2
      go_ret
      exact ⟨rfl, HB.out⟩
  · rw [if_neg (fun h => h1 h.1)]
    have d1 : (cl == 2) = false := beq_eq_false_iff_ne.2 h1
    clear h1
    go_enter Try.func35, Try.ntmps35
    go_wp2
    go_ret
    exact ⟨rfl, HB.out⟩

set_option maxHeartbeats 4000000 in
set_option maxRecDepth 100000 in
theorem fits_f1 (cl kd tm n m : Int) (fr k1 k2 k3 : Nat) (sa sb sc : ByteArray) (va : Option Addr) (vl vc : Nat) (h : ¬ 1 ≤ kd) (w : World) : Calls Try.prog 17 #[.agg #[.int .i64 cl, .int .i64 kd, .int .u64 (fr : Int), .int .i64 tm, .int .u64 (k1 : Int), .int .u64 (k2 : Int), .int .u64 (k3 : Int), .int .i64 n, .int .i64 m, .string sa, .string sb, .string sc, .slice va vl vc]] w fun e w' => e = .returned (.bool false) ∧ Below w.heap.size w w' := by
  have d1 : decide (1 ≤ kd) = false := decide_eq_false (by omega)
  clear h
  have CL : ∀ W, Calls Try.prog 33 #[.int .i64 cl] W fun e w' => e = .returned (.int .i64 (lk cl)) ∧ ∃ m, w' = W.drewN m := fun W => (lastKind_any cl W).mono fun e w' hh => ⟨hh.1, 0, by rw [hh.2, World.drewN_zero]⟩
  have B1 : Hid (Below w.heap.size w (w.alloc (.cells #[.int .i64 cl, .int .i64 kd, .int .u64 (fr : Int), .int .i64 tm, .int .u64 (k1 : Int), .int .u64 (k2 : Int), .int .u64 (k3 : Int), .int .i64 n, .int .i64 m, .string sa, .string sb, .string sc, .slice va vl vc] 25))) := (Below.refl _ w).alloc (Nat.le_refl _) _
  generalize lk cl = q at *
  go_enter Try.func17, Try.ntmps17
  go_wp2
  go_quiet ((go_at_call 33; refine Calls.quiet_of (CL _)))
  go_wp2
  go_ret
  exact ⟨rfl, below_drewN B1.out _⟩

set_option maxHeartbeats 4000000 in
set_option maxRecDepth 100000 in
theorem fits_f2 (cl kd tm n m : Int) (fr k1 k2 k3 : Nat) (sa sb sc : ByteArray) (va : Option Addr) (vl vc : Nat) (h1 : 1 ≤ kd) (h : ¬ kd ≤ lk cl) (w : World) : Calls Try.prog 17 #[.agg #[.int .i64 cl, .int .i64 kd, .int .u64 (fr : Int), .int .i64 tm, .int .u64 (k1 : Int), .int .u64 (k2 : Int), .int .u64 (k3 : Int), .int .i64 n, .int .i64 m, .string sa, .string sb, .string sc, .slice va vl vc]] w fun e w' => e = .returned (.bool false) ∧ Below w.heap.size w w' := by
  have d1 : decide (1 ≤ kd) = true := decide_eq_true (by omega)
  have d2 : decide (kd ≤ lk cl) = false := decide_eq_false (by omega)
  clear h1 h
  have CL : ∀ W, Calls Try.prog 33 #[.int .i64 cl] W fun e w' => e = .returned (.int .i64 (lk cl)) ∧ ∃ m, w' = W.drewN m := fun W => (lastKind_any cl W).mono fun e w' hh => ⟨hh.1, 0, by rw [hh.2, World.drewN_zero]⟩
  have B1 : Hid (Below w.heap.size w (w.alloc (.cells #[.int .i64 cl, .int .i64 kd, .int .u64 (fr : Int), .int .i64 tm, .int .u64 (k1 : Int), .int .u64 (k2 : Int), .int .u64 (k3 : Int), .int .i64 n, .int .i64 m, .string sa, .string sb, .string sc, .slice va vl vc] 25))) := (Below.refl _ w).alloc (Nat.le_refl _) _
  generalize lk cl = q at *
  go_enter Try.func17, Try.ntmps17
  go_wp2
  go_quiet ((go_at_call 33; refine Calls.quiet_of (CL _)))
  go_wp2
  go_ret
  exact ⟨rfl, below_drewN B1.out _⟩

set_option maxHeartbeats 4000000 in
set_option maxRecDepth 100000 in
theorem fits_f3 (cl kd tm n m : Int) (fr k1 k2 k3 : Nat) (sa sb sc : ByteArray) (va : Option Addr) (vl vc : Nat) (h1 : 1 ≤ kd) (h2 : kd ≤ lk cl) (h : ¬ (fr = 0 ↔ cl = 1)) (w : World) : Calls Try.prog 17 #[.agg #[.int .i64 cl, .int .i64 kd, .int .u64 (fr : Int), .int .i64 tm, .int .u64 (k1 : Int), .int .u64 (k2 : Int), .int .u64 (k3 : Int), .int .i64 n, .int .i64 m, .string sa, .string sb, .string sc, .slice va vl vc]] w fun e w' => e = .returned (.bool false) ∧ Below w.heap.size w w' := by
  have d1 : decide (1 ≤ kd) = true := decide_eq_true (by omega)
  have d2 : decide (kd ≤ lk cl) = true := decide_eq_true (by omega)
  have d3 : ((fr : Int) == 0) = !(cl == 1) := by
    by_cases e : cl = 1
    · subst e; simp; omega
    · rw [beq_eq_false_iff_ne.2 e]; simp; omega
  obtain ⟨p, hp⟩ : ∃ p, (cl == 1) = p := ⟨_, rfl⟩
  rw [hp] at d3
  clear h1 h2 h
  have CL : ∀ W, Calls Try.prog 33 #[.int .i64 cl] W fun e w' => e = .returned (.int .i64 (lk cl)) ∧ ∃ m, w' = W.drewN m := fun W => (lastKind_any cl W).mono fun e w' hh => ⟨hh.1, 0, by rw [hh.2, World.drewN_zero]⟩
  have B1 : Hid (Below w.heap.size w (w.alloc (.cells #[.int .i64 cl, .int .i64 kd, .int .u64 (fr : Int), .int .i64 tm, .int .u64 (k1 : Int), .int .u64 (k2 : Int), .int .u64 (k3 : Int), .int .i64 n, .int .i64 m, .string sa, .string sb, .string sc, .slice va vl vc] 25))) := (Below.refl _ w).alloc (Nat.le_refl _) _
  generalize lk cl = q at *
  go_enter Try.func17, Try.ntmps17
  go_wp2
  go_quiet ((go_at_call 33; refine Calls.quiet_of (CL _)))
  go_wp2
  go_ret
  exact ⟨rfl, below_drewN B1.out _⟩

set_option maxHeartbeats 4000000 in
set_option maxRecDepth 100000 in
theorem fits_f4 (cl kd tm n m : Int) (fr k1 k2 k3 : Nat) (sa sb sc : ByteArray) (va : Option Addr) (vl vc : Nat) (h1 : 1 ≤ kd) (h2 : kd ≤ lk cl) (h3 : fr = 0 ↔ cl = 1) (h : ¬ 0 ≤ tm) (w : World) : Calls Try.prog 17 #[.agg #[.int .i64 cl, .int .i64 kd, .int .u64 (fr : Int), .int .i64 tm, .int .u64 (k1 : Int), .int .u64 (k2 : Int), .int .u64 (k3 : Int), .int .i64 n, .int .i64 m, .string sa, .string sb, .string sc, .slice va vl vc]] w fun e w' => e = .returned (.bool false) ∧ Below w.heap.size w w' := by
  have d1 : decide (1 ≤ kd) = true := decide_eq_true (by omega)
  have d2 : decide (kd ≤ lk cl) = true := decide_eq_true (by omega)
  have d3 : ((fr : Int) == 0) = (cl == 1) := by
    by_cases e : cl = 1
    · subst e; simp; omega
    · rw [beq_eq_false_iff_ne.2 e]; simp; omega
  obtain ⟨p, hp⟩ : ∃ p, (cl == 1) = p := ⟨_, rfl⟩
  rw [hp] at d3
  have d4 : decide (0 ≤ tm) = false := decide_eq_false (by omega)
  clear h1 h2 h3 h
  have CL : ∀ W, Calls Try.prog 33 #[.int .i64 cl] W fun e w' => e = .returned (.int .i64 (lk cl)) ∧ ∃ m, w' = W.drewN m := fun W => (lastKind_any cl W).mono fun e w' hh => ⟨hh.1, 0, by rw [hh.2, World.drewN_zero]⟩
  have B1 : Hid (Below w.heap.size w (w.alloc (.cells #[.int .i64 cl, .int .i64 kd, .int .u64 (fr : Int), .int .i64 tm, .int .u64 (k1 : Int), .int .u64 (k2 : Int), .int .u64 (k3 : Int), .int .i64 n, .int .i64 m, .string sa, .string sb, .string sc, .slice va vl vc] 25))) := (Below.refl _ w).alloc (Nat.le_refl _) _
  generalize lk cl = q at *
  go_enter Try.func17, Try.ntmps17
  go_wp2
  go_quiet ((go_at_call 33; refine Calls.quiet_of (CL _)))
  go_wp2
  go_ret
  exact ⟨rfl, below_drewN B1.out _⟩

set_option maxHeartbeats 4000000 in
set_option maxRecDepth 100000 in
theorem fits_f5 (cl kd tm n m : Int) (fr k1 k2 k3 : Nat) (sa sb sc : ByteArray) (va : Option Addr) (vl vc : Nat) (h1 : 1 ≤ kd) (h2 : kd ≤ lk cl) (h3 : fr = 0 ↔ cl = 1) (h4 : 0 ≤ tm) (h : ¬ tm ≤ 1099511627776) (w : World) : Calls Try.prog 17 #[.agg #[.int .i64 cl, .int .i64 kd, .int .u64 (fr : Int), .int .i64 tm, .int .u64 (k1 : Int), .int .u64 (k2 : Int), .int .u64 (k3 : Int), .int .i64 n, .int .i64 m, .string sa, .string sb, .string sc, .slice va vl vc]] w fun e w' => e = .returned (.bool false) ∧ Below w.heap.size w w' := by
  have d1 : decide (1 ≤ kd) = true := decide_eq_true (by omega)
  have d2 : decide (kd ≤ lk cl) = true := decide_eq_true (by omega)
  have d3 : ((fr : Int) == 0) = (cl == 1) := by
    by_cases e : cl = 1
    · subst e; simp; omega
    · rw [beq_eq_false_iff_ne.2 e]; simp; omega
  obtain ⟨p, hp⟩ : ∃ p, (cl == 1) = p := ⟨_, rfl⟩
  rw [hp] at d3
  have d4 : decide (0 ≤ tm) = true := decide_eq_true (by omega)
  have d5 : decide (tm ≤ 1099511627776) = false := decide_eq_false (by omega)
  clear h1 h2 h3 h4 h
  have CL : ∀ W, Calls Try.prog 33 #[.int .i64 cl] W fun e w' => e = .returned (.int .i64 (lk cl)) ∧ ∃ m, w' = W.drewN m := fun W => (lastKind_any cl W).mono fun e w' hh => ⟨hh.1, 0, by rw [hh.2, World.drewN_zero]⟩
  have B1 : Hid (Below w.heap.size w (w.alloc (.cells #[.int .i64 cl, .int .i64 kd, .int .u64 (fr : Int), .int .i64 tm, .int .u64 (k1 : Int), .int .u64 (k2 : Int), .int .u64 (k3 : Int), .int .i64 n, .int .i64 m, .string sa, .string sb, .string sc, .slice va vl vc] 25))) := (Below.refl _ w).alloc (Nat.le_refl _) _
  generalize lk cl = q at *
  go_enter Try.func17, Try.ntmps17
  go_wp2
  go_quiet ((go_at_call 33; refine Calls.quiet_of (CL _)))
  go_wp2
  go_ret
  exact ⟨rfl, below_drewN B1.out _⟩
end Go.Proofs.Ytippnkendoghpaa.r12

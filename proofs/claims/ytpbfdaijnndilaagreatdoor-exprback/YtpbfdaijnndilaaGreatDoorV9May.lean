/-
  Package value's May, Less, letter, digit, and the document's May, Less: what they come to.
-/
import Derived.Test.YtpbfdaijnndilaaGreatDoorV9Pure
import Derived.Test.YtpbfdaijnndilaaGreatDoorRLess
namespace Go.Proofs.YtpbfdaijnndilaaGreatDoor
open Go.RowKit Go.Shelf Go.Sort
open Go.Lib hiding intOf

/-- a value as it stands -/
def vA (v : V9) : Value := .agg #[.int .i64 v.1, .int .i64 v.2.1, .string (S v.2.2)]
theorem S_emp {s : List UInt8} (h : s ≠ []) : (S s).toList.isEmpty = false := by
  rw [S_toList]
  cases s with
  | nil => exact absurd rfl h
  | cons _ _ => rfl
theorem S_nil_emp : (S []).toList.isEmpty = true := by simp [S_toList]

set_option maxHeartbeats 1000000 in
theorem May_any (v : V9) (w : World) : Calls Tryz.prog 67 #[vA v] w fun e w' => e = .returned (.bool (mayV v)) ∧ Below w.heap.size w w' := by
  obtain ⟨k, n, s⟩ := v
  have B1 : Hid (Below w.heap.size w (w.alloc (.cells #[.int .i64 k, .int .i64 n, .string (S s)] 48))) := (Below.refl _ w).alloc (Nat.le_refl _) _
  have hsz := S_size s
  have hem := S_nil_emp
  by_cases h3 : k = 3
  · subst h3
    have HE : Hid (mayV (3, n, s) = (decide (n = 0) && decide ((s.length : Int) ≤ 1024))) := by
      show _ = _
      simp [mayV]
      rw [Bool.eq_iff_iff]; simp
      omega
    by_cases hn : n = 0
    · subst hn
      unfold vA
      go_enter Tryz.func67, Tryz.ntmps67
      go_wp2
      go_ret
      rw [HE.out]
      exact ⟨by simp, B1.out⟩
    · have hn' : ((n : Int) == 0) = false := beq_eq_false_iff_ne.2 hn
      have HE2 : Hid (mayV (3, n, s) = false) := by show _ = _; rw [HE.out]; simp [hn]
      clear HE hn
      unfold vA
      go_enter Tryz.func67, Tryz.ntmps67
      go_wp2
      go_ret
      rw [HE2.out]
      exact ⟨by simp, B1.out⟩
  · have h3' : ((k : Int) == 3) = false := beq_eq_false_iff_ne.2 h3
    by_cases h1 : k = 1
    · subst h1
      cases s with
      | nil =>
        have HE : Hid (mayV (1, n, []) = true) := by show _ = _; simp [mayV]
        unfold vA
        go_enter Tryz.func67, Tryz.ntmps67
        go_wp2
        go_ret
        rw [HE.out]
        exact ⟨rfl, B1.out⟩
      | cons c t =>
        have hne := S_emp (List.cons_ne_nil c t)
        have HE : Hid (mayV (1, n, c :: t) = false) := by show _ = _; simp [mayV]
        unfold vA
        go_enter Tryz.func67, Tryz.ntmps67
        go_wp2
        go_ret
        rw [HE.out]
        exact ⟨rfl, B1.out⟩
    · have h1' : ((k : Int) == 1) = false := beq_eq_false_iff_ne.2 h1
      by_cases h2 : k = 2
      · subst h2
        have hcs : n = 0 ∨ n = 1 ∨ (¬ n = 0 ∧ ¬ n = 1) := by omega
        cases s with
        | nil =>
          rcases hcs with rfl | rfl | ⟨q0, q1⟩
          · unfold vA
            go_enter Tryz.func67, Tryz.ntmps67
            go_wp2
            go_ret
            exact ⟨rfl, B1.out⟩
          · unfold vA
            go_enter Tryz.func67, Tryz.ntmps67
            go_wp2
            go_ret
            exact ⟨rfl, B1.out⟩
          · have HE : Hid (mayV (2, n, []) = false) := by show _ = _; simp [mayV, q0, q1]
            have q0' : ((n : Int) != 0) = true := bne_iff_ne.2 q0
            have q1' : ((n : Int) != 1) = true := bne_iff_ne.2 q1
            clear q0 q1
            unfold vA
            go_enter Tryz.func67, Tryz.ntmps67
            go_wp2
            go_ret
            rw [HE.out]
            exact ⟨rfl, B1.out⟩
        | cons c t =>
          have hne := S_emp (List.cons_ne_nil c t)
          have HE : Hid (mayV (2, n, c :: t) = false) := by show _ = _; simp [mayV]
          rcases hcs with rfl | rfl | ⟨q0, q1⟩
          · unfold vA
            go_enter Tryz.func67, Tryz.ntmps67
            go_wp2
            go_ret
            rw [HE.out]
            exact ⟨rfl, B1.out⟩
          · unfold vA
            go_enter Tryz.func67, Tryz.ntmps67
            go_wp2
            go_ret
            rw [HE.out]
            exact ⟨rfl, B1.out⟩
          · have q0' : ((n : Int) != 0) = true := bne_iff_ne.2 q0
            have q1' : ((n : Int) != 1) = true := bne_iff_ne.2 q1
            clear q0 q1
            unfold vA
            go_enter Tryz.func67, Tryz.ntmps67
            go_wp2
            go_ret
            rw [HE.out]
            exact ⟨rfl, B1.out⟩
      · have h2' : ((k : Int) == 2) = false := beq_eq_false_iff_ne.2 h2
        have HE : Hid (mayV (k, n, s) = false) := by show _ = _; simp [mayV, h1, h2, h3]
        clear h1 h2 h3
        unfold vA
        go_enter Tryz.func67, Tryz.ntmps67
        go_wp2
        go_ret
        rw [HE.out]
        exact ⟨rfl, B1.out⟩

set_option maxHeartbeats 1000000 in
theorem letter_any (c : UInt8) (w : World) : Calls Tryz.prog 113 #[.int .u8 (c.toNat : Int)] w fun e w' => e = .returned (.bool (isL c)) ∧ w' = w := by
  by_cases h1 : 97 ≤ c.toNat
  · have h1' : (97 : Int) ≤ (c.toNat : Int) := by omega
    by_cases h2 : c.toNat ≤ 122
    · have h2' : (c.toNat : Int) ≤ 122 := by omega
      have HE : Hid (isL c = true) := by show _ = _; simp [isL, h1, h2]
      go_enter Tryz.func113, Tryz.ntmps113
      go_wp2
      go_ret
      rw [HE.out]
      exact ⟨by simp, rfl⟩
    · have h2' : ¬ (c.toNat : Int) ≤ 122 := by omega
      have HE : Hid (isL c = false) := by show _ = _; simp [isL]; omega
      go_enter Tryz.func113, Tryz.ntmps113
      go_wp2
      go_ret
      rw [HE.out]
      exact ⟨by simp, rfl⟩
  · have h1' : ¬ (97 : Int) ≤ (c.toNat : Int) := by omega
    have HE : Hid (isL c = false) := by show _ = _; simp [isL]; omega
    go_enter Tryz.func113, Tryz.ntmps113
    go_wp2
    go_ret
    rw [HE.out]
    exact ⟨rfl, rfl⟩
def isD (c : UInt8) : Bool := decide (48 ≤ c.toNat ∧ c.toNat ≤ 57)
set_option maxHeartbeats 1000000 in
theorem digit_any (c : UInt8) (w : World) : Calls Tryz.prog 114 #[.int .u8 (c.toNat : Int)] w fun e w' => e = .returned (.bool (isD c)) ∧ w' = w := by
  by_cases h1 : 48 ≤ c.toNat
  · have h1' : (48 : Int) ≤ (c.toNat : Int) := by omega
    by_cases h2 : c.toNat ≤ 57
    · have h2' : (c.toNat : Int) ≤ 57 := by omega
      have HE : Hid (isD c = true) := by show _ = _; simp [isD, h1, h2]
      go_enter Tryz.func114, Tryz.ntmps114
      go_wp2
      go_ret
      rw [HE.out]
      exact ⟨by simp, rfl⟩
    · have h2' : ¬ (c.toNat : Int) ≤ 57 := by omega
      have HE : Hid (isD c = false) := by show _ = _; simp [isD]; omega
      go_enter Tryz.func114, Tryz.ntmps114
      go_wp2
      go_ret
      rw [HE.out]
      exact ⟨by simp, rfl⟩
  · have h1' : ¬ (48 : Int) ≤ (c.toNat : Int) := by omega
    have HE : Hid (isD c = false) := by show _ = _; simp [isD]; omega
    go_enter Tryz.func114, Tryz.ntmps114
    go_wp2
    go_ret
    rw [HE.out]
    exact ⟨rfl, rfl⟩

set_option maxHeartbeats 1000000 in
theorem lesV_any (a b : V9) (w : World) : Calls Tryz.prog 83 #[vA a, vA b] w fun e w' => e = .returned (.bool (lesV a b)) ∧ Below w.heap.size w w' := by
  obtain ⟨k, n, s⟩ := a
  obtain ⟨j, m, t⟩ := b
  have B1 : Hid (Below w.heap.size w ((w.alloc (.cells #[.int .i64 k, .int .i64 n, .string (S s)] 48)).alloc (.cells #[.int .i64 j, .int .i64 m, .string (S t)] 48))) := ((Below.refl _ w).alloc (Nat.le_refl _) _).alloc (by simp) _
  have hlt : ∀ x y, Op.bytesLess x.toList y.toList = lt x y := fun _ _ => rfl
  by_cases h1 : k = j
  · subst h1
    have c1 : ((k : Int) != k) = false := by simp
    by_cases h2 : n = m
    · subst h2
      have c2 : ((n : Int) != n) = false := by simp
      have HE : Hid (lesV (k, n, s) (k, n, t) = lt (S s) (S t)) := by show _ = _; simp [lesV]
      unfold vA
      go_enter Tryz.func83, Tryz.ntmps83
      go_wp2
      go_ret
      rw [HE.out]
      exact ⟨rfl, B1.out⟩
    · have c2 : ((n : Int) != m) = true := bne_iff_ne.2 h2
      have HE : Hid (lesV (k, n, s) (k, m, t) = decide (n < m)) := by show _ = _; simp [lesV, h2]
      clear h2
      unfold vA
      go_enter Tryz.func83, Tryz.ntmps83
      go_wp2
      go_ret
      rw [HE.out]
      exact ⟨rfl, B1.out⟩
  · have c1 : ((k : Int) != j) = true := bne_iff_ne.2 h1
    have HE : Hid (lesV (k, n, s) (j, m, t) = decide (k < j)) := by show _ = _; simp [lesV, h1]
    clear h1
    unfold vA
    go_enter Tryz.func83, Tryz.ntmps83
    go_wp2
    go_ret
    rw [HE.out]
    exact ⟨rfl, B1.out⟩
end Go.Proofs.YtpbfdaijnndilaaGreatDoor

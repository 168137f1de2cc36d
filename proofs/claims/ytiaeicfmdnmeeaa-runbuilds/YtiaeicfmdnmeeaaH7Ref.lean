/-
  The document's own May and bytes, of one row.
-/
import Derived.Test.YtiaeicfmdnmeeaaH7RefN
namespace Go.Proofs.Ytiaeicfmdnmeeaa
open Go.RowKit Go.Shelf Go.Sort
open Go.Lib hiding intOf
attribute [local go_sem] Oper.semAt_some

/-- a row as a value -/
def rv (x : R7) : Value := .agg #[.string (S x.1), .string (S x.2.1), .bool x.2.2]

set_option maxRecDepth 100000 in
set_option maxHeartbeats 4000000 in
theorem rMay_any (x : R7) (w : World) :
    Calls Try.prog 16 #[rv x] w fun e w' => e = .returned (.int .i64 (may x : Int)) ∧ Below w.heap.size w w' := by
  obtain ⟨a, b, g⟩ := x
  have ha := S_size a
  have hb := S_size b
  unfold rv may
  simp only
  by_cases h1 : 64 < a.length
  · have h1' : (64 : Int) < (a.length : Int) := by omega
    rw [if_pos (.inl h1)]
    go_enter Try.func16, Try.ntmps16
    go_wp2
    go_ret
    exact ⟨rfl, (Below.refl _ _).alloc (Nat.le_refl _) _⟩
  · have h1' : ¬ (64 : Int) < (a.length : Int) := by omega
    by_cases h2 : 16384 < b.length
    · have h2' : (16384 : Int) < (b.length : Int) := by omega
      rw [if_pos (.inr h2)]
      go_enter Try.func16, Try.ntmps16
      go_wp2
      go_ret
      exact ⟨rfl, (Below.refl _ _).alloc (Nat.le_refl _) _⟩
    · have h2' : ¬ (16384 : Int) < (b.length : Int) := by omega
      rw [if_neg (by omega)]
      cases g with
      | false =>
        rw [if_neg (by simp)]
        go_enter Try.func16, Try.ntmps16
        go_wp2
        go_ret
        exact ⟨rfl, (Below.refl _ _).alloc (Nat.le_refl _) _⟩
      | true =>
        cases b with
        | nil =>
          rw [if_neg (by simp)]
          have e0 : S [] = ⟨#[]⟩ := rfl
          rw [e0] at hb ⊢
          go_enter Try.func16, Try.ntmps16
          go_wp2
          go_ret
          exact ⟨rfl, (Below.refl _ _).alloc (Nat.le_refl _) _⟩
        | cons y t =>
          rw [if_pos ⟨rfl, by simp⟩]
          have e1 : (S (y :: t)).toList.isEmpty = false := by rw [S_toList]; rfl
          generalize (y :: t) = b at *
          go_enter Try.func16, Try.ntmps16
          go_wp2
          go_ret
          exact ⟨rfl, (Below.refl _ _).alloc (Nat.le_refl _) _⟩

theorem mark_S (g : Bool) : S [mark g] = if g then ⟨#[1]⟩ else ⟨#[0]⟩ := by cases g <;> rfl
set_option maxRecDepth 100000 in
set_option maxHeartbeats 4000000 in
theorem rbytes_any (x : R7) (h1 : x.1.length ≤ 140737488355328) (h2 : x.2.1.length ≤ 140737488355328) (w : World) :
    Calls Try.prog 18 #[rv x] w fun e w' => e = .returned (.string (S (rb x))) ∧ Below w.heap.size w w' := by
  obtain ⟨a, b, g⟩ := x
  simp only at h1 h2
  have hA := fun w => refText_any a h1 w
  have hB := fun w => refText_any b h2 w
  have t1 : (txt a).length ≤ 140737488355340 := by
    have := Lib.uvarint_length64 (show a.length < 18446744073709551616 by omega)
    have := txt_length a
    omega
  have t2 : (txt b).length ≤ 140737488355340 := by
    have := Lib.uvarint_length64 (show b.length < 18446744073709551616 by omega)
    have := txt_length b
    omega
  have s1 := S_size (txt a)
  have s2 := S_size (txt b)
  have s3 : (S (txt a ++ [mark g])).size = (txt a).length + 1 := by rw [S_size]; simp
  have hap : S (txt a) ++ S [mark g] = S (txt a ++ [mark g]) := S_append _ _
  have hap2 : S (txt a ++ [mark g]) ++ S (txt b) = S (rb (a, b, g)) := by rw [S_append]; simp [rb]
  unfold rv
  simp only
  have HC : Hid (∀ W, Below (w.alloc (.cells #[.string (S a), .string (S b), .bool g] 41)).heap.size (w.alloc (.cells #[.string (S a), .string (S b), .bool g] 41)) W → W.cell? ⟨w.heap.size, 0, none⟩ = some (.string (S a)) ∧ W.cell? ⟨w.heap.size, 1, none⟩ = some (.string (S b)) ∧ Below w.heap.size w W) := fun W hb => by
    have h := (hb.block w.heap.size (by simp)).trans (heap_alloc_new w _)
    exact ⟨by simp [World.cell?, h], by simp [World.cell?, h], bel_of ((Below.refl _ w).alloc (Nat.le_refl _) _) hb (Nat.le_refl _)⟩
  cases g
  all_goals
    simp only [mark_S, if_true, Bool.false_eq_true, if_false] at hap
    go_enter Try.func18, Try.ntmps18
    go_wp2
    go_region_with (first
      | (go_at_call_of 21 (Value.string (S a)); refine (hA _).mono ?_; rintro e w1 ⟨rfl, b1⟩; obtain ⟨k0, k1, k2⟩ := HC.out w1 ⟨b1.os, b1.tape, b1.output, b1.size, b1.block⟩; have K2 : Hid _ := k2; clear b1 k2)
      | (go_at_call 21; refine (hB _).mono ?_; rintro e w2 ⟨rfl, b2⟩; (have B2 : Hid (Below w.heap.size w w2) := bel_of K2.out b2 (Nat.le_refl _)); clear b2))
    all_goals
      go_wp2
      go_ret
      exact ⟨rfl, B2.out⟩
end Go.Proofs.Ytiaeicfmdnmeeaa

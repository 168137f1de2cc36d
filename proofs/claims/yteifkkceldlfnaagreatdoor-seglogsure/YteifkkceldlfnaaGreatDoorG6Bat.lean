/-
  Batches in a file, and what a beginning of it has of them.
-/
import Derived.Test.YteifkkceldlfnaaGreatDoorG6LdP
namespace Go.Proofs.YteifkkceldlfnaaGreatDoor
open Go.RowKit Go.Shelf Go.Sort
open Go.Lib hiding intOf

/-- the bytes of batches, one behind the other, from position n on -/
def bby : Nat → List (List (List UInt8)) → List UInt8
  | _, [] => []
  | n, b :: t => bfr n b ++ bby (n + b.length) t
def BOk : Nat → List (List (List UInt8)) → Prop
  | _, [] => True
  | n, b :: t => isB b = true ∧ (lod n b).length ≤ 65536 ∧ n + b.length ≤ 1099511627777 ∧ BOk (n + b.length) t
theorem bby_append : ∀ (a c : List (List (List UInt8))) (n : Nat), bby n (a ++ c) = bby n a ++ bby (n + a.flatten.length) c
  | [], c, n => by simp [bby]
  | b :: a, c, n => by
    rw [List.cons_append, bby, bby, bby_append a c (n + b.length), List.append_assoc, List.flatten_cons, List.length_append, Nat.add_assoc]
theorem BOk.append : ∀ {a c : List (List (List UInt8))} {n : Nat}, BOk n a → BOk (n + a.flatten.length) c → BOk n (a ++ c)
  | [], c, n, _, h => by simpa using h
  | b :: a, c, n, h, k => by
    obtain ⟨h1, h2, h3, h4⟩ := h
    refine ⟨h1, h2, h3, h4.append ?_⟩
    rw [List.flatten_cons, List.length_append, ← Nat.add_assoc] at k
    exact k
theorem BOk.take : ∀ {a : List (List (List UInt8))} {n : Nat} (j : Nat), BOk n a → BOk n (a.take j)
  | [], n, j, h => by simpa using h
  | b :: a, n, 0, h => trivial
  | b :: a, n, j + 1, h => ⟨h.1, h.2.1, h.2.2.1, h.2.2.2.take j⟩
theorem tkB_lod {n : Nat} {b : List (List UInt8)} (hn : n < 18446744073709551616) (hb : isB b = true) : tkB 1 (lod n b) = some (n, b) := by
  have hb' := hb
  unfold isB at hb'
  simp only [Bool.and_eq_true, decide_eq_true_eq, List.all_eq_true] at hb'
  have e1 : rdU (lod n b) 0 = (n, lst b, 0) := by
    unfold rdU lod
    rw [numb_back0 hn]
    simp
  have e2 : rdL 256 4096 (lst b) 0 = (b, [], 0) := by
    have := lis_back (ls := b) (many := 256) (most := 4096) (by omega) (by omega) (fun s hs => by have := hb'.2 s hs; omega) []
    rw [List.append_nil] at this
    unfold rdL
    rw [this]
    simp
  unfold tkB
  simp only [e1, e2]
  simp [endOf, hb]
theorem frm_pos (k : UInt8) (l : List UInt8) : 0 < (frm k l).length := by
  unfold frm
  simp only [List.length_append, List.length_cons]
  omega
theorem fil_bby : ∀ {bs : List (List (List UInt8))} {n : Nat}, BOk n bs → filS n (fra (bby n bs)) = some bs.flatten ∧ god (fra (bby n bs)) = (bby n bs).length
  | [], n, _ => by
    have : fra (bby n []) = [] := rfl
    rw [this]
    exact ⟨rfl, rfl⟩
  | b :: t, n, ⟨h1, h2, h3, h4⟩ => by
    obtain ⟨i1, i2⟩ := fil_bby h4
    have e : fra (bby n (b :: t)) = (1, lod n b, (bfr n b).length) :: fra (bby (n + b.length) t) := fra_frm 1 (lod n b) _ h2
    rw [e]
    refine ⟨?_, ?_⟩
    · rw [filS, tkB_lod (by omega) h1]
      simp only
      rw [if_pos ⟨by first | trivial | rfl, h3⟩, i1]
      rfl
    · rw [bby, List.length_append, ← i2]
      simp [god]
/-- what a beginning of the bytes has: the first j batches, whole -/
theorem cut_bby : ∀ {bs : List (List (List UInt8))} {n k : Nat}, BOk n bs → ∃ j, j ≤ bs.length ∧ fra ((bby n bs).take k) = fra (bby n (bs.take j)) ∧ (k ≤ (bby n bs).length → (bby n (bs.take j)).length ≤ k) ∧ ∀ i, i ≤ bs.length → (bby n (bs.take i)).length ≤ k → i ≤ j
  | [], n, k, _ => ⟨0, Nat.le_refl _, by simp [bby], by simp [bby], fun i hi _ => hi⟩
  | b :: t, n, k, ⟨h1, h2, h3, h4⟩ => by
    by_cases hk : k < (bfr n b).length
    · refine ⟨0, Nat.zero_le _, ?_, fun _ => Nat.zero_le _, fun i hi hl => ?_⟩
      · have e : (bby n (b :: t)).take k = (frm 1 (lod n b)).take k := by
          show (bfr n b ++ _).take k = _
          rw [List.take_append_of_le_length (by omega)]
          rfl
        rw [e, fra_end (by rw [tak_cut 1 (lod n b) h2 hk]; decide)]
        rfl
      · cases i with
        | zero => exact Nat.le_refl _
        | succ i =>
          rw [List.take_succ_cons, bby, List.length_append] at hl
          omega
    · obtain ⟨j, j1, j2, j3, j4⟩ := cut_bby (k := k - (bfr n b).length) h4
      have e : (bby n (b :: t)).take k = frm 1 (lod n b) ++ (bby (n + b.length) t).take (k - (bfr n b).length) := by
        show (bfr n b ++ _).take k = _
        rw [List.take_append, List.take_of_length_le (by omega)]
        rfl
      refine ⟨j + 1, by simpa using j1, ?_, fun hl => ?_, fun i hi hl => ?_⟩
      · rw [e, fra_frm 1 (lod n b) _ h2, j2, List.take_succ_cons]
        exact (fra_frm 1 (lod n b) _ h2).symm
      · rw [List.take_succ_cons, bby, List.length_append]
        rw [bby, List.length_append] at hl
        have := j3 (by omega)
        omega
      · cases i with
        | zero => exact Nat.zero_le _
        | succ i =>
          rw [List.take_succ_cons, bby, List.length_append] at hl
          have := j4 i (by simpa using hi) (by omega)
          omega
end Go.Proofs.YteifkkceldlfnaaGreatDoor

/-
  The frames that stand one behind the other in some bytes, plain.
-/
import Derived.Test.YtbnfmaooailfeaaF5Back
namespace Go.Proofs.Ytbnfmaooailfeaa
open Go.RowKit

/-- a frame that was taken: kind, load, how many bytes -/
abbrev Fr := UInt8 × List UInt8 × Nat
def frs : Nat → List UInt8 → List Fr
  | 0, _ => []
  | f + 1, l => if (tak l).2.2.2 = 0 then ((tak l).1, (tak l).2.1, (tak l).2.2.1) :: frs f (l.drop (tak l).2.2.1) else []
/-- all of them -/
def fra (l : List UInt8) : List Fr := frs l.length l
theorem tak_ok {l : List UInt8} (h : (tak l).2.2.2 = 0) : 6 ≤ l.length ∧ 5 ≤ (tak l).2.2.1 ∧ (tak l).2.2.1 ≤ l.length := by
  unfold tak at h ⊢
  by_cases h6 : l.length < 6
  · rw [if_pos h6] at h; simp at h
  · rw [if_neg h6] at h ⊢
    obtain ⟨s, rest, e, hx⟩ : ∃ s rest e, tex 65536 (l.drop 5) = (s, rest, e) := ⟨_, _, _, rfl⟩
    have hl := tex_le 65536 (l.drop 5)
    rw [hx, List.length_drop] at hl
    rw [hx] at h ⊢
    simp only at h hl ⊢
    by_cases he : e ≠ 0
    · rw [if_pos he] at h; simp only at h; exact absurd h he
    · rw [if_neg he] at h ⊢
      by_cases hq : l.take 4 = four (sumOf ((l.drop 4).take (l.length - 4 - rest.length)))
      · rw [if_pos hq]; simp only; omega
      · rw [if_neg hq] at h; simp at h
theorem frs_fuel : ∀ (f : Nat) (l : List UInt8), l.length ≤ f → frs f l = frs l.length l
  | 0, l, h => by rw [show l.length = 0 by omega]
  | f + 1, l, h => by
    cases hn : l.length with
    | zero =>
      show (if (tak l).2.2.2 = 0 then _ else _) = []
      rw [if_neg (fun h0 => by have := tak_ok h0; omega)]
    | succ n =>
      show (if (tak l).2.2.2 = 0 then _ else _) = (if (tak l).2.2.2 = 0 then _ else _)
      by_cases h0 : (tak l).2.2.2 = 0
      · obtain ⟨h1, h2, h3⟩ := tak_ok h0
        rw [if_pos h0, if_pos h0]
        have hd : (l.drop (tak l).2.2.1).length = l.length - (tak l).2.2.1 := List.length_drop
        rw [frs_fuel f _ (by omega), frs_fuel n _ (by omega)]
      · rw [if_neg h0, if_neg h0]
theorem fra_step {l : List UInt8} (h : (tak l).2.2.2 = 0) : fra l = ((tak l).1, (tak l).2.1, (tak l).2.2.1) :: fra (l.drop (tak l).2.2.1) := by
  obtain ⟨h1, h2, h3⟩ := tak_ok h
  unfold fra
  obtain ⟨n, hn⟩ : ∃ n, l.length = n + 1 := ⟨l.length - 1, by omega⟩
  rw [hn]
  show (if (tak l).2.2.2 = 0 then _ else _) = _
  have hd : (l.drop (tak l).2.2.1).length = l.length - (tak l).2.2.1 := List.length_drop
  rw [if_pos h, frs_fuel n _ (by omega)]
theorem fra_end {l : List UInt8} (h : (tak l).2.2.2 ≠ 0) : fra l = [] := by
  unfold fra
  cases hn : l.length with
  | zero => rfl
  | succ n => exact if_neg h
/-- how many bytes these have -/
def god (l : List Fr) : Nat := (l.map (·.2.2)).sum
theorem god_le : ∀ (n : Nat) (l : List UInt8), l.length ≤ n → god (fra l) ≤ l.length
  | 0, l, h => by
    rw [fra_end (fun h0 => by have := tak_ok h0; omega)]; simp [god]
  | n + 1, l, h => by
    by_cases h0 : (tak l).2.2.2 = 0
    · obtain ⟨h1, h2, h3⟩ := tak_ok h0
      have hd : (l.drop (tak l).2.2.1).length = l.length - (tak l).2.2.1 := List.length_drop
      have := god_le n (l.drop (tak l).2.2.1) (by omega)
      rw [fra_step h0]
      simp only [god, List.map_cons, List.sum_cons] at this ⊢
      omega
    · rw [fra_end h0]; simp [god]
theorem god_snoc (l : List Fr) (x : Fr) : god (l ++ [x]) = god l + x.2.2 := by simp [god]
theorem god_append (a b : List Fr) : god (a ++ b) = god a + god b := by simp [god]
theorem fra_len : ∀ (n : Nat) (l : List UInt8), l.length ≤ n → 5 * (fra l).length ≤ l.length
  | 0, l, h => by
    rw [fra_end (fun h0 => by have := tak_ok h0; omega)]; simp
  | n + 1, l, h => by
    by_cases h0 : (tak l).2.2.2 = 0
    · obtain ⟨h1, h2, h3⟩ := tak_ok h0
      have hd : (l.drop (tak l).2.2.1).length = l.length - (tak l).2.2.1 := List.length_drop
      have := fra_len n (l.drop (tak l).2.2.1) (by omega)
      rw [fra_step h0, List.length_cons]
      omega
    · rw [fra_end h0]; simp
theorem fra_frm (k : UInt8) (l more : List UInt8) (hl : l.length ≤ 65536) : fra (frm k l ++ more) = (k, l, (frm k l).length) :: fra more := by
  have h := tak_back k l more hl
  rw [fra_step (by rw [h]), h]
  simp only
  rw [List.drop_left' rfl]
end Go.Proofs.Ytbnfmaooailfeaa

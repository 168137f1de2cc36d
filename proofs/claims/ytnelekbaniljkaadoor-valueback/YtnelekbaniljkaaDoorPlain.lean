/-
  What is written is read; no beginning of it is one; there is one form: said of the functions on lists of bytes by which the contracts speak.
-/
import Derived.Test.YtnelekbaniljkaaDoorLists
namespace Go.Proofs.YtnelekbaniljkaaDoor
open Go.RowKit

theorem pow_step (i : Nat) : 2 ^ ((i + 1) * 7) = 128 * 2 ^ (i * 7) := by rw [Nat.add_mul, Nat.pow_add, Nat.mul_comm]

theorem byte_big (y : Nat) : ((y % 128 + 128).toUInt8).toNat = y % 128 + 128 := Lib.toUInt8_toNat (by omega)
theorem byte_small {y : Nat} (h : y < 128) : (y.toUInt8).toNat = y := Lib.toUInt8_toNat (by omega)

/-- what was written is read, whatever follows -/
theorem numb_back : ∀ (f y i acc : Nat) (more : List UInt8), y < 128 ^ (f + 1) → y * 2 ^ (i * 7) < 18446744073709551616 → i ≤ 9 → (i = 0 ∨ 0 < y) →
    numb i acc (Lib.uvarint y ++ more) = (acc + y * 2 ^ (i * 7), more, 0)
  | f, y, i, acc, more, hf, hy, hi, h0 => by
    by_cases h128 : y < 128
    · rw [Lib.uvarint_small h128, List.singleton_append, numb, if_neg (by omega), byte_small h128, if_neg (by omega)]
      have hm : mayEnd i y = true := by
        unfold mayEnd
        split
        · rename_i h9
          subst h9
          have : y < 2 := by
            rcases Nat.lt_or_ge y 2 with h | h
            · exact h
            · have : 2 * 2 ^ (9 * 7) ≤ y * 2 ^ (9 * 7) := Nat.mul_le_mul_right _ h
              have e : 2 * 2 ^ (9 * 7) = 18446744073709551616 := by decide
              omega
          simp; omega
        · rcases h0 with h | h
          · simp [h]
          · simp [h]
      rw [if_pos hm, Nat.mod_eq_of_lt h128]
    · match f, hf with
      | 0, hf => simp at hf; omega
      | f + 1, hf =>
        have hp := pow_step i
        have hdm : y = 128 * (y / 128) + y % 128 := (Nat.div_add_mod y 128).symm
        have hmul : y * 2 ^ (i * 7) = (y / 128) * (128 * 2 ^ (i * 7)) + y % 128 * 2 ^ (i * 7) := by
          rw [← Nat.mul_assoc, ← Nat.add_mul, Nat.mul_comm (y / 128) 128, ← hdm]
        have hi9 : i + 1 ≤ 9 := by
          rcases Nat.lt_or_ge i 9 with h | h
          · omega
          · have e : i = 9 := by omega
            subst e
            have h1 : 128 * 2 ^ (9 * 7) ≤ y * 2 ^ (9 * 7) := Nat.mul_le_mul_right _ (by omega)
            have e2 : 128 * 2 ^ (9 * 7) = 1180591620717411303424 := by decide
            omega
        rw [Lib.uvarint_big (by omega), List.cons_append, numb, if_neg (by omega), byte_big, if_pos (by omega)]
        rw [numb_back f (y / 128) (i + 1) _ more (by rw [Nat.pow_succ] at hf; exact Nat.div_lt_of_lt_mul (by rw [Nat.mul_comm]; exact hf)) (by rw [hp]; omega) hi9 (.inr (by omega))]
        rw [hp]
        have e : (y % 128 + 128) % 128 = y % 128 := by omega
        rw [e, hmul]
        simp only [Prod.mk.injEq, and_true]
        omega

theorem numb_back0 {v : Nat} (hv : v < 18446744073709551616) (more : List UInt8) : numb 0 0 (Lib.uvarint v ++ more) = (v, more, 0) := by
  have h := numb_back 9 v 0 0 more (Nat.lt_of_lt_of_le hv (by decide)) (by simpa using hv) (by omega) (.inl rfl)
  simpa using h

/-- no beginning of a number is one -/
theorem numb_cut : ∀ (f y i acc k : Nat), y < 128 ^ (f + 1) → i + f ≤ 9 → k < (Lib.uvarint y).length → numb i acc ((Lib.uvarint y).take k) = (0, [], 2)
  | f, y, i, acc, 0, _, hi, _ => by rw [List.take_zero, numb, if_neg (by omega)]
  | f, y, i, acc, k + 1, hf, hi, hk => by
    by_cases h128 : y < 128
    · rw [Lib.uvarint_small h128] at hk; simp at hk
    · match f, hf with
      | 0, hf => simp at hf; omega
      | f + 1, hf =>
        rw [Lib.uvarint_big (by omega)] at hk ⊢
        rw [List.take_succ_cons, numb, if_neg (by omega), byte_big, if_pos (by omega)]
        exact numb_cut f (y / 128) (i + 1) _ k (by rw [Nat.pow_succ] at hf; exact Nat.div_lt_of_lt_mul (by rw [Nat.mul_comm]; exact hf)) (by omega) (by simpa using hk)

theorem numb_cut0 {v k : Nat} (hv : v < 18446744073709551616) (hk : k < (Lib.uvarint v).length) : numb 0 0 ((Lib.uvarint v).take k) = (0, [], 2) :=
  numb_cut 9 v 0 0 k (Nat.lt_of_lt_of_le hv (by decide)) (by omega) hk

/-- there is one form -/
theorem numb_one : ∀ (l : List UInt8) (i acc v : Nat) (rest : List UInt8), numb i acc l = (v, rest, 0) → ∃ y, l = Lib.uvarint y ++ rest ∧ v = acc + y * 2 ^ (i * 7) ∧ (i = 0 ∨ 0 < y)
  | [], i, acc, v, rest, h => by
    rw [numb] at h
    simp only [Prod.mk.injEq] at h
    have := h.2.2
    split at this <;> omega
  | c :: t, i, acc, v, rest, h => by
    have hc := c.toNat_lt
    rw [numb] at h
    split at h
    · simp at h
    · split at h
      · rename_i h128
        obtain ⟨y, ht, hv, hy⟩ := numb_one t (i + 1) _ v rest h
        have hy0 : 0 < y := by rcases hy with h | h <;> omega
        refine ⟨c.toNat % 128 + 128 * y, ?_, ?_, .inr (by omega)⟩
        · rw [Lib.uvarint_big (by omega), show (c.toNat % 128 + 128 * y) / 128 = y from by omega, ht, List.cons_append]
          congr 1
          apply UInt8.toNat_inj.1
          rw [byte_big]
          omega
        · rw [hv, pow_step, Nat.add_mul, Nat.mul_comm 128 y, Nat.mul_assoc]
          omega
      · rename_i h128
        split at h
        · rename_i hm
          simp only [Prod.mk.injEq, and_true] at h
          obtain ⟨rfl, rfl⟩ := h
          refine ⟨c.toNat, ?_, by rw [Nat.mod_eq_of_lt (by omega)], ?_⟩
          · rw [Lib.uvarint_small (by omega), List.singleton_append]
            congr 1
            apply UInt8.toNat_inj.1
            rw [byte_small (by omega)]
          · unfold mayEnd at hm
            split at hm
            · right; have : c.toNat = 1 := by simpa using hm
              omega
            · simpa using hm
        · simp at h

theorem numb_one0 {l rest : List UInt8} {v : Nat} (h : numb 0 0 l = (v, rest, 0)) : l = Lib.uvarint v ++ rest := by
  obtain ⟨y, h1, h2, _⟩ := numb_one l 0 0 v rest h
  simp at h2
  rw [h1, h2]

theorem cnt_back {n : Nat} {many : Int} (hn : n < 18446744073709551616) (hm : (n : Int) ≤ many) (more : List UInt8) : cnt many (Lib.uvarint n ++ more) = (n, more, 0) := by
  unfold cnt
  rw [numb_back0 hn]
  simp
  omega
theorem tex_back {s : List UInt8} {most : Int} (hs : s.length < 18446744073709551616) (hm : (s.length : Int) ≤ most) (more : List UInt8) : tex most (txt s ++ more) = (s, more, 0) := by
  unfold tex txt
  rw [List.append_assoc, cnt_back hs hm]
  simp
theorem cat_cons (s : List UInt8) (ls : List (List UInt8)) : cat (s :: ls) = txt s ++ cat ls := by simp [cat]
theorem texs_back {most : Int} : ∀ (ls acc : List (List UInt8)) (more : List UInt8), (∀ s ∈ ls, s.length < 18446744073709551616 ∧ (s.length : Int) ≤ most) → texs most ls.length acc (cat ls ++ more) = (acc ++ ls, more, 0)
  | [], acc, more, _ => by simp [texs, cat]
  | s :: ls, acc, more, h => by
    have hs := h s (by simp)
    rw [List.length_cons, texs, cat_cons, List.append_assoc, tex_back hs.1 hs.2]
    rw [if_neg (by simp)]
    rw [texs_back ls (acc ++ [s]) more (fun t ht => h t (by simp [ht]))]
    simp
theorem lis_back {ls : List (List UInt8)} {many most : Int} (hn : ls.length < 18446744073709551616) (hmany : (ls.length : Int) ≤ many) (h : ∀ s ∈ ls, s.length < 18446744073709551616 ∧ (s.length : Int) ≤ most) (more : List UInt8) : lis many most (lst ls ++ more) = (ls, more, 0) := by
  unfold lis lst
  rw [List.append_assoc, cnt_back hn hmany]
  rw [if_neg (by simp), texs_back ls [] more h]
  simp

theorem take_over {a b : List UInt8} {k : Nat} (h : a.length ≤ k) : (a ++ b).take k = a ++ b.take (k - a.length) := by
  rw [List.take_append, List.take_of_length_le h]
theorem take_under {a b : List UInt8} {k : Nat} (h : k < a.length) : (a ++ b).take k = a.take k := by
  rw [List.take_append, show k - a.length = 0 from by omega, List.take_zero, List.append_nil]

theorem cnt_cut {n k : Nat} {many : Int} (hn : n < 18446744073709551616) (hk : k < (Lib.uvarint n).length) : (cnt many ((Lib.uvarint n).take k)).2.2 = 2 := by
  unfold cnt
  rw [numb_cut0 hn hk]
  simp
theorem tex_cut {s : List UInt8} {k : Nat} {most : Int} (hs : s.length < 18446744073709551616) (hm : (s.length : Int) ≤ most) (hk : k < (txt s).length) : (tex most ((txt s).take k)).2.2 = 2 := by
  have hl := txt_length s
  unfold txt
  by_cases h : k < (Lib.uvarint s.length).length
  · rw [take_under h]
    unfold tex
    rw [if_pos (by rw [cnt_cut hs h]; decide)]
    exact cnt_cut hs h
  · rw [take_over (by omega)]
    unfold tex
    rw [cnt_back hs hm]
    rw [if_neg (by simp), if_pos (by simp only [List.length_take]; omega)]
theorem texs_cut {most : Int} : ∀ (ls acc : List (List UInt8)) (k : Nat), (∀ s ∈ ls, s.length < 18446744073709551616 ∧ (s.length : Int) ≤ most) → k < (cat ls).length → (texs most ls.length acc ((cat ls).take k)).2.2 = 2
  | [], acc, k, _, hk => by simp [cat] at hk
  | s :: ls, acc, k, h, hk => by
    have hs := h s (by simp)
    rw [List.length_cons, texs, cat_cons]
    rw [cat_cons, List.length_append] at hk
    by_cases hc : k < (txt s).length
    · rw [take_under hc, if_pos (by rw [tex_cut hs.1 hs.2 hc]; decide)]
      exact tex_cut hs.1 hs.2 hc
    · rw [take_over (by omega), tex_back hs.1 hs.2, if_neg (by simp)]
      exact texs_cut ls _ _ (fun t ht => h t (by simp [ht])) (by omega)
theorem lis_cut {ls : List (List UInt8)} {k : Nat} {many most : Int} (hn : ls.length < 18446744073709551616) (hmany : (ls.length : Int) ≤ many) (h : ∀ s ∈ ls, s.length < 18446744073709551616 ∧ (s.length : Int) ≤ most) (hk : k < (lst ls).length) : (lis many most ((lst ls).take k)).2.2 = 2 := by
  unfold lst at hk ⊢
  rw [List.length_append] at hk
  by_cases hc : k < (Lib.uvarint ls.length).length
  · rw [take_under hc]
    unfold lis
    rw [if_pos (by rw [cnt_cut hn hc]; decide)]
    exact cnt_cut hn hc
  · rw [take_over (by omega)]
    unfold lis
    rw [cnt_back hn hmany, if_neg (by simp)]
    exact texs_cut ls [] _ h (by omega)

theorem unzig (v : Int) : Lib.unzigzag (Lib.zigzag v) = v := by
  unfold Lib.zigzag
  split
  · unfold Lib.unzigzag
    rw [if_pos (by omega)]
    omega
  · unfold Lib.unzigzag
    rw [if_neg (by omega)]
    omega

end Go.Proofs.YtnelekbaniljkaaDoor

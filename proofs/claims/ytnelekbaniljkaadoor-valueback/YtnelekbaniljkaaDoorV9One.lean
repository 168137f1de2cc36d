/-
  Each value has one form and one text; what was written is taken: plain.
-/
import Derived.Test.YtnelekbaniljkaaDoorV9Ord
namespace Go.Proofs.YtnelekbaniljkaaDoor
open Go.RowKit Go.Shelf Go.Sort
open Go.Lib hiding intOf

theorem ne13 : ¬ (1 : Int) = 3 := by decide
theorem ne23 : ¬ (2 : Int) = 3 := by decide
theorem ne12 : ¬ (1 : Int) = 2 := by decide
theorem rdU_back {v : Nat} (hv : v < 18446744073709551616) (more : List UInt8) : rdU (Lib.uvarint v ++ more) 0 = (v, more, 0) := by unfold rdU; rw [numb_back0 hv]; rfl
theorem rdT_back {s : List UInt8} {most : Int} (hs : s.length < 18446744073709551616) (hm : (s.length : Int) ≤ most) (more : List UInt8) : rdT most (txt s ++ more) 0 = (s, more, 0) := by unfold rdT; rw [tex_back hs hm]; rfl
/-- what was written is taken, whatever follows -/
theorem tkV_back {v : V9} (hm : mayV v = true) (hk : Vk v) (more : List UInt8) : tkV (bytV v ++ more) = some (v, more) := by
  have h3 := may_kind hm
  have hl := may_len hm
  obtain ⟨k, n, s⟩ := v
  obtain ⟨-, ⟨n1, n2⟩, -⟩ := hk
  simp only at h3 hl n1 n2
  unfold bytV
  rw [if_pos hm]
  rcases h3 with rfl | rfl | rfl
  · rw [if_neg ne13, show (1 : Int).toNat.toUInt8 = (1 : UInt8) from rfl, List.cons_append]
    have hs : s = [] := by unfold mayV at hm; rw [if_neg ne13] at hm; exact (of_decide_eq_true hm).1
    subst hs
    simp only [tkV]
    rw [if_neg (by decide), rdU_back (Lib.zigzag_lt n1 n2)]
    simp only [unzig n]
    rw [if_pos ⟨trivial, hm⟩]
    rfl
  · rw [if_neg ne23, show (2 : Int).toNat.toUInt8 = (2 : UInt8) from rfl, List.cons_append]
    have hs : s = [] := by unfold mayV at hm; rw [if_neg ne23] at hm; exact (of_decide_eq_true hm).1
    subst hs
    simp only [tkV]
    rw [if_neg (by decide), rdU_back (Lib.zigzag_lt n1 n2)]
    simp only [unzig n]
    rw [if_pos ⟨trivial, hm⟩]
    rfl
  · rw [if_pos rfl, show (3 : Int).toNat.toUInt8 = (3 : UInt8) from rfl, List.cons_append]
    have hn : n = 0 := by unfold mayV at hm; rw [if_pos rfl] at hm; exact (of_decide_eq_true hm).1
    subst hn
    simp only [tkV]
    rw [if_pos (by decide), rdT_back (by omega) (by omega)]
    rfl
theorem byt_inj {a b : V9} (ha : mayV a = true) (hb : mayV b = true) (ka : Vk a) (kb : Vk b) (h : bytV a = bytV b) : a = b := by
  have h1 := tkV_back ha ka []
  have h2 := tkV_back hb kb []
  rw [h, h2] at h1
  simpa using h1.symm

/-- the number that digits spell -/
def dv (l : List UInt8) : Nat := l.foldl (fun a c => a * 10 + (c.toNat - 48)) 0
theorem dig_nat {r : Nat} (h : r < 10) : (UInt8.ofNat (48 + r)).toNat = 48 + r := by rw [UInt8.toNat_ofNat']; omega
theorem dv_dec : ∀ u : Nat, dv (Lib.decDigits u) = u
  | u => by
    by_cases h : u < 10
    · rw [Lib.decDigits_one h]
      simp only [dv, List.foldl_cons, List.foldl_nil]
      rw [dig_nat h]; omega
    · rw [Lib.decDigits, dif_neg h]
      have ih := dv_dec (u / 10)
      unfold dv at ih ⊢
      rw [List.foldl_append, ih]
      simp only [List.foldl_cons, List.foldl_nil]
      rw [dig_nat (Nat.mod_lt _ (by omega))]; omega
termination_by u => u
decreasing_by omega
theorem dec_digit : ∀ (u : Nat) (c : UInt8), c ∈ Lib.decDigits u → 48 ≤ c.toNat ∧ c.toNat ≤ 57
  | u, c, hc => by
    by_cases h : u < 10
    · rw [Lib.decDigits_one h] at hc
      simp only [List.mem_singleton] at hc
      subst hc
      rw [dig_nat h]; omega
    · rw [Lib.decDigits, dif_neg h] at hc
      rcases List.mem_append.1 hc with hc | hc
      · exact dec_digit (u / 10) c hc
      · simp only [List.mem_singleton] at hc
        subst hc
        rw [dig_nat (Nat.mod_lt _ (by omega))]; omega
termination_by u => u
decreasing_by omega
theorem dec_head (u : Nat) : ∃ c t, Lib.decDigits u = c :: t ∧ 48 ≤ c.toNat ∧ c.toNat ≤ 57 := by
  cases h : Lib.decDigits u with
  | nil =>
    exfalso
    have := Lib.decDigits_length u
    rw [h] at this
    have h2 : 1 ≤ Lib.nDigits u := by
      by_cases hu : u < 10
      · rw [Lib.nDigits_small hu]; exact Nat.le_refl _
      · rw [Lib.nDigits_big hu]; omega
    simp at this
    omega
  | cons c t => exact ⟨c, t, rfl, dec_digit u c (by rw [h]; simp)⟩
theorem itoa_head (n : Int) : ∃ c t, Lib.itoa n = c :: t ∧ (c.toNat = 45 ∨ (48 ≤ c.toNat ∧ c.toNat ≤ 57)) := by
  unfold Lib.itoa
  split
  · exact ⟨_, _, rfl, .inl rfl⟩
  · obtain ⟨c, t, h1, h2⟩ := dec_head n.toNat
    exact ⟨c, t, h1, .inr h2⟩
theorem itoa_inj {n m : Int} (h : Lib.itoa n = Lib.itoa m) : n = m := by
  unfold Lib.itoa at h
  by_cases h1 : n < 0
  · rw [if_pos h1] at h
    by_cases h2 : m < 0
    · rw [if_pos h2] at h
      have := congrArg dv (List.cons.inj h).2
      rw [dv_dec, dv_dec] at this
      omega
    · rw [if_neg h2] at h
      obtain ⟨c, t, e, hc⟩ := dec_head m.toNat
      rw [e] at h
      have := (List.cons.inj h).1
      subst this
      exact absurd hc.1 (by decide)
  · rw [if_neg h1] at h
    by_cases h2 : m < 0
    · rw [if_pos h2] at h
      obtain ⟨c, t, e, hc⟩ := dec_head n.toNat
      rw [e] at h
      have := (List.cons.inj h).1
      subst this
      exact absurd hc.1 (by decide)
    · rw [if_neg h2] at h
      have := congrArg dv h
      rw [dv_dec, dv_dec] at this
      omega
theorem hxd_nat {n : Nat} (h : n < 16) : (hxd n).toNat = if n < 10 then 48 + n else 87 + n := by
  unfold hxd
  split
  · rw [UInt8.toNat_ofNat']; omega
  · rw [UInt8.toNat_ofNat']; omega
theorem hxd_inj {a b : Nat} (ha : a < 16) (hb : b < 16) (h : hxd a = hxd b) : a = b := by
  have := congrArg UInt8.toNat h
  rw [hxd_nat ha, hxd_nat hb] at this
  split at this <;> split at this <;> omega
theorem byte_ext {c d : UInt8} (h : c.toNat = d.toNat) : c = d := UInt8.toNat_inj.1 h
theorem qc_pre {c d : UInt8} {r t : List UInt8} (h : qc c ++ r = qc d ++ t) : c = d ∧ r = t := by
  have hc := c.toNat_lt
  have hd := d.toNat_lt
  unfold qc at h
  by_cases q1 : c.toNat = 34 ∨ c.toNat = 92
  · rw [if_pos q1] at h
    by_cases q2 : d.toNat = 34 ∨ d.toNat = 92
    · rw [if_pos q2] at h
      simp only [List.cons_append, List.nil_append, List.cons.injEq, true_and] at h
      exact h
    · rw [if_neg q2] at h
      by_cases q3 : d.toNat < 32 ∨ 126 < d.toNat
      · rw [if_pos q3] at h
        simp only [List.cons_append, List.nil_append, List.cons.injEq, true_and] at h
        have := congrArg UInt8.toNat h.1
        have e : (120 : UInt8).toNat = 120 := rfl
        omega
      · rw [if_neg q3] at h
        simp only [List.cons_append, List.nil_append, List.cons.injEq] at h
        have := congrArg UInt8.toNat h.1
        have e : (92 : UInt8).toNat = 92 := rfl
        omega
  · rw [if_neg q1] at h
    by_cases q3 : c.toNat < 32 ∨ 126 < c.toNat
    · rw [if_pos q3] at h
      by_cases q2 : d.toNat = 34 ∨ d.toNat = 92
      · rw [if_pos q2] at h
        simp only [List.cons_append, List.nil_append, List.cons.injEq, true_and] at h
        have := congrArg UInt8.toNat h.1
        have e : (120 : UInt8).toNat = 120 := rfl
        omega
      · rw [if_neg q2] at h
        by_cases q4 : d.toNat < 32 ∨ 126 < d.toNat
        · rw [if_pos q4] at h
          simp only [List.cons_append, List.nil_append, List.cons.injEq, true_and] at h
          have e1 := hxd_inj (by omega) (by omega) h.1
          have e2 := hxd_inj (by omega) (by omega) h.2.1
          exact ⟨byte_ext (by omega), h.2.2⟩
        · rw [if_neg q4] at h
          simp only [List.cons_append, List.nil_append, List.cons.injEq] at h
          have := congrArg UInt8.toNat h.1
          have e : (92 : UInt8).toNat = 92 := rfl
          omega
    · rw [if_neg q3] at h
      by_cases q2 : d.toNat = 34 ∨ d.toNat = 92
      · rw [if_pos q2] at h
        simp only [List.cons_append, List.nil_append, List.cons.injEq] at h
        have := congrArg UInt8.toNat h.1
        have e : (92 : UInt8).toNat = 92 := rfl
        omega
      · rw [if_neg q2] at h
        by_cases q4 : d.toNat < 32 ∨ 126 < d.toNat
        · rw [if_pos q4] at h
          simp only [List.cons_append, List.nil_append, List.cons.injEq] at h
          have := congrArg UInt8.toNat h.1
          have e : (92 : UInt8).toNat = 92 := rfl
          omega
        · rw [if_neg q4] at h
          simp only [List.cons_append, List.nil_append, List.cons.injEq] at h
          exact h
theorem qc_ne (c : UInt8) : qc c ≠ [] := by
  unfold qc
  split
  · simp
  · split <;> simp
theorem flat_inj : ∀ (s t : List UInt8), s.flatMap qc = t.flatMap qc → s = t
  | [], [], _ => rfl
  | [], d :: t, h => by
    simp only [List.flatMap_nil, List.flatMap_cons] at h
    exact absurd (List.append_eq_nil_iff.1 h.symm).1 (qc_ne d)
  | c :: s, [], h => by
    simp only [List.flatMap_nil, List.flatMap_cons] at h
    exact absurd (List.append_eq_nil_iff.1 h).1 (qc_ne c)
  | c :: s, d :: t, h => by
    simp only [List.flatMap_cons] at h
    obtain ⟨rfl, h2⟩ := qc_pre h
    rw [flat_inj s t h2]
theorem quo_inj {s t : List UInt8} (h : quo s = quo t) : s = t := by
  unfold quo at h
  exact flat_inj s t (List.append_cancel_right (List.cons.inj h).2)
theorem may_ways {v : V9} (h : mayV v = true) : (∃ n, v = (1, n, [])) ∨ v = (2, 0, []) ∨ v = (2, 1, []) ∨ ∃ s, v = (3, 0, s) := by
  obtain ⟨k, n, s⟩ := v
  unfold mayV at h
  by_cases h3 : k = 3
  · rw [if_pos h3] at h
    have := (of_decide_eq_true h).1
    simp only at this
    exact .inr (.inr (.inr ⟨s, by rw [h3, this]⟩))
  · rw [if_neg h3] at h
    obtain ⟨h1, h2⟩ := of_decide_eq_true h
    simp only at h1 h2
    subst h1
    rcases h2 with rfl | ⟨rfl, rfl | rfl⟩
    · exact .inl ⟨n, rfl⟩
    · exact .inr (.inl rfl)
    · exact .inr (.inr (.inl rfl))
theorem shw_int (n : Int) : shw (1, n, []) = Lib.itoa n := by unfold shw; rw [if_pos (by simp [mayV]), if_neg ne13, if_neg ne12]
theorem shw_text {s : List UInt8} (h : mayV (3, 0, s) = true) : shw (3, 0, s) = quo s := by unfold shw; rw [if_pos h, if_pos rfl]
theorem shw_t : shw (2, 1, []) = [116, 114, 117, 101] := by decide
theorem shw_f : shw (2, 0, []) = [102, 97, 108, 115, 101] := by decide
theorem itoa_not {n : Int} {c : UInt8} {l : List UInt8} (h : Lib.itoa n = c :: l) (hc : c.toNat = 34 ∨ 58 ≤ c.toNat) : False := by
  obtain ⟨d, t, e, hd⟩ := itoa_head n
  rw [e] at h
  have := (List.cons.inj h).1
  subst this
  omega
theorem shw_inj {a b : V9} (ha : mayV a = true) (hb : mayV b = true) (h : shw a = shw b) : a = b := by
  rcases may_ways ha with ⟨n, rfl⟩ | rfl | rfl | ⟨s, rfl⟩ <;> rcases may_ways hb with ⟨m, rfl⟩ | rfl | rfl | ⟨t, rfl⟩
  · rw [shw_int, shw_int] at h; rw [itoa_inj h]
  · rw [shw_int, shw_f] at h; exact (itoa_not h (by decide)).elim
  · rw [shw_int, shw_t] at h; exact (itoa_not h (by decide)).elim
  · rw [shw_int, shw_text hb] at h; exact (itoa_not h (by decide)).elim
  · rw [shw_int, shw_f] at h; exact (itoa_not h.symm (by decide)).elim
  · rfl
  · rw [shw_f, shw_t] at h; exact absurd h (by decide)
  · rw [shw_f, shw_text hb] at h; exact absurd (List.cons.inj h).1 (by decide)
  · rw [shw_int, shw_t] at h; exact (itoa_not h.symm (by decide)).elim
  · rw [shw_f, shw_t] at h; exact absurd h (by decide)
  · rfl
  · rw [shw_t, shw_text hb] at h; exact absurd (List.cons.inj h).1 (by decide)
  · rw [shw_int, shw_text ha] at h; exact (itoa_not h.symm (by decide)).elim
  · rw [shw_f, shw_text ha] at h; exact absurd (List.cons.inj h).1 (by decide)
  · rw [shw_t, shw_text ha] at h; exact absurd (List.cons.inj h).1 (by decide)
  · rw [shw_text ha, shw_text hb] at h; rw [quo_inj h]
end Go.Proofs.YtnelekbaniljkaaDoor

/-
  The tokens of what is printed, as plain facts.
-/
import Derived.Test.YtpbfdaijnndilaaGreatDoorX10Bkt
import Derived.Test.YtpbfdaijnndilaaGreatDoorGExprW
import Derived.Lib.ItoaNum
namespace Go.Proofs.YtpbfdaijnndilaaGreatDoor.x10
open Go.RowKit Go.Shelf Go.Sort
open Go.Lib hiding intOf

theorem tw_all {p : UInt8 → Bool} : ∀ {l : List UInt8}, (∀ c ∈ l, p c = true) → l.takeWhile p = l
  | [], _ => rfl
  | c :: t, h => by rw [List.takeWhile_cons_of_pos (h c List.mem_cons_self), tw_all (fun x hx => h x (List.mem_cons_of_mem _ hx))]
theorem numD_snoc (l : List UInt8) (c : UInt8) : numD (l ++ [c]) = numD l * 10 + (c.toNat - 48) := by
  unfold numD
  rw [List.foldl_append]
  rfl
theorem dg_nat {k : Nat} (h : k < 10) : (UInt8.ofNat (48 + k)).toNat = 48 + k := by
  rw [UInt8.toNat_ofNat']
  omega
theorem dec_kD : ∀ (u : Nat), ∀ c ∈ decDigits u, kD c = true := by
  intro u
  induction u using Nat.strongRecOn with
  | ind u ih =>
    intro c hc
    have one : ∀ k, k < 10 → kD (UInt8.ofNat (48 + k)) = true := fun k hk => by
      unfold kD
      rw [dg_nat hk]
      simp
      omega
    rw [decDigits] at hc
    split at hc
    · rename_i h
      rw [List.mem_singleton] at hc
      subst hc
      exact one u h
    · rename_i h
      rcases List.mem_append.1 hc with hc | hc
      · exact ih (u / 10) (by omega) c hc
      · rw [List.mem_singleton] at hc
        subst hc
        exact one _ (Nat.mod_lt _ (by omega))
theorem numD_dec : ∀ (u : Nat), numD (decDigits u) = u := by
  intro u
  induction u using Nat.strongRecOn with
  | ind u ih =>
    rw [decDigits]
    split
    · rename_i h
      show 0 * 10 + ((UInt8.ofNat (48 + u)).toNat - 48) = u
      rw [dg_nat h]
      omega
    · rename_i h
      rw [numD_snoc, ih (u / 10) (by omega), dg_nat (Nat.mod_lt _ (by omega))]
      omega
theorem dec_head : ∀ (u : Nat), ∃ c r, decDigits u = c :: r ∧ (c = 48 → r = []) := by
  intro u
  induction u using Nat.strongRecOn with
  | ind u ih =>
    rw [decDigits]
    split
    · exact ⟨_, [], rfl, fun _ => rfl⟩
    · rename_i h
      obtain ⟨c, r, e, hc⟩ := ih (u / 10) (by omega)
      refine ⟨c, r ++ [UInt8.ofNat (48 + u % 10)], by rw [e]; rfl, fun q => ?_⟩
      exfalso
      have hr := hc q
      subst q hr
      have h2 := numD_dec (u / 10)
      rw [e] at h2
      have h3 : numD [48] = 0 := rfl
      omega
theorem tok_num {b u : Nat} (hu : u ≤ 9223372036854775807) : tok b (decDigits u) = .ok (⟨1, b, [], (1, (u : Int), [])⟩, (decDigits u).length) := by
  obtain ⟨c, r, e, hc⟩ := dec_head u
  have h1 := dec_kD u
  have h2 := numD_dec u
  rw [e] at h1 h2 ⊢
  unfold tok
  simp only
  rw [if_pos (h1 c List.mem_cons_self), tw_all h1, h2, if_pos ⟨hu, fun q => by obtain ⟨q1, q2⟩ := q; exact q2 (by rw [hc q1, q1])⟩]
theorem kD_kA {c : UInt8} (h : kA c = true) : kD c = false := by
  unfold kA kD at *
  simp at h ⊢
  omega
theorem nam_tok {b : Nat} {w : List UInt8} (h : namV w = true) : tok b w = .ok (⟨3, b, w, v0⟩, w.length) ∧ ∃ c r, w = c :: r ∧ kB c = false := by
  have h0 := h
  unfold namV at h
  simp only [Bool.and_eq_true, decide_eq_true_eq] at h
  obtain ⟨⟨⟨h1, h2⟩, h3⟩, h4⟩ := h
  cases w with
  | nil => simp at h2
  | cons c r =>
    have hL : isL c = true := by simpa using h3
    have hA : kA c = true := by unfold isL at hL; unfold kA; simp at hL ⊢; exact hL
    have hN : ∀ x ∈ c :: r, kW x = true := fun x hx => by
      have := List.all_eq_true.1 h4 x hx
      unfold isN isL at this
      unfold kW kA kD
      simp at this ⊢
      exact this
    refine ⟨?_, c, r, rfl, ?_⟩
    · unfold tok
      simp only
      rw [if_neg (by rw [kD_kA hA]; simp), if_pos hA, tw_all hN, h0]
      simp
    · unfold kA at hA
      unfold kB
      simp at hA ⊢
      omega
theorem hex_hxd : ∀ a : Fin 16, hexV (hxd a.val) = some a.val := by decide +kernel
theorem rdB1_qc (c : UInt8) (X : List UInt8) : rdB1 (qc c ++ X) = (c, (qc c).length) ∧ (qc c).length ≠ 0 := by
  unfold qc
  by_cases h1 : c.toNat = 34 ∨ c.toNat = 92
  · rw [if_pos h1]
    have hc : c = 34 ∨ c = 92 := h1.imp (fun h => UInt8.toNat_inj.1 h) (fun h => UInt8.toNat_inj.1 h)
    rcases hc with rfl | rfl <;> exact ⟨rfl, by simp⟩
  · rw [if_neg h1]
    by_cases h2 : c.toNat < 32 ∨ 126 < c.toNat
    · rw [if_pos h2]
      have hlt := c.toNat_lt
      have e1 := hex_hxd ⟨c.toNat / 16, by omega⟩
      have e2 := hex_hxd ⟨c.toNat % 16, by omega⟩
      simp only at e1 e2
      have e3 : UInt8.ofNat (16 * (c.toNat / 16) + c.toNat % 16) = c := by
        rw [Nat.div_add_mod]
        exact UInt8.ofNat_toNat
      have e4 : kS c = false := by
        unfold kS
        simp
        omega
      refine ⟨?_, by simp⟩
      show rdB1 (92 :: 120 :: hxd (c.toNat / 16) :: hxd (c.toNat % 16) :: X) = _
      unfold rdB1
      simp only [e1, e2, e3, e4]
      rfl
    · rw [if_neg h2]
      refine ⟨?_, by simp⟩
      have n2 : c ≠ 92 := fun e => h1 (.inr (by rw [e]; rfl))
      have e4 : kS c = true := by
        unfold kS
        simp
        omega
      show rdB1 (c :: X) = _
      unfold rdB1
      split
      · rename_i e; injection e with q1 q2; exact absurd q1 n2
      · rename_i e; injection e with q1 q2; exact absurd q1 n2
      · rename_i e; injection e with q1 q2; exact absurd q1 n2
      · rename_i e
        injection e with q1 q2
        subst q1
        rw [e4]
        simp
        exact ⟨fun e => h1 (.inl e), fun e => h1 (.inr e)⟩
      · rename_i e; cases e
theorem txs_qc (rest : List UInt8) : ∀ (t : List UInt8) (n : Nat) (acc : List UInt8), t.length ≤ n → txs n acc (t.flatMap qc ++ 34 :: rest) = (acc ++ t, 34 :: rest)
  | [], n, acc, _ => by
    rw [List.append_nil]
    cases n with
    | zero => rfl
    | succ n => rfl
  | c :: t, n, acc, h => by
    obtain ⟨n, rfl⟩ : ∃ k, n = k + 1 := ⟨n - 1, by simp at h; omega⟩
    obtain ⟨e1, e2⟩ := rdB1_qc c (t.flatMap qc ++ 34 :: rest)
    rw [List.flatMap_cons, List.append_assoc]
    unfold txs
    rw [e1, if_neg e2]
    simp only
    rw [List.drop_left, txs_qc rest t n _ (by simpa using h), List.append_assoc]
    rfl
theorem qc_len (t : List UInt8) : t.length ≤ (t.flatMap qc).length := by
  induction t with
  | nil => exact Nat.le_refl _
  | cons c t ih =>
    rw [List.flatMap_cons, List.length_append, List.length_cons]
    have := (rdB1_qc c []).2
    omega
theorem tok_quo (b : Nat) (t : List UInt8) : tok b (quo t) = .ok (⟨2, b, [], (3, 0, t)⟩, (quo t).length) := by
  unfold tok quo
  simp only
  rw [if_neg (by decide), if_neg (by decide), if_pos trivial]
  have hd : List.drop 1 (34 :: (t.flatMap qc ++ [34])) = t.flatMap qc ++ 34 :: [] := rfl
  rw [hd, txs_qc [] t _ [] (by rw [List.length_cons, List.length_append]; have := qc_len t; omega)]
  simp
/-- behind a token: nothing, or a blank -/
def Bk (r : List UInt8) : Prop := r = [] ∨ ∃ q, r = 32 :: q
/-- the token that a text has at a place, and the place behind it -/
def TA (t : List UInt8) (b : Nat) (k : Tk) (e : Nat) : Prop := ∀ st : Rs, st.beh = b → nxt t st = .ok { st with now := k, beh := e }
theorem ta_of {t T r : List UInt8} {b n : Nat} {k : Tk} (hd : t.drop b = T ++ r) (hT : ∃ c u, T = c :: u ∧ kB c = false) (hr : Bk r) (h : tok b T = .ok (k, n)) : TA t b k (b + n) := by
  obtain ⟨c, u, rfl, hc⟩ := hT
  intro st hst
  unfold nxt
  simp only
  have h0 : spn kB (t.drop b) = 0 := by
    rw [hd]
    unfold spn
    rw [List.cons_append, List.takeWhile_cons_of_neg (by rw [hc]; simp)]
    rfl
  rw [hst, h0, Nat.add_zero, hd]
  have h2 : tok b ((c :: u) ++ r) = .ok (k, n) := by
    rcases hr with rfl | ⟨q, rfl⟩
    · rw [List.append_nil]; exact h
    · have := (tok_app (k := 0) (q := q) (.inl rfl) h).1
      simpa using this
  rw [h2]
theorem ta_skip {t X : List UInt8} {b : Nat} {k : Tk} {e : Nat} (hd : t.drop b = 32 :: X) (h : TA t (b + 1) k e) : TA t b k e := by
  intro st hst
  have h1 := h { st with beh := b + 1 } rfl
  have hd1 : t.drop (b + 1) = X := by rw [← List.drop_drop, hd]; rfl
  have hs : spn kB (32 :: X) = 1 + spn kB X := by
    unfold spn
    rw [List.takeWhile_cons_of_pos (by rfl), List.length_cons]
    omega
  unfold nxt at h1 ⊢
  simp only at h1 ⊢
  rw [hst, hd, hs, ← Nat.add_assoc]
  rw [hd1] at h1
  rw [h1]
theorem ta_end {t : List UInt8} {b : Nat} (hd : t.length ≤ b) : TA t b ⟨0, b, [], v0⟩ b := by
  intro st hst
  unfold nxt
  simp only
  rw [hst, List.drop_eq_nil_of_le hd, show spn kB [] = 0 from rfl, Nat.add_zero, List.drop_eq_nil_of_le hd]
  rfl
/-- the token of an operator's sign -/
def sgK (op : Nat) : Int := if op = 4 ∨ op = 5 ∨ op = 17 ∨ op = 18 then 3 else 4
theorem sg_tok {b op : Nat} (h : 3 ≤ op ∧ op ≤ 18) : tok b (sgT (op : Int)) = .ok (⟨sgK op, b, sgT (op : Int), v0⟩, (sgT (op : Int)).length) ∧ (∃ c u, sgT (op : Int) = c :: u ∧ kB c = false) ∧ (6 ≤ op → twoH (sgT (op : Int)) = op) := by
  rcases (by omega : op = 3 ∨ op = 4 ∨ op = 5 ∨ op = 6 ∨ op = 7 ∨ op = 8 ∨ op = 9 ∨ op = 10 ∨ op = 11 ∨ op = 12 ∨ op = 13 ∨ op = 14 ∨ op = 15 ∨ op = 16 ∨ op = 17 ∨ op = 18) with rfl | rfl | rfl | rfl | rfl | rfl | rfl | rfl | rfl | rfl | rfl | rfl | rfl | rfl | rfl | rfl <;> exact ⟨rfl, ⟨_, _, rfl, rfl⟩, fun q => by first | omega | rfl⟩
end Go.Proofs.YtpbfdaijnndilaaGreatDoor.x10

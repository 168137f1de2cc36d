/-
  Contracts of the document's answer for what is read (wherryref01.Number, Reader's Uint, Int, Byte, Text, List, End), by the same functions on lists of bytes as those of package wire's reader; but for the reader's own block nothing that was there before the call is changed.
-/
import Derived.Test.YtaahmnkfjkbliaaDoorPlain
import Derived.Test.YtaahmnkfjkbliaaDoorListOwn
namespace Go.Proofs.YtaahmnkfjkbliaaDoor
open Go.RowKit

theorem S_get {l t : List UInt8} {c : UInt8} {k : Nat} (h : l.drop k = c :: t) (hk : k < (S l).size) : (S l)[k]'hk = c := by
  have hk2 : k < l.length := by rw [S_size] at hk; exact hk
  have h1 : l[k] = c := by
    have := List.getElem_drop (xs := l) (i := k) (j := 0) (h := by rw [h]; simp)
    simp [h] at this
    exact this.symm
  rw [← h1]
  rfl

theorem drop_step {l t : List UInt8} {c : UInt8} {k : Nat} (h : l.drop k = c :: t) : k < l.length ∧ l.drop (k + 1) = t ∧ t.length + (k + 1) = l.length := by
  have h1 : k < l.length := by
    rcases Nat.lt_or_ge k l.length with h2 | h2
    · exact h2
    · rw [List.drop_eq_nil_of_le h2] at h; cases h
  have h3 : l.drop (k + 1) = t := by
    rw [List.drop_eq_getElem_cons h1] at h
    exact (List.cons.inj h).2
  refine ⟨h1, h3, ?_⟩
  rw [← h3, List.length_drop]
  omega

set_option maxHeartbeats 4000000 in
set_option maxRecDepth 100000 in
theorem Number_res {l : List UInt8} (hl : l.length ≤ 9223372036854775800) {v er : Nat} {rest : List UInt8} (hres : Hid (numb 0 0 l = (v, rest, er))) (w : World) :
    Calls Tryd.prog 81 #[.string (S l)] w fun r w' => r = .returned (.tuple #[.int .u64 ((if er = 0 then v else 0 : Nat) : Int), .int .i64 ((if er = 0 then l.length - rest.length else 0 : Nat) : Int), .int .i64 (er : Int)]) ∧ w' = w := by
  have hss := S_size l
  go_enter Tryd.func81, Tryd.ntmps81
  go_wp2_with fail
  go_loop [5, 6, 7] (fun vv vs vi => ∃ k acc : Nat, vi = .int .i64 (k : Int) ∧ vv = .int .u64 (acc : Int) ∧ vs = .int .u64 ((2 ^ (k * 7) : Nat) : Int) ∧ k ≤ 9 ∧ k ≤ l.length ∧ acc < 2 ^ (k * 7) ∧ Hid (numb k acc (l.drop k) = (v, rest, er)))
    (fun _ _ vi => l.length - (intOf vi).toNat)
  case atStart => exact ⟨0, 0, rfl, rfl, rfl, by omega, by omega, by decide, hres⟩
  case round =>
    obtain ⟨k, acc, rfl, rfl, rfl, hk9, hkl, hacc, HN⟩ := hrel
    clear hres
    have hp63 : 2 ^ (k * 7) ≤ 2 ^ 63 := Nat.pow_le_pow_right (by decide) (by omega)
    have hpp : 0 < 2 ^ (k * 7) := Nat.two_pow_pos _
    have hstep := fun c => acc_step (c := c) hacc
    have hnext : 2 ^ ((k + 1) * 7) = 128 * 2 ^ (k * 7) := pow_step k
    cases hd : l.drop k with
    | nil =>
      have hkk : k = l.length := by
        have := List.drop_eq_nil_iff.1 hd
        omega
      rw [hd] at HN
      obtain ⟨rfl, rfl, rfl⟩ : v = 0 ∧ rest = [] ∧ er = 2 := by
        have := HN.out; rw [numb, if_neg (by omega), Prod.mk.injEq, Prod.mk.injEq] at this; exact ⟨this.1.symm, this.2.1.symm, this.2.2.symm⟩
      clear HN hd hstep hnext
      have hge : ¬ ((k : Int) < (l.length : Int)) := by omega
      go_wp2
      go_ret3
      exact ⟨rfl, rfl⟩
    | cons c t =>
      obtain ⟨hkl2, hd2, htl⟩ := drop_step hd
      have hksz : k < (S l).size := by rw [S_size]; exact hkl2
      have hget := S_get hd hksz
      have hc256 : c.toNat < 256 := c.toNat_lt
      rw [hd] at HN
      clear hd
      have hN := HN.out
      rw [numb, if_neg (by omega)] at hN
      obtain ⟨q, hq⟩ : ∃ q : Nat, q = c.toNat % 128 * 2 ^ (k * 7) := ⟨_, rfl⟩
      have hst := hstep c.toNat
      rw [← hq, hnext] at hst
      rw [← hq] at hN
      have hq1 : q ≤ 127 * 2 ^ (k * 7) := by rw [hq]; exact Nat.mul_le_mul_right _ (by omega)
      have hqi : ((c.toNat : Int) % 128 * ((2 ^ (k * 7) : Nat) : Int)) = (q : Int) := by rw [hq]; simp
      clear HN hstep
      by_cases h9 : k = 9
      · have e9 : ((k : Int) == 9) = true := beq_iff_eq.2 (by omega)
        have d0 : decide ((0 : Int) < (k : Int)) = true := decide_eq_true (by omega)
        have hkp : 0 < k := by omega
        by_cases hc1 : 1 < c.toNat
        · have d1 : decide ((1 : Int) < (c.toNat : Int)) = true := decide_eq_true (by omega)
          obtain ⟨rfl, rfl⟩ : v = 0 ∧ er = 3 := by
            split at hN
            · subst h9
              cases t with
              | nil => rw [numb, if_pos rfl] at hN; simp only [Prod.mk.injEq] at hN; exact ⟨hN.1.symm, hN.2.2.symm⟩
              | cons c2 t2 => rw [numb, if_pos rfl] at hN; simp only [Prod.mk.injEq] at hN; exact ⟨hN.1.symm, hN.2.2.symm⟩
            · rw [if_neg (by subst h9; simp [mayEnd]; omega)] at hN
              simp only [Prod.mk.injEq] at hN; exact ⟨hN.1.symm, hN.2.2.symm⟩
          clear hN hnext hq hqi hst hq1 h9
          go_wp2
          go_ret3
          exact ⟨rfl, rfl⟩
        · have d1 : decide ((1 : Int) < (c.toNat : Int)) = false := decide_eq_false (by omega)
          by_cases hc0 : c.toNat = 0
          · have z0 : ((c.toNat : Int) == 0) = true := beq_iff_eq.2 (by omega)
            obtain ⟨rfl, rfl⟩ : v = 0 ∧ er = 3 := by
              rw [if_neg (by omega), if_neg (by subst h9; simp [mayEnd]; omega)] at hN
              simp only [Prod.mk.injEq] at hN; exact ⟨hN.1.symm, hN.2.2.symm⟩
            clear hN hnext hq hqi hst hq1 h9 hc0
            go_wp2
            go_ret3
            exact ⟨rfl, rfl⟩
          · have z0 : ((c.toNat : Int) == 0) = false := beq_eq_false_iff_ne.2 (by omega)
            have hlt : (c.toNat : Int) < 128 := by omega
            have hcone : c.toNat = 1 := by omega
            obtain ⟨rfl, rfl, rfl⟩ : v = acc + q ∧ rest = t ∧ er = 0 := by
              rw [if_neg (by omega), if_pos (by subst h9; simp [mayEnd]; omega)] at hN
              simp only [Prod.mk.injEq] at hN; exact ⟨hN.1.symm, hN.2.1.symm, hN.2.2.symm⟩
            have hqle : q ≤ 9223372036854775808 := by rw [hq, hcone]; simpa using hp63
            have hacc2 : acc < 9223372036854775808 := Nat.lt_of_lt_of_le hacc hp63
            have hn1 : l.length - rest.length = k + 1 := by omega
            clear hN hnext hq hst hq1 h9 hc0 hcone hpp
            generalize hpg : 2 ^ (k * 7) = p at *
            have hp2 : p ≤ 9223372036854775808 := hp63
            clear hpg hp63
            go_wp2
            go_ret3
            exact ⟨rfl, rfl⟩
      · have e9 : ((k : Int) == 9) = false := beq_eq_false_iff_ne.2 (by omega)
        have hp56 : 128 * 2 ^ (k * 7) ≤ 2 ^ 63 := by rw [← hnext]; exact Nat.pow_le_pow_right (by decide) (by omega)
        by_cases hbad : 0 < k ∧ c.toNat = 0
        · have d0 : decide ((0 : Int) < (k : Int)) = true := decide_eq_true (by omega)
          have hkp : 0 < k := hbad.1
          have z0 : ((c.toNat : Int) == 0) = true := beq_iff_eq.2 (by omega)
          obtain ⟨rfl, rfl⟩ : v = 0 ∧ er = 3 := by
            rw [if_neg (by omega), if_neg (by simp [mayEnd, h9]; omega)] at hN
            simp only [Prod.mk.injEq] at hN; exact ⟨hN.1.symm, hN.2.2.symm⟩
          clear hN hnext hq hqi hst hq1 h9 hbad
          go_wp2
          go_ret3
          exact ⟨rfl, rfl⟩
        · have g0 : (((decide ((0 : Int) < (k : Int))) = false) ∧ ¬ 0 < k) ∨ ((c.toNat : Int) == 0) = false ∧ decide ((0 : Int) < (k : Int)) = true ∧ 0 < k := by
            by_cases h0 : 0 < k
            · exact .inr ⟨beq_eq_false_iff_ne.2 (by omega), decide_eq_true (by omega), h0⟩
            · exact .inl ⟨decide_eq_false (by omega), h0⟩
          have hacc2 : acc < 9223372036854775808 := Nat.lt_of_lt_of_le hacc hp63
          have hp2 : 128 * 2 ^ (k * 7) ≤ 9223372036854775808 := hp56
          by_cases hc : 128 ≤ c.toNat
          · rw [if_pos hc] at hN
            have HN2 : Hid (numb (k + 1) (acc + q) (l.drop (k + 1)) = (v, rest, er)) := by rw [hd2]; exact hN
            have HP : Hid (2 ^ ((k + 1) * 7) = 128 * 2 ^ (k * 7)) := hnext
            have hk8 : k + 1 ≤ 9 := by omega
            clear hN hnext hq h9 hbad hp56 hp63 hk9 hpp
            generalize 2 ^ (k * 7) = p at *
            rcases g0 with ⟨g0, hk0⟩ | ⟨z0, g0, hk0⟩
            all_goals
              go_wp2
              refine ⟨⟨k + 1, acc + q, by go_num, by go_num, ?_, hk8, by omega, by rw [HP.out]; exact hst, HN2⟩, by simp [intOf]; omega⟩
              rw [HP.out]
              go_num
          · rw [if_neg hc, if_pos (by simp [mayEnd, h9]; omega)] at hN
            obtain ⟨rfl, rfl, rfl⟩ : v = acc + q ∧ rest = t ∧ er = 0 := by
              simp only [Prod.mk.injEq] at hN; exact ⟨hN.1.symm, hN.2.1.symm, hN.2.2.symm⟩
            have hn1 : l.length - rest.length = k + 1 := by omega
            have hlt : (c.toNat : Int) < 128 := by omega
            clear hN hnext hq h9 hbad hp56 hp63 hpp
            generalize 2 ^ (k * 7) = p at *
            rcases g0 with ⟨g0, hk0⟩ | ⟨z0, g0, hk0⟩
            all_goals
              go_wp2
              go_ret3
              exact ⟨rfl, rfl⟩

theorem Number_ok {l : List UInt8} (hl : l.length ≤ 9223372036854775800) {v : Nat} {rest : List UInt8} (hres : Hid (numb 0 0 l = (v, rest, 0))) (w : World) :
    Calls Tryd.prog 81 #[.string (S l)] w fun r w' => r = .returned (.tuple #[.int .u64 (v : Int), .int .i64 ((l.length - rest.length : Nat) : Int), .int .i64 0]) ∧ w' = w := Number_res hl hres w
theorem Number_bad {l : List UInt8} (hl : l.length ≤ 9223372036854775800) {v er : Nat} {rest : List UInt8} (hres : Hid (numb 0 0 l = (v, rest, er))) (he : er ≠ 0) (w : World) :
    Calls Tryd.prog 81 #[.string (S l)] w fun r w' => r = .returned (.tuple #[.int .u64 0, .int .i64 0, .int .i64 (er : Int)]) ∧ w' = w := by
  have h := Number_res hl hres w
  rw [if_neg he, if_neg he] at h
  exact h

/-- A NUMBER, of a reader with l left and error e: the number, what is left then, its error then -/
def rdU (l : List UInt8) (e : Nat) : Nat × List UInt8 × Nat :=
  if e = 0 then (if (numb 0 0 l).2.2 = 0 then ((numb 0 0 l).1, (numb 0 0 l).2.1, 0) else (0, l, (numb 0 0 l).2.2)) else (0, l, e)

theorem Uint_all {b e v e2 : Nat} {l l2 : List UInt8} {w : World} (h : Rd w b l e) (hres : Hid (rdU l e = (v, l2, e2))) :
    Calls Tryd.prog 57 #[.pointer (some ⟨b, 0, none⟩)] w fun r w' => r = .returned (.int .u64 (v : Int)) ∧ Rd w' b l2 e2 ∧ But b w w' := by
  have hr := hres.out
  obtain ⟨v1, r1, f1, hn⟩ : ∃ v1 r1 f1, numb 0 0 l = (v1, r1, f1) := ⟨_, _, _, rfl⟩
  unfold rdU at hr
  rw [hn] at hr
  by_cases he : e = 0
  · subst he
    rw [if_pos rfl] at hr
    by_cases hf : f1 = 0
    · subst hf
      rw [if_pos rfl] at hr
      simp only [Prod.mk.injEq] at hr
      obtain ⟨rfl, rfl, rfl⟩ := hr
      exact Uint_ok h hn
    · rw [if_neg hf] at hr
      simp only [Prod.mk.injEq] at hr
      obtain ⟨rfl, rfl, rfl⟩ := hr
      exact Uint_bad h hn hf
  · rw [if_neg he] at hr
    simp only [Prod.mk.injEq] at hr
    obtain ⟨rfl, rfl, rfl⟩ := hr
    refine (Uint_wrong h he).mono ?_
    rintro r w' ⟨rfl, rfl⟩
    exact ⟨rfl, h, But.refl _ _⟩

theorem drop_rest {l rest : List UInt8} {v : Nat} (h : numb 0 0 l = (v, rest, 0)) : (S l).extract (l.length - rest.length) l.length = S rest ∧ rest.length ≤ l.length := by
  have h1 := numb_one0 h
  have h2 : l.length = (Lib.uvarint v).length + rest.length := by rw [h1, List.length_append]
  refine ⟨?_, by omega⟩
  rw [S_drop, show l.length - rest.length = (Lib.uvarint v).length from by omega]
  conv => lhs; rw [h1]
  rw [List.drop_left]

set_option maxHeartbeats 1000000 in
theorem rUint_all {b e v e2 : Nat} {l l2 : List UInt8} {w : World} (h : Rd w b l e) (hl : l.length ≤ 9223372036854775800) (hres : Hid (rdU l e = (v, l2, e2))) :
    Calls Tryd.prog 58 #[.pointer (some ⟨b, 0, none⟩)] w fun r w' => r = .returned (.int .u64 (v : Int)) ∧ Rd w' b l2 e2 ∧ But b w w' := by
  have hr := hres.out
  have hss := S_size l
  have c0 := h.rest
  have c1 := h.err
  have f0 := h.fr
  have f1' := h.fe
  obtain ⟨v1, r1, f1, hn⟩ : ∃ v1 r1 f1, numb 0 0 l = (v1, r1, f1) := ⟨_, _, _, rfl⟩
  have HN : Hid (numb 0 0 l = (v1, r1, f1)) := hn
  unfold rdU at hr
  rw [hn] at hr
  clear hres
  by_cases he : e = 0
  · subst he
    rw [if_pos rfl] at hr
    by_cases hf : f1 = 0
    · subst hf
      rw [if_pos rfl] at hr
      simp only [Prod.mk.injEq] at hr
      obtain ⟨rfl, rfl, rfl⟩ := hr
      obtain ⟨hx, hle⟩ := drop_rest hn
      have g1 : (0 : Int) ≤ ((l.length - r1.length : Nat) : Int) := by omega
      have g2 : ((l.length - r1.length : Nat) : Int) ≤ (l.length : Int) := by omega
      have g3 : l.length - r1.length ≤ l.length := by omega
      clear hn
      go_enter Tryd.func58, Tryd.ntmps58
      go_wp2_with fail
      refine (Number_ok hl HN _).mono ?_
      rintro r w1 ⟨rfl, rfl⟩
      obtain ⟨n, hnn⟩ : ∃ n, n = l.length - r1.length := ⟨_, rfl⟩
      rw [← hnn] at hx g1 g2 g3 ⊢
      clear hnn
      go_wp2
      go_ret
      exact ⟨rfl, h.set0 r1, (But.refl _ _).setCell _ _⟩
    · rw [if_neg hf] at hr
      simp only [Prod.mk.injEq] at hr
      obtain ⟨rfl, rfl, rfl⟩ := hr
      have hbe : (((f1 : Nat) : Int) != 0) = true := by rw [bne_iff_ne]; omega
      clear hn
      go_enter Tryd.func58, Tryd.ntmps58
      go_wp2_with fail
      refine (Number_bad hl HN hf _).mono ?_
      rintro r w1 ⟨rfl, rfl⟩
      clear hf
      go_wp2
      go_ret
      exact ⟨rfl, h.set1 f1, (But.refl _ _).setCell _ _⟩
  · rw [if_neg he] at hr
    simp only [Prod.mk.injEq] at hr
    obtain ⟨rfl, rfl, rfl⟩ := hr
    have hbe : (((e : Nat) : Int) != 0) = true := by rw [bne_iff_ne]; omega
    clear he hn
    go_enter Tryd.func58, Tryd.ntmps58
    go_wp2
    go_ret
    exact ⟨rfl, h, But.refl _ _⟩

theorem rdU_lt {l l2 : List UInt8} {e v e2 : Nat} (h : Hid (rdU l e = (v, l2, e2))) : v < 18446744073709551616 := by
  have hr := h.out
  unfold rdU at hr
  have hn := numb_lt l 0 0 (by omega) (by simp)
  split at hr
  · split at hr
    · simp only [Prod.mk.injEq] at hr; omega
    · simp only [Prod.mk.injEq] at hr; omega
  · simp only [Prod.mk.injEq] at hr; omega

end Go.Proofs.YtaahmnkfjkbliaaDoor

/-
  Check sums, plain: one bit's shift is linear by xor, and one-to-one on 32 bits; half a byte at once comes to the same as four bits; texts that differ in one byte have other sums.
-/
import Derived.Test.YtiaeicfmdnmeeaaPlain
namespace Go.Proofs.Ytiaeicfmdnmeeaa
open Go.RowKit

/-- one bit is shifted out -/
def st (c : Nat) : Nat := if c % 2 = 1 then c / 2 ^^^ 3988292384 else c / 2
def sts : Nat → Nat → Nat
  | 0, c => c
  | k + 1, c => sts k (st c)
def byt (c : Nat) (b : UInt8) : Nat := sts 8 (c ^^^ b.toNat)
def crc (c : Nat) (l : List UInt8) : Nat := l.foldl byt c
/-- a text's check sum -/
def sumOf (l : List UInt8) : Nat := 4294967295 - crc 4294967295 l

theorem st_lt {c : Nat} (h : c < 4294967296) : st c < 4294967296 := by
  unfold st
  split
  · exact Nat.xor_lt_two_pow (n := 32) (by omega) (by decide)
  · omega
theorem sts_lt : ∀ (k : Nat) {c : Nat}, c < 4294967296 → sts k c < 4294967296
  | 0, _, h => h
  | k + 1, _, h => sts_lt k (st_lt h)
theorem sts_succ : ∀ (k c : Nat), sts (k + 1) c = st (sts k c)
  | 0, _ => rfl
  | k + 1, c => sts_succ k (st c)
theorem sts_add : ∀ (j k c : Nat), sts (j + k) c = sts k (sts j c)
  | 0, k, c => by rw [Nat.zero_add]; rfl
  | j + 1, k, c => by rw [Nat.add_right_comm]; exact sts_add j k (st c)
theorem xor_lt {a b : Nat} (ha : a < 4294967296) (hb : b < 4294967296) : a ^^^ b < 4294967296 := Nat.xor_lt_two_pow (n := 32) ha hb
theorem byt_lt {c : Nat} (h : c < 4294967296) (b : UInt8) : byt c b < 4294967296 := sts_lt 8 (xor_lt h (by have := b.toNat_lt; omega))
theorem crc_lt : ∀ (l : List UInt8) {c : Nat}, c < 4294967296 → crc c l < 4294967296
  | [], _, h => h
  | b :: t, _, h => crc_lt t (byt_lt h b)
theorem crc_snoc (c : Nat) (l : List UInt8) (b : UInt8) : crc c (l ++ [b]) = byt (crc c l) b := by simp [crc]
theorem crc_append (c : Nat) (l t : List UInt8) : crc c (l ++ t) = crc (crc c l) t := by simp [crc]
theorem sumOf_lt (l : List UInt8) : sumOf l < 4294967296 := by unfold sumOf; omega

theorem xor_left {a b p : Nat} (h : a ^^^ p = b ^^^ p) : a = b := by
  have h1 := congrArg (· ^^^ p) h
  simpa [Nat.xor_assoc] using h1
theorem xor_right {a b p : Nat} (h : p ^^^ a = p ^^^ b) : a = b := xor_left (p := p) (by rw [Nat.xor_comm a, Nat.xor_comm b]; exact h)
theorem xor_none {a b : Nat} (h : a ^^^ b = 0) : a = b := xor_left (p := b) (by rw [h, Nat.xor_self])
theorem xor_half (a b : Nat) : (a ^^^ b) / 2 = a / 2 ^^^ b / 2 := by
  apply Nat.eq_of_testBit_eq
  intro i
  simp [Nat.testBit_div_two, Nat.testBit_xor]
theorem xor_par (a b : Nat) : (a ^^^ b) % 2 = (a % 2 + b % 2) % 2 := by
  have h := Nat.testBit_xor a b 0
  simp only [Nat.testBit_zero] at h
  have ha := Nat.mod_two_eq_zero_or_one a
  have hb := Nat.mod_two_eq_zero_or_one b
  have hc := Nat.mod_two_eq_zero_or_one (a ^^^ b)
  rcases ha with ha | ha <;> rcases hb with hb | hb <;> rcases hc with hc | hc <;> simp_all
theorem xor_can (a b p : Nat) : (a ^^^ p) ^^^ (b ^^^ p) = a ^^^ b := by
  rw [Nat.xor_assoc, ← Nat.xor_assoc p b p, Nat.xor_comm p b, Nat.xor_assoc b p p, Nat.xor_self, Nat.xor_zero]
theorem st_xor (a b : Nat) : st (a ^^^ b) = st a ^^^ st b := by
  have h := xor_par a b
  unfold st
  rw [xor_half]
  rcases Nat.mod_two_eq_zero_or_one a with ha | ha <;> rcases Nat.mod_two_eq_zero_or_one b with hb | hb <;> rw [ha, hb] at h
  · rw [h, ha, hb]; rfl
  · rw [h, ha, hb]; simp [Nat.xor_assoc]
  · rw [h, ha, hb]; simp only [if_pos, Nat.zero_ne_one, if_false]; rw [Nat.xor_assoc, Nat.xor_assoc, Nat.xor_comm (b / 2)]
  · rw [h, ha, hb]; simp [xor_can]
theorem sts_xor : ∀ (k a b : Nat), sts k (a ^^^ b) = sts k a ^^^ sts k b
  | 0, _, _ => rfl
  | k + 1, a, b => by show sts k (st (a ^^^ b)) = _; rw [st_xor]; exact sts_xor k (st a) (st b)
theorem st_even (m : Nat) : st (2 * m) = m := by unfold st; rw [if_neg (by omega)]; omega
theorem low_high (c : Nat) : c % 16 ^^^ 16 * (c / 16) = c := by
  apply Nat.eq_of_testBit_eq
  intro i
  rw [Nat.testBit_xor, show (16 : Nat) = 2 ^ 4 from rfl, Nat.testBit_mod_two_pow, Nat.testBit_two_pow_mul, Nat.testBit_div_two_pow]
  by_cases h : i < 4
  · simp [h, show ¬ 4 ≤ i by omega]
  · simp [h, show 4 ≤ i by omega, show i - 4 + 4 = i by omega]
/-- half a byte at once -/
theorem half (c : Nat) : sts 4 c = c / 16 ^^^ sts 4 (c % 16) := by
  have h : sts 4 (16 * (c / 16)) = c / 16 := by
    show st (st (st (st (16 * (c / 16))))) = _
    rw [show 16 * (c / 16) = 2 * (2 * (2 * (2 * (c / 16)))) by omega, st_even, st_even, st_even, st_even]
  conv => lhs; rw [← low_high c, sts_xor, h, Nat.xor_comm]
theorem st_zero {c : Nat} (hc : c < 4294967296) (h : st c = 0) : c = 0 := by
  unfold st at h
  split at h
  · have h1 : c / 2 = 3988292384 := xor_none h
    omega
  · omega
theorem st_inj {a b : Nat} (ha : a < 4294967296) (hb : b < 4294967296) (h : st a = st b) : a = b := by
  have h1 : st (a ^^^ b) = 0 := by rw [st_xor, h, Nat.xor_self]
  exact xor_none (st_zero (xor_lt ha hb) h1)
theorem sts_inj : ∀ (k : Nat) {a b : Nat}, a < 4294967296 → b < 4294967296 → sts k a = sts k b → a = b
  | 0, _, _, _, _, h => h
  | k + 1, _, _, ha, hb, h => st_inj ha hb (sts_inj k (st_lt ha) (st_lt hb) h)
theorem byt_inj {a b : Nat} {x : UInt8} (ha : a < 4294967296) (hb : b < 4294967296) (h : byt a x = byt b x) : a = b :=
  xor_left (sts_inj 8 (xor_lt ha (by have := x.toNat_lt; omega)) (xor_lt hb (by have := x.toNat_lt; omega)) h)
theorem byt_inj2 {a : Nat} {x y : UInt8} (ha : a < 4294967296) (h : byt a x = byt a y) : x = y :=
  UInt8.toNat_inj.1 (xor_right (sts_inj 8 (xor_lt ha (by have := x.toNat_lt; omega)) (xor_lt ha (by have := y.toNat_lt; omega)) h))
theorem crc_inj : ∀ (l : List UInt8) {a b : Nat}, a < 4294967296 → b < 4294967296 → crc a l = crc b l → a = b
  | [], _, _, _, _, h => h
  | x :: t, _, _, ha, hb, h => byt_inj ha hb (crc_inj t (byt_lt ha x) (byt_lt hb x) h)
/-- one byte is another one -/
theorem sum_apart (l t : List UInt8) {x y : UInt8} (h : x ≠ y) : sumOf (l ++ x :: t) ≠ sumOf (l ++ y :: t) := by
  intro he
  have h0 : (4294967295 : Nat) < 4294967296 := by decide
  have h1 := crc_lt (l ++ x :: t) h0
  have h2 := crc_lt (l ++ y :: t) h0
  have h3 : crc 4294967295 (l ++ x :: t) = crc 4294967295 (l ++ y :: t) := by unfold sumOf at he; omega
  rw [crc_append, crc_append] at h3
  exact h (byt_inj2 (crc_lt l h0) (crc_inj t (byt_lt (crc_lt l h0) x) (byt_lt (crc_lt l h0) y) h3))

/-- a sum's four bytes, the lowest first -/
def four (c : Nat) : List UInt8 := [(c % 256).toUInt8, (c / 256 % 256).toUInt8, (c / 65536 % 256).toUInt8, (c / 16777216).toUInt8]
theorem four_length (c : Nat) : (four c).length = 4 := rfl
theorem four_inj {a b : Nat} (ha : a < 4294967296) (hb : b < 4294967296) (h : four a = four b) : a = b := by
  unfold four at h
  simp only [List.cons.injEq, and_true] at h
  obtain ⟨h0, h1, h2, h3⟩ := h
  have e0 := congrArg UInt8.toNat h0
  have e1 := congrArg UInt8.toNat h1
  have e2 := congrArg UInt8.toNat h2
  have e3 := congrArg UInt8.toNat h3
  rw [Lib.toUInt8_toNat (by omega), Lib.toUInt8_toNat (by omega)] at e0 e1 e2 e3
  omega
/-- the frame of a kind and a load -/
def frm (k : UInt8) (l : List UInt8) : List UInt8 := four (sumOf (k :: txt l)) ++ k :: txt l
/-- the frame that begins some bytes: kind, load, how many, why not -/
def tak (l : List UInt8) : UInt8 × List UInt8 × Nat × Nat :=
  if l.length < 6 then (0, [], 0, 2)
  else match tex 65536 (l.drop 5) with
    | (s, rest, e) =>
      if e ≠ 0 then (0, [], 0, e)
      else if l.take 4 = four (sumOf ((l.drop 4).take (l.length - 4 - rest.length))) then (l.getD 4 0, s, l.length - rest.length, 0) else (0, [], 0, 3)
end Go.Proofs.Ytiaeicfmdnmeeaa

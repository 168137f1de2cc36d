/-
  A number that another one is added to, or that is turned by the bits of another one, is another number.
-/
import Derived.Test.YtippnkendoghpaaR12Shn
import Derived.Laws.Closers25b
namespace Go.Proofs.Ytippnkendoghpaa.r12
open Go.RowKit Go.Shelf Go.Sort
open Go.Lib hiding intOf

theorem tmod_ne {b : Int} (h : (b.tmod 100 == 0) = false) : b.tmod 100 ≠ 0 ∧ -100 < b.tmod 100 ∧ b.tmod 100 < 100 := by
  refine ⟨beq_eq_false_iff_ne.1 h, ?_, ?_⟩
  · by_cases h0 : 0 ≤ b
    · rw [Int.tmod_eq_emod_of_nonneg h0]; omega
    · have h1 : b.tmod 100 = -((-b).tmod 100) := by rw [Int.neg_tmod]; omega
      rw [h1, Int.tmod_eq_emod_of_nonneg (by omega)]; omega
  · by_cases h0 : 0 ≤ b
    · rw [Int.tmod_eq_emod_of_nonneg h0]; omega
    · have h1 : b.tmod 100 = -((-b).tmod 100) := by rw [Int.neg_tmod]; omega
      rw [h1, Int.tmod_eq_emod_of_nonneg (by omega)]; omega
theorem u64_w (y : Int) : IntKind.u64.wrap y = y % 18446744073709551616 := rfl
theorem u64_ne (k : Nat) {d : Int} (h : d ≠ 0 ∧ -100 < d ∧ d < 100) : ∃ x : Nat, IntKind.u64.wrap ((k : Int) + IntKind.u64.wrap d) = (x : Int) ∧ x < 18446744073709551616 ∧ x ≠ k := by
  rw [u64_w, u64_w]
  exact ⟨(((k : Int) + d % 18446744073709551616) % 18446744073709551616).toNat, by omega, by omega, by omega⟩
theorem xor_ne (n : Int) {d : Int} (h : d ≠ 0 ∧ -100 < d ∧ d < 100) : bits .xor .i64 n d ≠ n := by
  intro e
  have e2 : IntKind.i64.wrap ((BitVec.ofInt 64 n ^^^ BitVec.ofInt 64 d).toNat : Int) = n := e
  have hx := (BitVec.ofInt 64 n ^^^ BitVec.ofInt 64 d).isLt
  rw [BitVec.toNat_xor] at e2 hx
  have ha : ((BitVec.ofInt 64 n).toNat : Int) = n % 18446744073709551616 := by rw [BitVec.toNat_ofInt]; omega
  have hb : ((BitVec.ofInt 64 d).toNat : Int) = d % 18446744073709551616 := by rw [BitVec.toNat_ofInt]; omega
  generalize (BitVec.ofInt 64 n).toNat = x at *
  generalize (BitVec.ofInt 64 d).toNat = y at *
  rw [IntKind.wrap_i64] at e2
  obtain ⟨z, hz⟩ : ∃ z, x ^^^ y = z := ⟨_, rfl⟩
  rw [hz] at e2 hx
  have hxz : z = x := by omega
  rw [hxz] at hz
  have h3 : x ^^^ (x ^^^ y) = x ^^^ x := by rw [hz]
  rw [← Nat.xor_assoc, Nat.xor_self, Nat.zero_xor] at h3
  omega
theorem xor_in (n d : Int) : -9223372036854775808 ≤ bits .xor .i64 n d ∧ bits .xor .i64 n d ≤ 9223372036854775807 := ⟨Go.bits_lo_i64 _ _ _, Go.bits_hi_i64 _ _ _⟩
end Go.Proofs.Ytippnkendoghpaa.r12

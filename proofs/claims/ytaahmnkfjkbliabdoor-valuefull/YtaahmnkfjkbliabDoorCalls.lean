/-
  Contracts of the calls of package wire's reader (Err, Left, End, Uint, Int, Byte): each answers as a function on lists of bytes says; but for the reader's own block nothing that was there before the call is changed.
-/
import Derived.Test.YtaahmnkfjkbliabDoorReads
namespace Go.Proofs.YtaahmnkfjkbliabDoor
open Go.RowKit

def endOf (l : List UInt8) (e : Nat) : Nat := if e = 0 then (if l = [] then 0 else 3) else e

/-- a number that is read fits -/
theorem numb_lt : ∀ (l : List UInt8) (i acc : Nat), i ≤ 10 → (i < 10 → acc < 2 ^ (i * 7)) → (numb i acc l).1 < 18446744073709551616
  | [], _, _, _, _ => by simp [numb]
  | c :: t, i, acc, hi, ha => by
    rw [numb]
    split
    · simp
    · rename_i h10
      have hacc := ha (by omega)
      split
      · obtain ⟨acc', _, h1, h2⟩ := or_next (c := c.toNat) (show i ≤ 9 by omega) hacc t
        rw [h2]
        exact numb_lt t (i + 1) acc' (by omega) h1
      · split
        · rename_i hm
          show acc + c.toNat % 128 * 2 ^ (i * 7) < 18446744073709551616
          by_cases h9 : i = 9
          · subst h9
            have h1 : c.toNat = 1 := by simpa [mayEnd] using hm
            rw [h1]
            have : acc < 9223372036854775808 := hacc
            omega
          · have h1 := acc_step (c := c.toNat) hacc
            have hp : 2 ^ ((i + 1) * 7) ≤ 2 ^ 63 := Nat.pow_le_pow_right (by decide) (by omega)
            have : acc + c.toNat % 128 * 2 ^ (i * 7) < 9223372036854775808 := Nat.lt_of_lt_of_le h1 hp
            omega
        · simp

theorem numb_lt0 {l rest : List UInt8} {v er : Nat} (h : Hid (numb 0 0 l = (v, rest, er))) : v < 18446744073709551616 := by
  have := numb_lt l 0 0 (by omega) (by simp)
  rw [h.out] at this
  exact this

end Go.Proofs.YtaahmnkfjkbliabDoor

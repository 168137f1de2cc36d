/-
  How names are compared; the place of a name among variables that rise (slices.BinarySearchFunc).
-/
import Derived.Test.YtpdengbdnijcfaaGreatDoorGValR
import Derived.Lib.Bytealg
namespace Go.Proofs.YtpdengbdnijcfaaGreatDoor
open Go.RowKit Go.Shelf Go.Sort
open Go.Lib hiding intOf

/-- -1, 0 or 1 -/
def cmp3 (a b : ByteArray) : Int := if lt a b then -1 else if lt b a then 1 else 0
theorem cmp3_eq (a b : ByteArray) : Lib.compareBytes a.data.toList b.data.toList = cmp3 a b := by
  have key : ∀ (x y : List UInt8), Lib.compareBytes x y = if x < y then -1 else if y < x then 1 else 0 := by
    intro x
    induction x with
    | nil =>
      intro y
      cases y with
      | nil => simp [Lib.compareBytes]
      | cons b bs => simp [Lib.compareBytes]
    | cons c cs ih =>
      intro y
      cases y with
      | nil => simp [Lib.compareBytes]
      | cons d ds =>
        rw [Lib.compareBytes, ih ds]
        simp only [List.cons_lt_cons_iff]
        by_cases h1 : c < d
        · simp [h1]
        · by_cases h2 : d < c
          · have hne : ¬ c = d := fun e => by subst e; exact h1 h2
            have hne' : ¬ d = c := fun e => hne e.symm
            simp [h1, h2, hne]
          · have he : c = d := UInt8.le_antisymm (UInt8.not_lt.1 h2) (UInt8.not_lt.1 h1)
            subst he
            simp [h1]
  rw [key, cmp3]
  have e1 : (lt a b = true) = (a.data.toList < b.data.toList) := propext (lt_iff a b)
  have e2 : (lt b a = true) = (b.data.toList < a.data.toList) := propext (lt_iff b a)
  simp only [e1, e2]

/-- a variable as it stands -/
def xA (x : Vr) : Value := .agg #[.string x.1, .int .i64 x.2.1, .int .i64 x.2.2.1, .string (S x.2.2.2)]
theorem cmp3_neg {a b : ByteArray} : cmp3 a b < 0 ↔ lt a b = true := by
  unfold cmp3
  constructor
  · intro h
    split at h
    · assumption
    · split at h <;> omega
  · intro h; rw [if_pos h]; omega
theorem cmp3_zero {a b : ByteArray} : cmp3 a b = 0 ↔ a = b := by
  unfold cmp3
  constructor
  · intro h
    split at h
    · cases h
    · split at h
      · cases h
      · rename_i h1 h2
        exact lt_total (by simpa using h1) (by simpa using h2)
  · rintro rfl; rw [lt_irrefl]; rfl

end Go.Proofs.YtpdengbdnijcfaaGreatDoor

/-
  What Drop leaves: nothing from the position on is lost.
-/
import Derived.Test.YteifkkceldlfnaaGreatDoorG6FromP
namespace Go.Proofs.YteifkkceldlfnaaGreatDoor
open Go.RowKit Go.Shelf Go.Sort
open Go.Lib hiding intOf

theorem dropS_idx (pre : ByteArray) (below : Nat) : ∀ (segs : List Sg) (st : Ab), (dropS pre below segs st).2.1.drop (idx (dropS pre below segs st).2.1 below) = segs.drop (idx segs below)
  | [], _ => rfl
  | [_], _ => rfl
  | s :: t :: r, st => by
    unfold dropS
    split
    · rename_i h
      split
      · rfl
      · have e1 : idx (s :: t :: r) below = idx (t :: r) below + 1 := by
          unfold idx
          rw [List.countP_cons_of_pos (by simpa using h)]
        rw [dropS_idx pre below (t :: r), e1, List.drop_succ_cons]
    · rfl
theorem gDrop_from {lg : Lg} (ok : Ok lg) (st : Ab) (below : Nat) : gFrom (gDrop lg st below).2.1 below = gFrom lg below := by
  rw [gFrom_segs (gDrop_ok below ok), gFrom_segs ok]
  have e : (gDrop lg st below).2.1.segs = (dropS lg.pre below lg.segs st).2.1 := rfl
  rw [e, dropS_idx]
/-- the first segment that is left has a record from the position on, or is the last one -/
theorem dropS_first (pre : ByteArray) (below : Nat) : ∀ (segs : List Sg) (st : Ab), (dropS pre below segs st).1 = 0 → ∀ s t r, (dropS pre below segs st).2.1 = s :: t :: r → below < s.next
  | [], _, _, _, _, _, h => by simp [dropS] at h
  | [_], _, _, _, _, _, h => by simp [dropS] at h
  | a :: b :: q, st, h0, s, t, r, h => by
    unfold dropS at h h0
    by_cases h1 : a.next ≤ below
    · rw [if_pos h1] at h h0
      by_cases h2 : (aDel st (nam pre a.first)).1 ≠ 0
      · rw [if_pos h2] at h0
        exact absurd h0 h2
      · rw [if_neg h2] at h h0
        exact dropS_first pre below (b :: q) _ h0 s t r h
    · rw [if_neg h1] at h
      cases h
      omega
end Go.Proofs.YteifkkceldlfnaaGreatDoor

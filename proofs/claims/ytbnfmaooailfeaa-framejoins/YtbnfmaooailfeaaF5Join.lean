/-
  Frames one behind the other, plain.
-/
import Derived.Test.YtbnfmaooailfeaaF5Fra
namespace Go.Proofs.Ytbnfmaooailfeaa
open Go.RowKit

/-- the frames of texts, one behind the other; their kinds count on from i -/
def jns : Nat → List (List UInt8) → List UInt8
  | _, [] => []
  | i, x :: t => frm (UInt8.ofNat i) x ++ jns (i + 1) t
def fms : Nat → List (List UInt8) → List Fr
  | _, [] => []
  | i, x :: t => (UInt8.ofNat i, x, (frm (UInt8.ofNat i) x).length) :: fms (i + 1) t
theorem fra_jns : ∀ (i : Nat) (ls : List (List UInt8)) (more : List UInt8), (∀ x ∈ ls, x.length ≤ 65536) → fra (jns i ls ++ more) = fms i ls ++ fra more
  | _, [], _, _ => rfl
  | i, x :: t, more, h => by
    show fra ((frm (UInt8.ofNat i) x ++ jns (i + 1) t) ++ more) = _
    rw [List.append_assoc, fra_frm _ _ _ (h x (by simp)), fra_jns (i + 1) t more (fun y hy => h y (by simp [hy]))]
    rfl
theorem jns_append : ∀ (i : Nat) (a b : List (List UInt8)), jns i (a ++ b) = jns i a ++ jns (i + a.length) b
  | _, [], _ => rfl
  | i, x :: t, b => by
    show frm (UInt8.ofNat i) x ++ jns (i + 1) (t ++ b) = (frm (UInt8.ofNat i) x ++ jns (i + 1) t) ++ _
    rw [jns_append (i + 1) t b, List.append_assoc, List.length_cons, show i + 1 + t.length = i + (t.length + 1) by omega]
theorem jns_take {ls : List (List UInt8)} {k : Nat} (h : k < ls.length) : jns 0 (ls.take (k + 1)) = jns 0 (ls.take k) ++ frm (UInt8.ofNat k) ls[k] := by
  rw [List.take_succ_eq_append_getElem h, jns_append, List.length_take, show 0 + min k ls.length = k by omega]
  show _ ++ (frm (UInt8.ofNat k) ls[k] ++ []) = _
  rw [List.append_nil]
theorem fms_length : ∀ (i : Nat) (ls : List (List UInt8)), (fms i ls).length = ls.length
  | _, [] => rfl
  | i, x :: t => by show (fms (i + 1) t).length + 1 = t.length + 1; rw [fms_length (i + 1) t]
theorem fms_get : ∀ (i : Nat) (ls : List (List UInt8)) (j : Nat) (h : j < ls.length), (fms i ls)[j]? = some (UInt8.ofNat (i + j), ls[j], (frm (UInt8.ofNat (i + j)) ls[j]).length)
  | _, [], _, h => by simp at h
  | i, x :: t, 0, _ => rfl
  | i, x :: t, j + 1, h => by
    show (fms (i + 1) t)[j]? = _
    rw [fms_get (i + 1) t j (by simpa using h), show i + 1 + j = i + (j + 1) by omega]
    rfl
theorem god_fms : ∀ (i : Nat) (ls : List (List UInt8)), god (fms i ls) = (jns i ls).length
  | _, [] => rfl
  | i, x :: t => by
    have := god_fms (i + 1) t
    show god ((UInt8.ofNat i, x, (frm (UInt8.ofNat i) x).length) :: fms (i + 1) t) = (frm (UInt8.ofNat i) x ++ jns (i + 1) t).length
    rw [List.length_append, ← this]
    rfl
theorem frm_le (k : UInt8) (l : List UInt8) (h : l.length ≤ 65536) : (frm k l).length ≤ 65560 := by
  have := Lib.uvarint_length64 (show l.length < 18446744073709551616 by omega)
  have := txt_length l
  have := frm_length k l
  omega
theorem jns_le : ∀ (i : Nat) (ls : List (List UInt8)), (∀ x ∈ ls, x.length ≤ 65536) → (jns i ls).length ≤ ls.length * 65560
  | _, [], _ => by simp [jns]
  | i, x :: t, h => by
    have h1 := jns_le (i + 1) t (fun y hy => h y (by simp [hy]))
    have h2 := frm_le (UInt8.ofNat i) x (h x (by simp))
    show (frm (UInt8.ofNat i) x ++ jns (i + 1) t).length ≤ _
    rw [List.length_append, List.length_cons]
    omega
theorem ofNat_byte (k : Nat) : (k : Int) % 256 = ((UInt8.ofNat k).toNat : Int) := by
  have : (UInt8.ofNat k).toNat = k % 256 := by simp
  omega
end Go.Proofs.Ytbnfmaooailfeaa

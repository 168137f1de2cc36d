/-
  Contract of package wire's List: what is returned is the document's bytes of the list; nothing that was there before the call is changed.
-/
import Derived.Test.YtnelekbaniljkaaDoorWrites
namespace Go.Proofs.YtnelekbaniljkaaDoor
open Go.RowKit

/-- v is a slice of the strings ls -/
def Strs (w : World) (v : Value) (ls : List (List UInt8)) : Prop :=
  ∃ a cap, v = .slice a ls.length cap ∧ (ls = [] ∨ ∃ b off, a = some ⟨b, off, none⟩ ∧ b < w.heap.size ∧ ∀ j, j < ls.length → w.cell? ⟨b, off + j, none⟩ = some (.string (S (ls.getD j []))))

theorem Strs.below {B : Nat} {w w' : World} {v : Value} {ls : List (List UInt8)} (h : Strs w v ls) (hb : Below B w w') (hB : w.heap.size ≤ B) : Strs w' v ls := by
  obtain ⟨a, cap, rfl, h⟩ := h
  refine ⟨a, cap, rfl, ?_⟩
  rcases h with h | ⟨b, off, rfl, hlt, hc⟩
  · exact .inl h
  · exact .inr ⟨b, off, rfl, Nat.lt_of_lt_of_le hlt hb.size, fun j hj => (hb.cell (p := ⟨b, off + j, none⟩) (Nat.lt_of_lt_of_le hlt hB)).trans (hc j hj)⟩

/-- texts one behind the other -/
def cat (ls : List (List UInt8)) : List UInt8 := (ls.map txt).flatten
/-- a list's bytes -/
def lst (ls : List (List UInt8)) : List UInt8 := Lib.uvarint ls.length ++ cat ls

theorem cat_snoc (ls : List (List UInt8)) (k : Nat) (hk : k < ls.length) : cat (ls.take (k + 1)) = cat (ls.take k) ++ txt (ls.getD k []) := by
  have hg : ls.getD k [] = ls[k] := by simp [List.getD, hk]
  unfold cat
  rw [hg, List.take_succ_eq_append_getElem hk, List.map_append, List.flatten_append]
  simp only [List.map_cons, List.map_nil, List.flatten_cons, List.flatten_nil, List.append_nil]
theorem cat_take_le (ls : List (List UInt8)) (k : Nat) : (cat (ls.take k)).length ≤ (cat ls).length := by
  have h : cat ls = cat (ls.take k) ++ cat (ls.drop k) := by
    unfold cat
    rw [← List.flatten_append, ← List.map_append, List.take_append_drop]
  rw [h]
  simp
theorem txt_ge (l : List UInt8) : l.length + 1 ≤ (txt l).length := by
  have := Lib.uvarint_pos l.length
  rw [txt_length]
  omega
theorem cat_len (ls : List (List UInt8)) : ls.length ≤ (cat ls).length := by
  induction ls with
  | nil => simp
  | cons s t ih =>
    have := txt_ge s
    simp only [cat, List.map_cons, List.flatten_cons, List.length_append, List.length_cons] at ih ⊢
    omega

end Go.Proofs.YtnelekbaniljkaaDoor

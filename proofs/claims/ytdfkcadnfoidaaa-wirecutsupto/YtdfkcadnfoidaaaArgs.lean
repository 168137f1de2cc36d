/-
  What an argument that is a slice of strings gives to a walk, and what the bound on all that is read says of the bytes that are written of it.
-/
import Derived.Test.YtdfkcadnfoidaaaRows
import Derived.Test.YtdfkcadnfoidaaaWList
import Derived.ProofKit
import Derived.OpenShut
import Derived.ShutString
import Derived.SliceStrings
import Derived.JoinedCond
namespace Go.Proofs.Ytdfkcadnfoidaaa
open Go.ChangeShapes Go.WideShapes Go.ChangeAt Go.RowKit
open Go.ChangeMaps (open_string shut_string)

/-- the letters of texts, and one for each -/
def bulkOf (ls : List (List UInt8)) : Nat := (ls.map fun l => l.length + 1).sum

theorem bulk_strs {H : Type} (ss : List ByteArray) : Rows.uptoBulkAll (strs (H := H) ss) = bulkOf (ss.map fun s => s.data.toList) := by
  induction ss with
  | nil => simp [strs, Rows.uptoBulkAll, bulkOf]
  | cons s t ih =>
    simp only [strs, bulkOf, List.map_cons, List.sum_cons, Rows.uptoBulkAll, Rows.uptoBulk] at ih ⊢
    omega

theorem cat_bulk (ls : List (List UInt8)) (h : bulkOf ls ≤ 1048576) : (cat ls).length ≤ 10 * bulkOf ls := by
  induction ls with
  | nil => simp [cat]
  | cons s t ih =>
    simp only [bulkOf, List.map_cons, List.sum_cons] at h ih ⊢
    have h1 := ih (by omega)
    have h2 := Lib.uvarint_length64 (x := s.length) (by omega)
    have h3 := txt_length s
    simp only [cat, List.map_cons, List.flatten_cons, List.length_append] at h1 ⊢
    omega
theorem len_bulk (ls : List (List UInt8)) : ls.length ≤ bulkOf ls := by
  induction ls with
  | nil => simp
  | cons s t ih =>
    simp only [bulkOf, List.map_cons, List.sum_cons, List.length_cons] at ih ⊢
    omega
theorem lst_bulk (ls : List (List UInt8)) (h : bulkOf ls ≤ 1048576) : (lst ls).length ≤ 10485770 := by
  have h1 := cat_bulk ls h
  have h2 := len_bulk ls
  have h3 := Lib.uvarint_length64 (x := ls.length) (by omega)
  simp only [lst, List.length_append]
  omega
theorem get_bulk (ls : List (List UInt8)) (k : Nat) : (ls.getD k []).length ≤ bulkOf ls := by
  induction ls generalizing k with
  | nil => simp
  | cons s t ih =>
    simp only [bulkOf, List.map_cons, List.sum_cons] at ih ⊢
    cases k with
    | zero => simp; omega
    | succ k => have := ih k; simp at this ⊢; omega

theorem openStrsF {H : Type} {enc : TypeId × Value → H} {W : World} {v : Value} {x : DataW H × List MemPlace} {fuel : Nat}
    (hf : DataW.trod enc Try.prog W 0 (fun _ => true) true fuel 23 [v] = some x) : ∃ ls, Strs W v ls ∧ bulkOf ls + 1 ≤ Rows.uptoBulk x.1 := by
  rcases open_strings Try.underlying23 Try.underlying9 (by kernel_rfl) hf with ⟨hcs, hx⟩ | ⟨x, len0, cap0, ss, hcs, _, hl, hm, hz, hx, hcell, hws⟩
  · simp at hcs
    subst hcs
    subst hx
    exact ⟨[], ⟨none, 0, rfl, .inl rfl⟩, by simp [bulkOf, Rows.uptoBulk]⟩
  · simp at hcs
    subst hcs
    subst hx
    have hsl : ss.length = cap0 := by simpa using hz
    have hlen : ((ss.take len0).map fun s => s.data.toList).length = len0 := by simp; omega
    refine ⟨(ss.take len0).map fun s => s.data.toList, ⟨some x, cap0, by rw [hlen], ?_⟩, ?_⟩
    · by_cases h0 : len0 = 0
      · left; subst h0; simp
      · right
        obtain ⟨b, off, spot⟩ := x
        have hc := hcell 0 (by omega)
        have hspot : spot = none := by simpa [Addr.add] using World.cell?_spot hc
        subst hspot
        refine ⟨b, off, rfl, ?_, fun j hj => ?_⟩
        · have hc0 : W.cell? ⟨b, off, none⟩ = some (.string (ss.getD 0 ByteArray.empty)) := by simpa [Addr.add] using hc
          rcases Nat.lt_or_ge b W.heap.size with h | h
          · exact h
          · simp only [World.cell?] at hc0
            rw [Array.getElem?_eq_none h] at hc0
            cases hc0
        · rw [hlen] at hj
          have hcj := hcell j (by omega)
          rw [Addr.add_lit] at hcj
          rw [hcj]
          have e : ((ss.take len0).map fun s => s.data.toList).getD j [] = (ss.getD j ByteArray.empty).data.toList := by
            have hjs : j < ss.length := by omega
            simp [List.getD, hj, hjs]
          rw [e, S_of]
    · simp only [Rows.uptoBulk, bulk_strs]
      omega

theorem openStrs {H : Type} {enc : TypeId × Value → H} {W : World} {v : Value} {d : DataW H} {p : List MemPlace} {base : Nat} (hok : Value.okWide Try.prog W .any base 23 v)
    (h : DataW.Trod enc Try.prog W 0 (fun _ => true) true 23 v d p) : ∃ ls, Strs W v ls ∧ bulkOf ls + 1 ≤ Rows.uptoBulk d := by
  obtain ⟨a0, len0, cap0, rfl⟩ := okWide_slice Try.underlying23 hok
  obtain ⟨fuel, hf⟩ := h
  exact openStrsF (x := (d, p)) hf

theorem own : ownKnob Try.prog.godebug = none := by kernel_rfl
theorem laidOut : laidOutB Try.prog = true := by kernel_rfl

end Go.Proofs.Ytdfkcadnfoidaaa

/-
  What an argument that is a slice of texts gives to a walk where the arguments are of bounded bulk.
-/
import Derived.Test.YtkohcdefhaokiaaSActsB
import Derived.SliceStrings
namespace Go.Proofs.Ytkohcdefhaokiaa.T
open Go.ChangeShapes Go.WideShapes Go.ChangeAt Go.RowKit

/-- v is a slice of the texts ls -/
def Txs (w : World) (v : Value) (ls : List ByteArray) : Prop :=
  ∃ a cap, v = .slice a ls.length cap ∧ (ls = [] ∨ ∃ b off, a = some ⟨b, off, none⟩ ∧ b < w.heap.size ∧ ∀ (j : Nat) (t : ByteArray), ls[j]? = some t → w.cell? ⟨b, off + j, none⟩ = some (.string t))

theorem bulk_strs {H : Type} (ss : List ByteArray) (j : Nat) (t : ByteArray) (h : ss[j]? = some t) : t.size ≤ Rows.uptoBulkAll (strs (H := H) ss) := by
  have h1 : (DataW.lit (.string t.data.toList) : DataW H) ∈ strs (H := H) ss := by
    simp only [strs]
    exact List.mem_map.2 ⟨t, List.mem_of_getElem? h, rfl⟩
  have h2 := bulk_mem h1
  simp only [Rows.uptoBulk] at h2
  have : t.data.toList.length = t.size := by simp
  omega

theorem openTxsF {H : Type} {enc : TypeId × Value → H} {W : World} {v : Value} {x : DataW H × List MemPlace} {fuel : Nat}
    (hf : DataW.trod enc Try.prog W 0 (fun _ => true) true fuel 27 [v] = some x) : ∃ ls, Txs W v ls ∧ ls.length ≤ Rows.uptoBulk x.1 ∧ ∀ (j : Nat) (t : ByteArray), ls[j]? = some t → t.size ≤ Rows.uptoBulk x.1 := by
  rcases open_strings Try.underlying27 Try.underlying9 (by kernel_rfl) hf with ⟨hcs, hx⟩ | ⟨x, len0, cap0, ss, hcs, _, hl, hm, hz, hx, hcell, hws⟩
  · simp at hcs
    subst hcs
    subst hx
    exact ⟨[], ⟨none, 0, rfl, .inl rfl⟩, by simp, by simp⟩
  · simp at hcs
    subst hcs
    subst hx
    have hsl : ss.length = cap0 := by simpa using hz
    have hlen : (ss.take len0).length = len0 := by simp; omega
    have hb := bulk_count (strs (H := H) (ss.take len0))
    have hbl : (strs (H := H) (ss.take len0)).length = len0 := by simp [strs]; omega
    refine ⟨ss.take len0, ⟨some x, cap0, by rw [hlen], ?_⟩, ?_, fun j t hj => ?_⟩
    · by_cases h0 : len0 = 0
      · left; subst h0; simp
      · right
        obtain ⟨b, off, spot⟩ := x
        have hc := hcell 0 (by omega)
        have hspot : spot = none := by simpa [Addr.add] using World.cell?_spot hc
        subst hspot
        refine ⟨b, off, rfl, ?_, fun j t hj => ?_⟩
        · rw [Addr.add_lit] at hc
          exact World.block_lt_of_cell? _ _ hc
        · obtain ⟨hj1, hj2⟩ := List.getElem?_eq_some_iff.1 hj
          rw [hlen] at hj1
          have hcj := hcell j (by omega)
          rw [Addr.add_lit] at hcj
          rw [hcj, ← hj2]
          have hjs : j < ss.length := by omega
          simp [List.getD, hjs]
    · rw [hlen]; simp only [Rows.uptoBulk]; omega
    · have := bulk_strs (H := H) (ss.take len0) j t hj
      simp only [Rows.uptoBulk]
      omega

set_option maxRecDepth 100000 in
theorem openTxs {H : Type} {enc : TypeId × Value → H} {W : World} {v : Value} {d : DataW H} {p : List MemPlace} {base : Nat} (hok : Value.okWide Try.prog W .any base 27 v)
    (h : DataW.Trod enc Try.prog W 0 (fun _ => true) true 27 v d p) : ∃ ls, Txs W v ls ∧ ls.length ≤ Rows.uptoBulk d ∧ ∀ (j : Nat) (t : ByteArray), ls[j]? = some t → t.size ≤ Rows.uptoBulk d := by
  obtain ⟨a0, len0, cap0, rfl⟩ := okWide_slice Try.underlying27 hok
  obtain ⟨fuel, hf⟩ := h
  exact openTxsF (x := (d, p)) hf
end Go.Proofs.Ytkohcdefhaokiaa.T

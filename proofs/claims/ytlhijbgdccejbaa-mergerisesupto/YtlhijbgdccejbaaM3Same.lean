/-
  The law's own: two lists of rows that are the same are told to be so.
-/
import Derived.Test.YtlhijbgdccejbaaM3Rise
namespace Go.Proofs.Ytlhijbgdccejbaa
open Go.RowKit Go.Shelf Go.Sort
open Go.Lib hiding intOf

theorem rw_of_row {w : World} {base : Nat} {e : TypeId} {v : Value} {l : List Ent} (h : w.ownsRow base e 2 v l.length (flat l)) : Rw w v l := by
  rcases h.2 with ⟨rfl, h0⟩ | ⟨g, cap, cur, rfl, _, hg, _⟩
  · exact ⟨none, 0, by rw [h0], .inl (List.eq_nil_of_length_eq_zero h0)⟩
  · refine ⟨_, cap, rfl, .inr ⟨g, 0, rfl, (Array.getElem?_eq_some_iff.1 hg).1, fun j hj => ?_⟩⟩
    rw [Nat.zero_add]
    exact ⟨row_cell h (flat_key l j hj), row_cell h (flat_val l j hj)⟩

set_option maxHeartbeats 2000000 in
theorem same_any {w : World} {va vb : Value} {l : List Ent} (h1 : Rw w va l) (h2 : Rw w vb l) (hn : l.length < 4611686018427387904) :
    Calls Try.prog 14 #[va, vb] w fun e w' => e = .returned (.bool true) ∧ Below w.heap.size w w' := by
  obtain ⟨a, ac, rfl, h1⟩ := h1
  obtain ⟨b, bc, rfl, h2⟩ := h2
  have H : Hid (∀ {wr : World}, Below w.heap.size w wr → ∀ {i : Nat} (h : i < l.length), ∃ g o g' o' : Nat, a = some ⟨g, o, none⟩ ∧ b = some ⟨g', o', none⟩ ∧ wr.cell? ⟨g, o + i * 2, none⟩ = some (.string l[i].1) ∧ wr.cell? ⟨g, o + i * 2 + 1, none⟩ = some (.int .i64 l[i].2) ∧ wr.cell? ⟨g', o' + i * 2, none⟩ = some (.string l[i].1) ∧ wr.cell? ⟨g', o' + i * 2 + 1, none⟩ = some (.int .i64 l[i].2)) := fun {wr} hB {i} hi => by
    rcases h1 with h | ⟨g, o, e, hlt, hc⟩
    · rw [h] at hi; simp at hi
    rcases h2 with h | ⟨g', o', e', hlt', hc'⟩
    · rw [h] at hi; simp at hi
    exact ⟨g, o, g', o', e, e', (hB.cell (p := ⟨g, o + i * 2, none⟩) hlt).trans (hc i hi).1, (hB.cell (p := ⟨g, o + i * 2 + 1, none⟩) hlt).trans (hc i hi).2, (hB.cell (p := ⟨g', o' + i * 2, none⟩) hlt').trans (hc' i hi).1, (hB.cell (p := ⟨g', o' + i * 2 + 1, none⟩) hlt').trans (hc' i hi).2⟩
  clear h1 h2
  go_enter Try.func14, Try.ntmps14
  go_wp2_with fail
  go_loopw [5] (fun vi wr => ∃ i : Nat, vi = .int .i64 i ∧ i ≤ l.length ∧ Below w.heap.size w wr) (fun vi _ => l.length - (intOf vi).toNat)
  case atStart => exact ⟨0, rfl, Nat.zero_le _, Below.refl _ _⟩
  case round =>
    obtain ⟨i, rfl, hi, hB⟩ := hrel
    by_cases hl : i < l.length
    · have hli : (i : Int) < (l.length : Int) := by omega
      obtain ⟨g, o, g', o', rfl, rfl, c1, c2, c3, c4⟩ := H.out hB hl
      clear H
      go_wp2_with fail
      go_quiet (fail)
      all_goals go_wp2_with fail
      go_roundw
      case rel => exact ⟨i + 1, by simp, by omega, below_drewN hB _⟩
      case measure => simp [intOf]; omega
    · have hli : ¬ (i : Int) < (l.length : Int) := by omega
      clear H
      go_wp2_with fail
      all_goals go_ret
      all_goals exact ⟨rfl, hB⟩
end Go.Proofs.Ytlhijbgdccejbaa

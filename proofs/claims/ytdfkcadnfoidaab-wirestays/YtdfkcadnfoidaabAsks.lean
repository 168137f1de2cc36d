/-
  What an argument that is a slice of asks (three ints each) gives to a walk.
-/
import Derived.Test.YtdfkcadnfoidaabRows
import Derived.WalkKit
import Derived.ProofKit
import Derived.OpenShut
import Derived.Deep.Slices
import Derived.Deep.Strs
namespace Go.Proofs.Ytdfkcadnfoidaab
open Go.ChangeShapes Go.WideShapes Go.ChangeAt Go.RowKit

/-- v is a slice of the asks q -/
def Asks (w : World) (v : Value) (q : List (Int × Int × Int)) : Prop :=
  ∃ a cap, v = .slice a q.length cap ∧ (q = [] ∨ ∃ b off, a = some ⟨b, off, none⟩ ∧ b < w.heap.size ∧ ∀ j, j < q.length →
    w.cell? ⟨b, off + j * 3, none⟩ = some (.int .i64 (q.getD j (0, 0, 0)).1) ∧ w.cell? ⟨b, off + j * 3 + 1, none⟩ = some (.int .i64 (q.getD j (0, 0, 0)).2.1) ∧ w.cell? ⟨b, off + j * 3 + 2, none⟩ = some (.int .i64 (q.getD j (0, 0, 0)).2.2))

/-- each number of the asks is an int -/
def Fits (q : List (Int × Int × Int)) : Prop := ∀ j, j < q.length → (-9223372036854775808 ≤ (q.getD j (0, 0, 0)).2.1 ∧ (q.getD j (0, 0, 0)).2.1 ≤ 9223372036854775807) ∧ (-9223372036854775808 ≤ (q.getD j (0, 0, 0)).2.2 ∧ (q.getD j (0, 0, 0)).2.2 ≤ 9223372036854775807)

theorem openAsks {H : Type} {enc : TypeId × Value → H} {W : World} {v : Value} {d : DataW H} {p : List MemPlace} {base : Nat} (hok : Value.okWide Try.prog W .any base 28 v)
    (h : DataW.Trod enc Try.prog W 0 (fun _ => true) true 28 v d p) : ∃ q, Asks W v q ∧ Fits q ∧ q.length ≤ maxLen ∧ ((q = []) ∨ ∃ elems spare, d = .slice elems spare ∧ elems.length = q.length) := by
  obtain ⟨a0, len0, cap0, rfl⟩ := okWide_slice Try.underlying28 hok
  obtain ⟨fuel, hf⟩ := h
  have hc3 : Try.prog.cellsOf 36 = 3 := by kernel_rfl
  have hc1 : Try.prog.cellsOf 3 = 1 := by kernel_rfl
  rcases Deep.open_slice Try.underlying28 hf with ⟨hcs, hx⟩ | ⟨x, l, c, m, n, D, Pl, hcs, _, hl, hm, hmm, hx, hall⟩
  · simp [Value.cells] at hcs
    obtain ⟨rfl, rfl, rfl⟩ := hcs
    exact ⟨[], ⟨none, 0, rfl, .inl rfl⟩, fun j hj => by simp at hj, by simp, .inl rfl⟩
  · simp [Value.cells] at hcs
    obtain ⟨rfl, rfl, rfl⟩ := hcs
    simp only [Prod.mk.injEq] at hx
    obtain ⟨rfl, rfl⟩ := hx
    have hmc : m = cap0 := by simpa using hmm
    have each : ∀ i, i < len0 → ∃ t : Int × Int × Int, (W.cell? (x.add (i * 3 + 0)) = some (.int .i64 t.1) ∧ W.cell? (x.add (i * 3 + 1)) = some (.int .i64 t.2.1) ∧ W.cell? (x.add (i * 3 + 2)) = some (.int .i64 t.2.2)) ∧ (-9223372036854775808 ≤ t.2.1 ∧ t.2.1 ≤ 9223372036854775807) ∧ (-9223372036854775808 ≤ t.2.2 ∧ t.2.2 ≤ 9223372036854775807) := by
      intro i hi
      obtain ⟨cs, h1, h2⟩ := hall i (by omega)
      rw [hc3] at h1
      obtain ⟨_, hlen, hcell⟩ := World.cells?_some h1
      match cs, hlen with
      | [z0, z1, z2], _ =>
        obtain ⟨y0, y1, y2, k, _, _, t0, t1, t2⟩ := Deep.trod_struct3 Try.underlying36 h2
        simp only [hc1, List.drop_zero, List.drop_succ_cons, List.take_succ_cons, List.take_zero] at t0 t1 t2
        obtain ⟨b0, e0, _, w0⟩ := DataW.trod_int Try.underlying3 t0
        obtain ⟨b1, e1, _, w1⟩ := DataW.trod_int Try.underlying3 t1
        obtain ⟨b2, e2, _, w2⟩ := DataW.trod_int Try.underlying3 t2
        simp at e0 e1 e2
        subst e0 e1 e2
        have c0 := hcell 0 (by omega)
        have c1 := hcell 1 (by omega)
        have c2 := hcell 2 (by omega)
        rw [Addr.add_add] at c0 c1 c2
        exact ⟨(b0, b1, b2), ⟨c0, c1, c2⟩, bounds_i64 w1, bounds_i64 w2⟩
    obtain ⟨X, hX⟩ := Deep.choose_lt each
    have hlen : ((List.range len0).map X).length = len0 := by simp
    have hget : ∀ j, j < len0 → ((List.range len0).map X).getD j (0, 0, 0) = X j := fun j hj => by simp [List.getD, hj]
    refine ⟨(List.range len0).map X, ⟨some x, cap0, by rw [hlen], ?_⟩, fun j hj => ?_, by rw [hlen]; omega, .inr ⟨_, _, rfl, by simp⟩⟩
    · by_cases h0 : len0 = 0
      · left; subst h0; simp
      · right
        have hc := (hX 0 (by omega)).1.1
        obtain ⟨b, off, spot⟩ := x
        have hspot : spot = none := by simpa [Addr.add] using World.cell?_spot hc
        subst hspot
        refine ⟨b, off, rfl, ?_, fun j hj => ?_⟩
        · rw [Addr.add_lit] at hc
          rcases Nat.lt_or_ge b W.heap.size with h | h
          · exact h
          · simp only [World.cell?] at hc
            rw [Array.getElem?_eq_none h] at hc
            cases hc
        · rw [hlen] at hj
          rw [hget j hj]
          have hj3 := (hX j hj).1
          simp only [Addr.add_lit] at hj3
          simpa [Nat.add_assoc] using hj3
    · rw [hlen] at hj
      rw [hget j hj]
      exact (hX j hj).2

end Go.Proofs.Ytdfkcadnfoidaab

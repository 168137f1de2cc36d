/-
  What an argument that is a slice of rows gives to a walk, whatever its bulk.
-/
import Derived.Test.YtlhijbgdccejbaaM3Args
namespace Go.Proofs.Ytlhijbgdccejbaa
open Go.ChangeShapes Go.WideShapes Go.ChangeAt Go.RowKit

set_option maxRecDepth 100000 in
theorem openRowsW {H : Type} {enc : TypeId × Value → H} {W : World} {v : Value} {d : DataW H} {p : List MemPlace} {base : Nat} (hok : Value.okWide Try.prog W .any base 29 v)
    (h : DataW.Trod enc Try.prog W 0 (fun _ => true) true 29 v d p) : ∃ l : List Ent, Rw W v l ∧ (∃ a cap, v = .slice a l.length cap ∧ l.length ≤ cap ∧ (a = none → cap = 0)) ∧ ((d.weights Try.prog 29).all (· ≤ reachBytes) = true → l.length * 24 ≤ 140737488351232) := by
  obtain ⟨l, h1, -⟩ := openRows hok h
  obtain ⟨fuel, hf⟩ := h
  refine ⟨l, h1, ?_⟩
  obtain ⟨a0, cap0, rfl, hc⟩ := h1
  rcases Deep.open_slice Try.underlying29 hf with ⟨hcs, hx⟩ | ⟨x', l', c', m, n, D, Pl, hcs, _, hl, hm, hmm, hx, hall⟩
  · simp [Value.cells] at hcs
    obtain ⟨rfl, h0, rfl⟩ := hcs
    subst h0
    exact ⟨⟨none, 0, rfl, by simp, fun _ => rfl⟩, fun _ => by simp⟩
  · simp [Value.cells] at hcs
    obtain ⟨rfl, rfl, rfl⟩ := hcs
    simp only [Prod.mk.injEq] at hx
    obtain ⟨rfl, rfl⟩ := hx
    refine ⟨⟨some x', cap0, rfl, hl, fun e => by cases e⟩, fun hw => ?_⟩
    simp only [DataW.weights, Try.underlying29, List.all_cons, Bool.and_eq_true, decide_eq_true_eq, List.all_append, List.length_map, List.length_range] at hw
    have hb : Try.prog.bytesOf 32 = 24 := by kernel_rfl
    rw [hb] at hw
    have hr : reachBytes = 140737488351232 := rfl
    omega
end Go.Proofs.Ytlhijbgdccejbaa

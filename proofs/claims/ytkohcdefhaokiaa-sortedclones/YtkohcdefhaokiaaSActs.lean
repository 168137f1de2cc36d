/-
  What an argument that is a slice of acts (an int, a text, an int each) gives to a walk.
-/
import Derived.Test.YtkohcdefhaokiaaRows
import Derived.WalkKit
import Derived.ProofKit
import Derived.OpenShut
import Derived.Deep.Slices
import Derived.Deep.Strs
namespace Go.Proofs.Ytkohcdefhaokiaa
open Go.ChangeShapes Go.WideShapes Go.ChangeAt Go.RowKit

/-- v is a slice of the acts q -/
def Acts (w : World) (v : Value) (q : List (Int × ByteArray × Int)) : Prop :=
  ∃ a cap, v = .slice a q.length cap ∧ (q = [] ∨ ∃ b off, a = some ⟨b, off, none⟩ ∧ b < w.heap.size ∧ ∀ (j : Nat) (t : Int × ByteArray × Int), q[j]? = some t →
    w.cell? ⟨b, off + j * 3, none⟩ = some (.int .i64 t.1) ∧ w.cell? ⟨b, off + j * 3 + 1, none⟩ = some (.string t.2.1) ∧ w.cell? ⟨b, off + j * 3 + 2, none⟩ = some (.int .i64 t.2.2))

theorem mem_weightsAll {H : Type} {e : TypeId} {n : Nat} {x : DataW H} (hx : n ∈ x.weights Try.prog e) : ∀ {l : List (DataW H)}, x ∈ l → n ∈ DataW.weightsAll Try.prog e l
  | y :: r, h => by
    rw [DataW.weightsAll, List.mem_append]
    rcases List.mem_cons.1 h with rfl | h
    · exact .inl hx
    · exact .inr (mem_weightsAll hx h)

set_option maxRecDepth 100000 in
theorem openActs {H : Type} {enc : TypeId × Value → H} {W : World} {v : Value} {d : DataW H} {p : List MemPlace} {base : Nat} (hok : Value.okWide Try.prog W .any base 22 v)
    (h : DataW.Trod enc Try.prog W 0 (fun _ => true) true 22 v d p) : ∃ q : List (Int × ByteArray × Int), Acts W v q ∧ ((d.weights Try.prog 22).all (· ≤ reachBytes) = true → q.length ≤ 4398046510976 ∧ ∀ (j : Nat) (t : Int × ByteArray × Int), q[j]? = some t → t.2.1.size < 4611686018427387904) := by
  obtain ⟨a0, len0, cap0, rfl⟩ := okWide_slice Try.underlying22 hok
  obtain ⟨fuel, hf⟩ := h
  have hc3 : Try.prog.cellsOf 33 = 3 := by kernel_rfl
  have hc1 : Try.prog.cellsOf 3 = 1 := by kernel_rfl
  have hc2 : Try.prog.cellsOf 9 = 1 := by kernel_rfl
  rcases Deep.open_slice Try.underlying22 hf with ⟨hcs, hx⟩ | ⟨x, l, c, m, n, D, Pl, hcs, _, hl, hm, hmm, hx, hall⟩
  · simp [Value.cells] at hcs
    obtain ⟨rfl, rfl, rfl⟩ := hcs
    exact ⟨[], ⟨none, 0, rfl, .inl rfl⟩, fun _ => ⟨by simp, by simp⟩⟩
  · simp [Value.cells] at hcs
    obtain ⟨rfl, rfl, rfl⟩ := hcs
    simp only [Prod.mk.injEq] at hx
    obtain ⟨rfl, rfl⟩ := hx
    have hmc : m = cap0 := by simpa using hmm
    have each : ∀ i, i < len0 → ∃ t : Int × ByteArray × Int, (W.cell? (x.add (i * 3 + 0)) = some (.int .i64 t.1) ∧ W.cell? (x.add (i * 3 + 1)) = some (.string t.2.1) ∧ W.cell? (x.add (i * 3 + 2)) = some (.int .i64 t.2.2)) ∧ t.2.1.size ∈ (D i).weights Try.prog 33 := by
      intro i hi
      obtain ⟨cs, h1, h2⟩ := hall i (by omega)
      rw [hc3] at h1
      obtain ⟨_, hlen, hcell⟩ := World.cells?_some h1
      match cs, hlen with
      | [z0, z1, z2], _ =>
        obtain ⟨y0, y1, y2, k, hD, _, t0, t1, t2⟩ := Deep.trod_struct3 Try.underlying33 h2
        simp only [hc1, hc2, List.drop_zero, List.drop_succ_cons, List.take_succ_cons, List.take_zero] at t0 t1 t2
        obtain ⟨b0, e0, _, w0⟩ := DataW.trod_int Try.underlying3 t0
        obtain ⟨b1, e1, x1, w1⟩ := DataW.trod_string Try.underlying9 t1
        obtain ⟨b2, e2, _, w2⟩ := DataW.trod_int Try.underlying3 t2
        simp at e0 e1 e2
        subst e0 e1 e2
        have c0 := hcell 0 (by omega)
        have c1 := hcell 1 (by omega)
        have c2 := hcell 2 (by omega)
        rw [Addr.add_add] at c0 c1 c2
        refine ⟨(b0, b1, b2), ⟨c0, c1, c2⟩, ?_⟩
        simp only [Prod.mk.injEq] at hD
        rw [hD.1, x1]
        have : b1.data.toList.length = b1.size := by simp
        simp only [DataW.weights, Try.underlying33, List.map_cons, DataW.weightsEach, this]
        simp
    obtain ⟨X, hX⟩ := Deep.choose_lt each
    have hlen : ((List.range len0).map X).length = len0 := by simp
    have hget : ∀ j t, ((List.range len0).map X)[j]? = some t → j < len0 ∧ t = X j := fun j t hj => by
      obtain ⟨h1, h2⟩ := List.getElem?_eq_some_iff.1 hj
      simp at h1 h2
      exact ⟨h1, h2.symm⟩
    refine ⟨(List.range len0).map X, ⟨some x, cap0, by rw [hlen], ?_⟩, fun hw => ?_⟩
    · by_cases h0 : len0 = 0
      · left; subst h0; simp
      · right
        have hc := (hX 0 (by omega)).1.1
        obtain ⟨b, off, spot⟩ := x
        have hspot : spot = none := by simpa [Addr.add] using World.cell?_spot hc
        subst hspot
        refine ⟨b, off, rfl, ?_, fun j t hj => ?_⟩
        · rw [Addr.add_lit] at hc
          exact World.block_lt_of_cell? _ _ hc
        · obtain ⟨hj', rfl⟩ := hget j t hj
          have hj3 := (hX j hj').1
          simp only [Addr.add_lit] at hj3
          simpa [Nat.add_assoc] using hj3
    · simp only [DataW.weights, Try.underlying22, List.all_cons, Bool.and_eq_true, decide_eq_true_eq, List.all_append, List.length_map, List.length_range] at hw
      have hb : Try.prog.bytesOf 33 = 32 := by kernel_rfl
      rw [hb] at hw
      have hr : reachBytes = 140737488351232 := rfl
      refine ⟨by rw [hlen]; omega, fun j t hj => ?_⟩
      obtain ⟨hj', rfl⟩ := hget j t hj
      have h1 := mem_weightsAll (hX j hj').2 (l := (List.range len0).map D) (List.mem_map.2 ⟨j, List.mem_range.2 hj', rfl⟩)
      have h2 := List.all_eq_true.1 hw.2.1 _ h1
      simp only [decide_eq_true_eq] at h2
      omega

theorem own : ownKnob Try.prog.godebug = none := by kernel_rfl
theorem laidOut : laidOutB Try.prog = true := by kernel_rfl
end Go.Proofs.Ytkohcdefhaokiaa

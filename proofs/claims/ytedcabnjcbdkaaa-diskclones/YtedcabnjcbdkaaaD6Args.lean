/-
  What an argument that is an act, or a slice of acts, gives to a walk.
-/
import Derived.Test.YtedcabnjcbdkaaaRows
import Derived.Test.YtedcabnjcbdkaaaD5N
import Derived.ProofKit
import Derived.OpenShut
import Derived.Deep.Slices
import Derived.Deep.Strs
import Derived.ChangeSlices
namespace Go.Proofs.Ytedcabnjcbdkaaa
open Go.ChangeShapes Go.WideShapes Go.ChangeAt Go.RowKit

/-- v is a slice of the acts q -/
def Acs (w : World) (v : Value) (q : List Ac) : Prop :=
  ∃ a cap, v = .slice a q.length cap ∧ (q = [] ∨ ∃ b off, a = some ⟨b, off, none⟩ ∧ b < w.heap.size ∧ ∀ (j : Nat) (x : Ac), q[j]? = some x →
    (∀ i u, x.cs[i]? = some u → w.cell? ⟨b, off + j * 5 + i, none⟩ = some u) ∧ AcOk w w.heap.size x)
theorem trod_struct5 {H : Type} {enc : TypeId × Value → H} {P : Program} {w : World} {base : Nat} {spare : Nat → Bool} {held : Bool} {t : TypeId} {f0 f1 f2 f3 f4 : Field} {fuel : Nat} {cs : List Value} {x : DataW H × List MemPlace} (ht : P.underlying t = some (.struct #[f0, f1, f2, f3, f4])) (h : DataW.trod enc P w base spare held fuel t cs = some x) :
    ∃ y0 y1 y2 y3 y4 n, x = (.agg [y0.1, y1.1, y2.1, y3.1, y4.1], y0.2 ++ (y1.2 ++ (y2.2 ++ (y3.2 ++ y4.2)))) ∧ cs.length = P.cellsOf t ∧ DataW.trod enc P w base spare held n f0.type ((cs.drop f0.offset).take (P.cellsOf f0.type)) = some y0 ∧
      DataW.trod enc P w base spare held n f1.type ((cs.drop f1.offset).take (P.cellsOf f1.type)) = some y1 ∧ DataW.trod enc P w base spare held n f2.type ((cs.drop f2.offset).take (P.cellsOf f2.type)) = some y2 ∧
      DataW.trod enc P w base spare held n f3.type ((cs.drop f3.offset).take (P.cellsOf f3.type)) = some y3 ∧ DataW.trod enc P w base spare held n f4.type ((cs.drop f4.offset).take (P.cellsOf f4.type)) = some y4 := by
  obtain ⟨xs, n, _, rfl, hl, hlen, hf⟩ := DataW.trod_struct ht h
  match xs, hlen with
  | [y0, y1, y2, y3, y4], _ => exact ⟨y0, y1, y2, y3, y4, n, by simp, hl, by simpa using hf 0 f0 rfl, by simpa using hf 1 f1 rfl, by simpa using hf 2 f2 rfl, by simpa using hf 3 f3 rfl, by simpa using hf 4 f4 rfl⟩
theorem mem_weightsAll {H : Type} {e : TypeId} {n : Nat} {x : DataW H} (hx : n ∈ x.weights Try.prog e) : ∀ {l : List (DataW H)}, x ∈ l → n ∈ DataW.weightsAll Try.prog e l
  | y :: r, h => by
    rw [DataW.weightsAll, List.mem_append]
    rcases List.mem_cons.1 h with rfl | h
    · exact .inl hx
    · exact .inr (mem_weightsAll hx h)
/-- a slice of numbers -/
theorem openKs {H : Type} {enc : TypeId × Value → H} {W : World} {v : Value} {x : DataW H × List MemPlace} {fuel : Nat} (hf : DataW.trod enc Try.prog W 0 (fun _ => true) true fuel 28 [v] = some x) :
    ∃ ka ks kc, v = .slice ka (ks : List Int).length kc ∧ Ks W ka ks ∧ (ks ≠ [] → ∀ a, ka = some a → a.block < W.heap.size) := by
  rcases open_ints Try.underlying28 Try.underlying3 (by kernel_rfl) hf with ⟨hcs, hx⟩ | ⟨x, len0, cap0, zs, hcs, _, hl, hm, hz, hx, hcell, hws⟩
  · simp at hcs
    subst hcs
    exact ⟨none, [], 0, rfl, fun j hj => (by cases hj), fun h => absurd rfl h⟩
  · simp at hcs
    subst hcs
    have hsl : zs.length = cap0 := by simpa using hz
    have hlen : (zs.take len0).length = len0 := by simp; omega
    have key : 0 < len0 → ∃ b off, x = ⟨b, off, none⟩ ∧ b < W.heap.size := by
      intro h0
      have hc := hcell 0 (by omega)
      obtain ⟨b, off, spot⟩ := x
      have hspot : spot = none := by simpa [Addr.add] using World.cell?_spot hc
      subst hspot
      refine ⟨b, off, rfl, ?_⟩
      have hc0 : W.cell? ⟨b, off, none⟩ = some (.int .i64 (zs.getD 0 0)) := by simpa [Addr.add] using hc
      rcases Nat.lt_or_ge b W.heap.size with h | h
      · exact h
      · simp only [World.cell?] at hc0
        rw [Array.getElem?_eq_none h] at hc0
        cases hc0
    refine ⟨some x, zs.take len0, cap0, by rw [hlen], fun j hj => ?_, fun h0 a e => ?_⟩
    · rw [hlen] at hj
      obtain ⟨b, off, rfl, _⟩ := key (by omega)
      refine ⟨b, off, rfl, ?_⟩
      have hcj := hcell j (by omega)
      rw [Addr.add_lit] at hcj
      rw [hcj]
      have hjs : j < zs.length := by omega
      simp [List.getD, hjs]
    · cases e
      have : 0 < len0 := by
        rcases Nat.eq_zero_or_pos len0 with h | h
        · subst h; simp at h0
        · exact h
      obtain ⟨b, off, rfl, h⟩ := key this
      exact h
set_option maxRecDepth 100000 in
/-- an act -/
theorem openAc {H : Type} {enc : TypeId × Value → H} {W : World} {cs : List Value} {x : DataW H × List MemPlace} {fuel : Nat} (hl : cs.length = 5) (hf : DataW.trod enc Try.prog W 0 (fun _ => true) true fuel 30 cs = some x) :
    ∃ a : Ac, cs = a.cs.toList ∧ (a.s.size ≤ 9223372036853727231 → AcOk W W.heap.size a) ∧ a.s.size ∈ x.1.weights Try.prog 30 := by
  have hc1 : Try.prog.cellsOf 3 = 1 := by kernel_rfl
  have hc2 : Try.prog.cellsOf 9 = 1 := by kernel_rfl
  have hc3 : Try.prog.cellsOf 28 = 1 := by kernel_rfl
  match cs, hl with
  | [z0, z1, z2, z3, z4], _ =>
    obtain ⟨y0, y1, y2, y3, y4, k, hD, _, t0, t1, t2, t3, t4⟩ := trod_struct5 Try.underlying30 hf
    simp only [hc1, hc2, hc3, List.drop_zero, List.drop_succ_cons, List.take_succ_cons, List.take_zero] at t0 t1 t2 t3 t4
    obtain ⟨b0, e0, _, w0⟩ := DataW.trod_int Try.underlying3 t0
    obtain ⟨b1, e1, _, w1⟩ := DataW.trod_int Try.underlying3 t1
    obtain ⟨b2, e2, _, w2⟩ := DataW.trod_string Try.underlying9 t2
    obtain ⟨b3, e3, x3, w3⟩ := DataW.trod_string Try.underlying9 t3
    obtain ⟨ka, ks, kc, e4, hks, hlow⟩ := openKs t4
    simp at e0 e1 e2 e3
    subst e0 e1 e2 e3 e4
    refine ⟨⟨b0, b1, b2, b3, ka, ks, kc⟩, rfl, fun hs => ⟨hks, hlow, (bounds_i64 w1).2, by unfold maxLen at w2; exact w2, hs⟩, ?_⟩
    rw [hD, x3]
    have : b3.data.toList.length = b3.size := by simp
    simp only [DataW.weights, Try.underlying30, List.map_cons, DataW.weightsEach, this]
    simp
set_option maxRecDepth 100000 in
theorem openActs {H : Type} {enc : TypeId × Value → H} {W : World} {v : Value} {d : DataW H} {p : List MemPlace} {base : Nat} (hok : Value.okWide Try.prog W .any base 22 v)
    (h : DataW.Trod enc Try.prog W 0 (fun _ => true) true 22 v d p) (hw : (d.weights Try.prog 22).all (· ≤ reachBytes) = true) : ∃ q : List Ac, Acs W v q ∧ q.length ≤ 4398046510976 := by
  obtain ⟨a0, len0, cap0, rfl⟩ := okWide_slice Try.underlying22 hok
  obtain ⟨fuel, hf⟩ := h
  have hc5 : Try.prog.cellsOf 30 = 5 := by kernel_rfl
  rcases Deep.open_slice Try.underlying22 hf with ⟨hcs, hx⟩ | ⟨x, l, c, m, n, D, Pl, hcs, _, hl, hm, hmm, hx, hall⟩
  · simp [Value.cells] at hcs
    obtain ⟨rfl, rfl, rfl⟩ := hcs
    exact ⟨[], ⟨none, 0, rfl, .inl rfl⟩, by simp⟩
  · simp [Value.cells] at hcs
    obtain ⟨rfl, rfl, rfl⟩ := hcs
    simp only [Prod.mk.injEq] at hx
    obtain ⟨rfl, rfl⟩ := hx
    have hmc : m = cap0 := by simpa using hmm
    simp only [DataW.weights, Try.underlying22, List.all_cons, Bool.and_eq_true, decide_eq_true_eq, List.all_append, List.length_map, List.length_range] at hw
    have hb : Try.prog.bytesOf 30 = 72 := by kernel_rfl
    rw [hb] at hw
    have hr : reachBytes = 140737488351232 := rfl
    have each : ∀ i, i < len0 → ∃ a : Ac, (∀ j u, a.cs[j]? = some u → W.cell? (x.add (i * 5 + j)) = some u) ∧ AcOk W W.heap.size a := by
      intro i hi
      obtain ⟨cs, h1, h2⟩ := hall i (by omega)
      rw [hc5] at h1
      obtain ⟨_, hlen, hcell⟩ := World.cells?_some h1
      obtain ⟨a, rfl, hok, hwt⟩ := openAc hlen h2
      refine ⟨a, fun j u hj => ?_, hok ?_⟩
      · have hj5 : j < 5 := by
          obtain ⟨hj, _⟩ := Array.getElem?_eq_some_iff.1 hj
          exact hj
        have := hcell j hj5
        rw [Addr.add_add] at this
        rw [this, Array.getElem?_toList]
        exact hj
      · have h1 := mem_weightsAll hwt (l := (List.range len0).map D) (List.mem_map.2 ⟨i, List.mem_range.2 hi, rfl⟩)
        have h2 := List.all_eq_true.1 hw.2.1 _ h1
        simp only [decide_eq_true_eq] at h2
        omega
    obtain ⟨X, hX⟩ := Deep.choose_lt each
    have hlen : ((List.range len0).map X).length = len0 := by simp
    have hget : ∀ j t, ((List.range len0).map X)[j]? = some t → j < len0 ∧ t = X j := fun j t hj => by
      obtain ⟨h1, h2⟩ := List.getElem?_eq_some_iff.1 hj
      simp at h1 h2
      exact ⟨h1, h2.symm⟩
    refine ⟨(List.range len0).map X, ⟨some x, cap0, by rw [hlen], ?_⟩, by rw [hlen]; omega⟩
    by_cases h0 : len0 = 0
    · left; subst h0; simp
    · right
      have hc := (hX 0 (by omega)).1 0 _ rfl
      obtain ⟨b, off, spot⟩ := x
      have hspot : spot = none := by simpa [Addr.add] using World.cell?_spot hc
      subst hspot
      refine ⟨b, off, rfl, ?_, fun j t hj => ?_⟩
      · rw [Addr.add_lit] at hc
        exact World.block_lt_of_cell? _ _ hc
      · obtain ⟨hj', rfl⟩ := hget j t hj
        refine ⟨fun i u hu => ?_, (hX j hj').2⟩
        have := (hX j hj').1 i u hu
        rw [Addr.add_lit] at this
        simpa [Nat.add_assoc] using this
theorem own : ownKnob Try.prog.godebug = none := by kernel_rfl
theorem laidOut : laidOutB Try.prog = true := by kernel_rfl
end Go.Proofs.Ytedcabnjcbdkaaa

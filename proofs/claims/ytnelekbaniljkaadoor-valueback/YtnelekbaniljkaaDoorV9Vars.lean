/-
  What an argument that is a slice of variables gives to a walk.
-/
import Derived.Test.YtnelekbaniljkaaDoorV9Args
namespace Go.Proofs.YtnelekbaniljkaaDoor
open Go.ChangeShapes Go.WideShapes Go.ChangeAt Go.WideMaps Go.WideElems Go.RowKit

theorem mem_weightsAll9 {H : Type} {e : TypeId} {n : Nat} {x : DataW H} (hx : n ∈ x.weights Tryd.prog e) : ∀ {l : List (DataW H)}, x ∈ l → n ∈ DataW.weightsAll Tryd.prog e l
  | y :: r, h => by
    rw [DataW.weightsAll, List.mem_append]
    rcases List.mem_cons.1 h with rfl | h
    · exact .inl hx
    · exact .inr (mem_weightsAll9 hx h)

set_option maxRecDepth 100000 in
theorem openVarF {H : Type} {enc : TypeId × Value → H} {W : World} {fuel : Nat} {cs : List Value} {y : DataW H × List MemPlace} (hl : cs.length = 4)
    (h : DataW.trod enc Tryd.prog W 0 (fun _ => true) true fuel 49 cs = some y) : ∃ x : Vr, cs = [.string x.1, .int .i64 x.2.1, .int .i64 x.2.2.1, .string (S x.2.2.2)] ∧ ((-9223372036854775808 ≤ x.2.1 ∧ x.2.1 ≤ 9223372036854775807) ∧ (-9223372036854775808 ≤ x.2.2.1 ∧ x.2.2.1 ≤ 9223372036854775807)) ∧ x.1.size ∈ y.1.weights Tryd.prog 49 ∧ x.2.2.2.length ∈ y.1.weights Tryd.prog 49 := by
  have hc2 : Tryd.prog.cellsOf 9 = 1 := by kernel_rfl
  have hc3 : Tryd.prog.cellsOf 23 = 3 := by kernel_rfl
  match cs, hl with
  | [z0, z1, z2, z3], _ =>
    obtain ⟨y0, y1, k, hD, _, t0, t1⟩ := trod_struct2 Tryd.underlying49 h
    simp only [hc2, hc3, List.drop_zero, List.drop_succ_cons, List.take_succ_cons, List.take_zero] at t0 t1
    obtain ⟨b0, e0, x0, w0⟩ := DataW.trod_string Tryd.underlying9 t0
    obtain ⟨v, ev, hy, hb, hw⟩ := openValF (by rfl) t1
    simp at e0
    subst e0
    simp only [List.cons.injEq, and_true] at ev
    obtain ⟨rfl, rfl, rfl⟩ := ev
    have hyy : y.1 = .agg [.lit (.string b0.data.toList), y1.1] := by
      rw [hD]; simp only; rw [x0]
    refine ⟨(b0, v), rfl, hb, ?_, ?_⟩
    · rw [hyy]
      simp [DataW.weights, Tryd.underlying49, DataW.weightsEach]
    · rw [hyy]
      simp only [DataW.weights, Tryd.underlying49]
      exact DataW.weights_mem_each (j := 1) (t := 23) (d := y1.1) rfl rfl _ hw

set_option maxRecDepth 100000 in
theorem openVarsF {H : Type} {enc : TypeId × Value → H} {W : World} {a0 : Option Addr} {len0 cap0 fuel : Nat} {x : DataW H × List MemPlace}
    (hf : DataW.trod enc Tryd.prog W 0 (fun _ => true) true fuel 24 (Value.slice a0 len0 cap0).cells.toList = some x) : ∃ l : List Vr, Vs W (.slice a0 len0 cap0) l ∧ ((x.1.weights Tryd.prog 24).all (· ≤ reachBytes) = true → l.length * 48 ≤ 140737488355328 ∧ Sm9 l) := by
  have hc4 : Tryd.prog.cellsOf 49 = 4 := by kernel_rfl
  rcases Deep.open_slice Tryd.underlying24 hf with ⟨hcs, hx⟩ | ⟨x', l', c', m, n, D, Pl, hcs, _, hl, hm, hmm, hx, hall⟩
  · simp [Value.cells] at hcs
    obtain ⟨rfl, rfl, rfl⟩ := hcs
    exact ⟨[], Vs.nil W, fun _ => ⟨by simp, fun x hx => by cases hx⟩⟩
  · simp [Value.cells] at hcs
    obtain ⟨rfl, rfl, rfl⟩ := hcs
    subst hx
    have hmc : m = cap0 := by simpa using hmm
    have each : ∀ i, i < len0 → ∃ r : Vr, (W.cell? (x'.add (i * 4 + 0)) = some (.string r.1) ∧ W.cell? (x'.add (i * 4 + 1)) = some (.int .i64 r.2.1) ∧ W.cell? (x'.add (i * 4 + 2)) = some (.int .i64 r.2.2.1) ∧ W.cell? (x'.add (i * 4 + 3)) = some (.string (S r.2.2.2))) ∧ ((-9223372036854775808 ≤ r.2.1 ∧ r.2.1 ≤ 9223372036854775807) ∧ (-9223372036854775808 ≤ r.2.2.1 ∧ r.2.2.1 ≤ 9223372036854775807)) ∧ r.1.size ∈ (D i).weights Tryd.prog 49 ∧ r.2.2.2.length ∈ (D i).weights Tryd.prog 49 := by
      intro i hi
      obtain ⟨cs, h1, h2⟩ := hall i (by omega)
      rw [hc4] at h1
      obtain ⟨_, hlen, hcell⟩ := World.cells?_some h1
      obtain ⟨r, hr, hb, w1, w2⟩ := openVarF hlen h2
      subst hr
      have c0 := hcell 0 (by omega)
      have c1 := hcell 1 (by omega)
      have c2 := hcell 2 (by omega)
      have c3 := hcell 3 (by omega)
      rw [Addr.add_add] at c0 c1 c2 c3
      exact ⟨r, ⟨c0, c1, c2, c3⟩, hb, w1, w2⟩
    obtain ⟨X, hX⟩ := Deep.choose_lt each
    have hlen : ((List.range len0).map X).length = len0 := by simp
    refine ⟨(List.range len0).map X, ⟨some x', cap0, by rw [hlen], ⟨by rw [hlen]; omega, fun e => by cases e⟩, ?_⟩, fun hw => ?_⟩
    · by_cases h0 : len0 = 0
      · left; subst h0; simp
      · right
        have hc := (hX 0 (by omega)).1.1
        obtain ⟨b, off, spot⟩ := x'
        have hspot : spot = none := by simpa [Addr.add] using World.cell?_spot hc
        subst hspot
        refine ⟨b, off, rfl, ?_, fun j hj => ?_⟩
        · rw [Addr.add_lit] at hc
          exact World.block_lt_of_cell? _ _ hc
        · rw [hlen] at hj
          have hj3 := (hX j hj).1
          simp only [Addr.add_lit] at hj3
          simpa [Nat.add_assoc] using hj3
    · simp only [DataW.weights, Tryd.underlying24, List.all_cons, Bool.and_eq_true, decide_eq_true_eq, List.all_append, List.length_map, List.length_range] at hw
      have hb : Tryd.prog.bytesOf 49 = 48 := by kernel_rfl
      rw [hb] at hw
      have hr : reachBytes = 140737488351232 := rfl
      refine ⟨by rw [hlen]; omega, fun r hr' => ?_⟩
      obtain ⟨j, hj, rfl⟩ := List.mem_map.1 hr'
      have hj' := List.mem_range.1 hj
      obtain ⟨_, hbd, w1, w2⟩ := hX j hj'
      have hmem : D j ∈ (List.range len0).map D := List.mem_map.2 ⟨j, hj, rfl⟩
      have q1 := of_decide_eq_true (List.all_eq_true.1 hw.2.1 _ (mem_weightsAll9 w1 hmem))
      have q2 := of_decide_eq_true (List.all_eq_true.1 hw.2.1 _ (mem_weightsAll9 w2 hmem))
      exact ⟨by omega, hbd.1, hbd.2, by omega⟩

set_option maxRecDepth 100000 in
theorem openVars {H : Type} {enc : TypeId × Value → H} {W : World} {v : Value} {d : DataW H} {p : List MemPlace} {base : Nat} (hok : Value.okWide Tryd.prog W .any base 24 v)
    (h : DataW.Trod enc Tryd.prog W 0 (fun _ => true) true 24 v d p) : ∃ l : List Vr, Vs W v l ∧ ((d.weights Tryd.prog 24).all (· ≤ reachBytes) = true → l.length * 48 ≤ 140737488355328 ∧ Sm9 l) := by
  obtain ⟨a0, len0, cap0, rfl⟩ := okWide_slice Tryd.underlying24 hok
  obtain ⟨fuel, hf⟩ := h
  exact openVarsF (x := (d, p)) hf
end Go.Proofs.YtnelekbaniljkaaDoor

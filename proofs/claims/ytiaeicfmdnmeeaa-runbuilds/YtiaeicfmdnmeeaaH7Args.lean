/-
  What an argument that is a slice of rows gives to a walk.
-/
import Derived.Test.YtiaeicfmdnmeeaaRows
import Derived.Test.YtiaeicfmdnmeeaaH7Law
import Derived.ProofKit
import Derived.OpenShut
import Derived.ShutString
import Derived.SizedLaws
import Derived.Deep.Slices
import Derived.Deep.Strs
namespace Go.Proofs.Ytiaeicfmdnmeeaa
open Go.ChangeShapes Go.WideShapes Go.ChangeAt Go.RowKit

theorem mem_weightsAll {H : Type} {e : TypeId} {n : Nat} {x : DataW H} (hx : n ∈ x.weights Try.prog e) : ∀ {l : List (DataW H)}, x ∈ l → n ∈ DataW.weightsAll Try.prog e l
  | y :: r, h => by
    rw [DataW.weightsAll, List.mem_append]
    rcases List.mem_cons.1 h with rfl | h
    · exact .inl hx
    · exact .inr (mem_weightsAll hx h)
theorem own : ownKnob Try.prog.godebug = none := by kernel_rfl
theorem laidOut : laidOutB Try.prog = true := by kernel_rfl

set_option maxRecDepth 100000 in
theorem openRow7 {H : Type} {enc : TypeId × Value → H} {W : World} {fuel : Nat} {cs : List Value} {y : DataW H × List MemPlace} (hl : cs.length = 3)
    (h : DataW.trod enc Try.prog W 0 (fun _ => true) true fuel 41 cs = some y) : ∃ x : R7, cs = [.string (S x.1), .string (S x.2.1), .bool x.2.2] ∧ x.1.length ∈ y.1.weights Try.prog 41 ∧ x.2.1.length ∈ y.1.weights Try.prog 41 ∧ y.1 = .agg [.lit (.string x.1), .agg [.lit (.string x.2.1), .lit (.bool x.2.2)]] := by
  have hc3 : Try.prog.cellsOf 37 = 2 := by kernel_rfl
  have hc1 : Try.prog.cellsOf 4 = 1 := by kernel_rfl
  have hc2 : Try.prog.cellsOf 9 = 1 := by kernel_rfl
  match cs, hl with
  | [z0, z1, z2], _ =>
    obtain ⟨y0, y1, k, hD, _, t0, t1⟩ := trod_struct2 Try.underlying41 h
    simp only [hc2, hc3, List.drop_zero, List.drop_succ_cons, List.take_succ_cons, List.take_zero] at t0 t1
    obtain ⟨u0, u1, k2, hD2, _, s0, s1⟩ := trod_struct2 Try.underlying37 t1
    simp only [hc1, hc2, List.drop_zero, List.drop_succ_cons, List.take_succ_cons, List.take_zero] at s0 s1
    obtain ⟨b0, e0, x0, w0⟩ := DataW.trod_string Try.underlying9 t0
    obtain ⟨b1, e1, x1, w1⟩ := DataW.trod_string Try.underlying9 s0
    obtain ⟨b2, e2, x2⟩ := DataW.trod_bool Try.underlying4 s1
    simp at e0 e1 e2
    subst e0 e1 e2
    have hy : y.1 = .agg [.lit (.string b0.data.toList), .agg [.lit (.string b1.data.toList), .lit (.bool b2)]] := by
      rw [hD]; simp only; rw [x0, hD2]; simp only; rw [x1, x2]
    refine ⟨(b0.data.toList, b1.data.toList, b2), by simp [S_of], ?_, ?_, hy⟩
    · rw [hy]
      simp [DataW.weights, Try.underlying41, DataW.weightsEach]
    · rw [hy]
      simp [DataW.weights, Try.underlying41, Try.underlying37, DataW.weightsEach]

set_option maxRecDepth 100000 in
theorem openRows7F {H : Type} {enc : TypeId × Value → H} {W : World} {a0 : Option Addr} {len0 cap0 fuel : Nat} {x : DataW H × List MemPlace}
    (hf : DataW.trod enc Try.prog W 0 (fun _ => true) true fuel 22 (Value.slice a0 len0 cap0).cells.toList = some x) : ∃ l : List R7, Rw7 W (.slice a0 len0 cap0) l ∧ ((x.1.weights Try.prog 22).all (· ≤ reachBytes) = true → l.length * 40 ≤ 140737488355328 ∧ Sm7 l) ∧ (l = [] ∨ ∃ sp, x.1 = .slice (l.map fun r => .agg [.lit (.string r.1), .agg [.lit (.string r.2.1), .lit (.bool r.2.2)]]) sp) := by
  have hc3 : Try.prog.cellsOf 41 = 3 := by kernel_rfl
  rcases Deep.open_slice Try.underlying22 hf with ⟨hcs, hx⟩ | ⟨x', l', c', m, n, D, Pl, hcs, _, hl, hm, hmm, hx, hall⟩
  · simp [Value.cells] at hcs
    obtain ⟨rfl, rfl, rfl⟩ := hcs
    exact ⟨[], ⟨none, 0, rfl, .inl rfl⟩, fun _ => ⟨by simp, fun x hx => by cases hx⟩, .inl rfl⟩
  · simp [Value.cells] at hcs
    obtain ⟨rfl, rfl, rfl⟩ := hcs
    subst hx
    have hmc : m = cap0 := by simpa using hmm
    have each : ∀ i, i < len0 → ∃ r : R7, (W.cell? (x'.add (i * 3 + 0)) = some (.string (S r.1)) ∧ W.cell? (x'.add (i * 3 + 1)) = some (.string (S r.2.1)) ∧ W.cell? (x'.add (i * 3 + 2)) = some (.bool r.2.2)) ∧ r.1.length ∈ (D i).weights Try.prog 41 ∧ r.2.1.length ∈ (D i).weights Try.prog 41 ∧ D i = .agg [.lit (.string r.1), .agg [.lit (.string r.2.1), .lit (.bool r.2.2)]] := by
      intro i hi
      obtain ⟨cs, h1, h2⟩ := hall i (by omega)
      rw [hc3] at h1
      obtain ⟨_, hlen, hcell⟩ := World.cells?_some h1
      obtain ⟨r, hr, w1, w2, w3⟩ := openRow7 hlen h2
      subst hr
      have c0 := hcell 0 (by omega)
      have c1 := hcell 1 (by omega)
      have c2 := hcell 2 (by omega)
      rw [Addr.add_add] at c0 c1 c2
      exact ⟨r, ⟨c0, c1, c2⟩, w1, w2, w3⟩
    obtain ⟨X, hX⟩ := Deep.choose_lt each
    have hlen : ((List.range len0).map X).length = len0 := by simp
    refine ⟨(List.range len0).map X, ⟨some x', cap0, by rw [hlen], ?_⟩, fun hw => ?_, .inr ⟨(List.range (m - len0)).map fun j => D (len0 + j), ?_⟩⟩
    · by_cases h0 : len0 = 0
      · left; subst h0; simp
      · right
        have hc := (hX 0 (by omega)).1.1
        obtain ⟨b, off, spot⟩ := x'
        have hspot : spot = none := by simpa [Addr.add] using World.cell?_spot hc
        subst hspot
        refine ⟨b, off, rfl, ?_, fun j hj => ?_⟩
        · rw [Addr.add_lit] at hc
          exact World.block_lt_of_cell? _ _ hc
        · rw [hlen] at hj
          have hj3 := (hX j hj).1
          simp only [Addr.add_lit] at hj3
          simpa [Nat.add_assoc] using hj3
    · simp only [DataW.weights, Try.underlying22, List.all_cons, Bool.and_eq_true, decide_eq_true_eq, List.all_append, List.length_map, List.length_range] at hw
      have hb : Try.prog.bytesOf 41 = 40 := by kernel_rfl
      rw [hb] at hw
      have hr : reachBytes = 140737488351232 := rfl
      refine ⟨by rw [hlen]; omega, fun r hr' => ?_⟩
      obtain ⟨j, hj, rfl⟩ := List.mem_map.1 hr'
      have hj' := List.mem_range.1 hj
      obtain ⟨_, w1, w2, _⟩ := hX j hj'
      have hmem : D j ∈ (List.range len0).map D := List.mem_map.2 ⟨j, hj, rfl⟩
      have q1 := of_decide_eq_true (List.all_eq_true.1 hw.2.1 _ (mem_weightsAll w1 hmem))
      have q2 := of_decide_eq_true (List.all_eq_true.1 hw.2.1 _ (mem_weightsAll w2 hmem))
      omega
    · simp only
      congr 1
      rw [List.map_map]
      refine List.map_congr_left (fun j hj => ?_)
      exact (hX j (List.mem_range.1 hj)).2.2.2

set_option maxRecDepth 100000 in
theorem openRows7 {H : Type} {enc : TypeId × Value → H} {W : World} {v : Value} {d : DataW H} {p : List MemPlace} {base : Nat} (hok : Value.okWide Try.prog W .any base 22 v)
    (h : DataW.Trod enc Try.prog W 0 (fun _ => true) true 22 v d p) : ∃ l : List R7, Rw7 W v l ∧ ((d.weights Try.prog 22).all (· ≤ reachBytes) = true → l.length * 40 ≤ 140737488355328 ∧ Sm7 l) ∧ (l = [] ∨ ∃ sp, d = .slice (l.map fun r => .agg [.lit (.string r.1), .agg [.lit (.string r.2.1), .lit (.bool r.2.2)]]) sp) := by
  obtain ⟨a0, len0, cap0, rfl⟩ := okWide_slice Try.underlying22 hok
  obtain ⟨fuel, hf⟩ := h
  exact openRows7F (x := (d, p)) hf
/-- the weights of one argument -/
theorem sized_at {H : Type} {P : Program} {ts : List TypeId} {ds : List (DataW H)} (h : (DataW.weightsEach P ts ds).all (· ≤ reachBytes) = true) {i : Nat} {t : TypeId} {d : DataW H} (ht : ts[i]? = some t) (hd : ds[i]? = some d) : (d.weights P t).all (· ≤ reachBytes) = true := by
  rw [List.all_eq_true] at h ⊢
  exact fun n hn => h n (DataW.weights_mem_each ht hd n hn)
end Go.Proofs.Ytiaeicfmdnmeeaa

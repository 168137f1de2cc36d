/-
  What arguments that are texts and slices of variables give to a walk.
-/
import Derived.Test.YtpbfdaijnndilaaGreatDoorX10Crd
namespace Go.Proofs.YtpbfdaijnndilaaGreatDoor.x10
open Go.ChangeShapes Go.WideShapes Go.ChangeAt Go.WideMaps Go.WideElems Go.RowKit

/-- the weights of one argument -/
theorem sized_at {H : Type} {P : Program} {ts : List TypeId} {ds : List (DataW H)} (h : (DataW.weightsEach P ts ds).all (· ≤ reachBytes) = true) {i : Nat} {t : TypeId} {d : DataW H} (ht : ts[i]? = some t) (hd : ds[i]? = some d) : (d.weights P t).all (· ≤ reachBytes) = true := by
  rw [List.all_eq_true] at h ⊢
  exact fun n hn => h n (DataW.weights_mem_each ht hd n hn)
theorem sized_part {H : Type} {P : Program} {ts : List TypeId} {ds : List (DataW H)} (h : (DataW.weightsEach P ts ds).all (· ≤ reachBytes) = true) {i : Nat} {t : TypeId} {fs : Array Field} {parts : List (DataW H)} (ht : ts[i]? = some t) (hd : ds[i]? = some (.agg parts)) (hu : P.underlying t = some (.struct fs))
    {j : Nat} {u : TypeId} {d : DataW H} (hj : (fs.toList.map (·.type))[j]? = some u) (hp : parts[j]? = some d) : (d.weights P u).all (· ≤ reachBytes) = true := by
  have h1 := sized_at h ht hd
  simp only [DataW.weights, hu] at h1
  exact sized_at h1 hj hp
theorem str_size {H : Type} {l : List UInt8} (h : (((.lit (.string l)) : DataW H).weights Tryz.prog 9).all (· ≤ reachBytes) = true) : l.length ≤ 140737488351232 := of_decide_eq_true (List.all_eq_true.1 h l.length (by simp [DataW.weights]))

set_option maxRecDepth 100000 in
theorem openValF {H : Type} {enc : TypeId × Value → H} {W : World} {fuel : Nat} {cs : List Value} {y : DataW H × List MemPlace} (hl : cs.length = 3)
    (h : DataW.trod enc Tryz.prog W 0 (fun _ => true) true fuel 48 cs = some y) : ∃ x : V9, cs = [.int .i64 x.1, .int .i64 x.2.1, .string (S x.2.2)] ∧ y.1 = .agg [.lit (.int .i64 x.1), .lit (.int .i64 x.2.1), .lit (.string x.2.2)] ∧ ((-9223372036854775808 ≤ x.1 ∧ x.1 ≤ 9223372036854775807) ∧ (-9223372036854775808 ≤ x.2.1 ∧ x.2.1 ≤ 9223372036854775807)) ∧ x.2.2.length ∈ y.1.weights Tryz.prog 48 := by
  have hc1 : Tryz.prog.cellsOf 3 = 1 := by kernel_rfl
  have hc2 : Tryz.prog.cellsOf 9 = 1 := by kernel_rfl
  have hc3 : Tryz.prog.cellsOf 2 = 1 := by kernel_rfl
  match cs, hl with
  | [z0, z1, z2], _ =>
    obtain ⟨y0, y1, y2, k, hD, _, t0, t1, t2⟩ := Deep.trod_struct3 Tryz.underlying48 h
    simp only [hc1, hc2, hc3, List.drop_zero, List.drop_succ_cons, List.take_succ_cons, List.take_zero] at t0 t1 t2
    obtain ⟨b0, e0, x0, w0⟩ := DataW.trod_int Tryz.underlying3 t0
    obtain ⟨b1, e1, x1, w1⟩ := DataW.trod_int Tryz.underlying2 t1
    obtain ⟨b2, e2, x2, w2⟩ := DataW.trod_string Tryz.underlying9 t2
    simp at e0 e1 e2
    subst e0 e1 e2
    have hy : y.1 = .agg [.lit (.int .i64 b0), .lit (.int .i64 b1), .lit (.string b2.data.toList)] := by
      rw [hD]; simp only; rw [x0, x1, x2]
    refine ⟨(b0, b1, b2.data.toList), by simp [S_of], hy, ⟨bounds_i64 w0, bounds_i64 w1⟩, ?_⟩
    rw [hy]
    simp [DataW.weights, Tryz.underlying48, DataW.weightsEach]

set_option maxRecDepth 100000 in
theorem openVal {H : Type} {enc : TypeId × Value → H} {W : World} {v : Value} {d : DataW H} {p : List MemPlace} {base : Nat} (hok : Value.okWide Tryz.prog W .any base 48 v)
    (h : DataW.Trod enc Tryz.prog W 0 (fun _ => true) true 48 v d p) : ∃ x : V9, v = vA x ∧ ((d.weights Tryz.prog 48).all (· ≤ reachBytes) = true → Vk x) := by
  obtain ⟨cs, rfl, hsz⟩ := okWide_struct Tryz.underlying48 hok
  have hC : Tryz.prog.cellsOf 48 = 3 := by kernel_rfl
  obtain ⟨fuel, hf⟩ := h
  obtain ⟨x, hx, hy, hb, hw⟩ := openValF (y := (d, p)) (cs := cs.toList) (by rw [Array.length_toList, hsz, hC]) hf
  refine ⟨x, ?_, fun hs => ⟨hb.1, hb.2, ?_⟩⟩
  · unfold vA
    congr 1
    apply Array.toList_inj.1
    exact hx
  · have h2 := of_decide_eq_true (List.all_eq_true.1 hs _ hw)
    simp only [reachBytes] at h2
    omega
theorem mem_weightsAll9 {H : Type} {e : TypeId} {n : Nat} {x : DataW H} (hx : n ∈ x.weights Tryz.prog e) : ∀ {l : List (DataW H)}, x ∈ l → n ∈ DataW.weightsAll Tryz.prog e l
  | y :: r, h => by
    rw [DataW.weightsAll, List.mem_append]
    rcases List.mem_cons.1 h with rfl | h
    · exact .inl hx
    · exact .inr (mem_weightsAll9 hx h)

set_option maxRecDepth 100000 in
theorem openVarF {H : Type} {enc : TypeId × Value → H} {W : World} {fuel : Nat} {cs : List Value} {y : DataW H × List MemPlace} (hl : cs.length = 4)
    (h : DataW.trod enc Tryz.prog W 0 (fun _ => true) true fuel 50 cs = some y) : ∃ x : Vr, cs = [.string x.1, .int .i64 x.2.1, .int .i64 x.2.2.1, .string (S x.2.2.2)] ∧ ((-9223372036854775808 ≤ x.2.1 ∧ x.2.1 ≤ 9223372036854775807) ∧ (-9223372036854775808 ≤ x.2.2.1 ∧ x.2.2.1 ≤ 9223372036854775807)) ∧ x.1.size ∈ y.1.weights Tryz.prog 50 ∧ x.2.2.2.length ∈ y.1.weights Tryz.prog 50 := by
  have hc2 : Tryz.prog.cellsOf 9 = 1 := by kernel_rfl
  have hc3 : Tryz.prog.cellsOf 48 = 3 := by kernel_rfl
  match cs, hl with
  | [z0, z1, z2, z3], _ =>
    obtain ⟨y0, y1, k, hD, _, t0, t1⟩ := trod_struct2 Tryz.underlying50 h
    simp only [hc2, hc3, List.drop_zero, List.drop_succ_cons, List.take_succ_cons, List.take_zero] at t0 t1
    obtain ⟨b0, e0, x0, w0⟩ := DataW.trod_string Tryz.underlying9 t0
    obtain ⟨v, ev, hy, hb, hw⟩ := openValF (by rfl) t1
    simp at e0
    subst e0
    simp only [List.cons.injEq, and_true] at ev
    obtain ⟨rfl, rfl, rfl⟩ := ev
    have hyy : y.1 = .agg [.lit (.string b0.data.toList), y1.1] := by
      rw [hD]; simp only; rw [x0]
    refine ⟨(b0, v), rfl, hb, ?_, ?_⟩
    · rw [hyy]
      simp [DataW.weights, Tryz.underlying50, DataW.weightsEach]
    · rw [hyy]
      simp only [DataW.weights, Tryz.underlying50]
      exact DataW.weights_mem_each (j := 1) (t := 48) (d := y1.1) rfl rfl _ hw

set_option maxRecDepth 100000 in
theorem openVarsF {H : Type} {enc : TypeId × Value → H} {W : World} {a0 : Option Addr} {len0 cap0 fuel : Nat} {x : DataW H × List MemPlace}
    (hf : DataW.trod enc Tryz.prog W 0 (fun _ => true) true fuel 45 (Value.slice a0 len0 cap0).cells.toList = some x) : ∃ l : List Vr, Vs W (.slice a0 len0 cap0) l ∧ ((x.1.weights Tryz.prog 45).all (· ≤ reachBytes) = true → l.length * 48 ≤ 140737488355328 ∧ Sm9 l) := by
  have hc4 : Tryz.prog.cellsOf 50 = 4 := by kernel_rfl
  rcases Deep.open_slice Tryz.underlying45 hf with ⟨hcs, hx⟩ | ⟨x', l', c', m, n, D, Pl, hcs, _, hl, hm, hmm, hx, hall⟩
  · simp [Value.cells] at hcs
    obtain ⟨rfl, rfl, rfl⟩ := hcs
    exact ⟨[], Vs.nil W, fun _ => ⟨by simp, fun x hx => by cases hx⟩⟩
  · simp [Value.cells] at hcs
    obtain ⟨rfl, rfl, rfl⟩ := hcs
    subst hx
    have hmc : m = cap0 := by simpa using hmm
    have each : ∀ i, i < len0 → ∃ r : Vr, (W.cell? (x'.add (i * 4 + 0)) = some (.string r.1) ∧ W.cell? (x'.add (i * 4 + 1)) = some (.int .i64 r.2.1) ∧ W.cell? (x'.add (i * 4 + 2)) = some (.int .i64 r.2.2.1) ∧ W.cell? (x'.add (i * 4 + 3)) = some (.string (S r.2.2.2))) ∧ ((-9223372036854775808 ≤ r.2.1 ∧ r.2.1 ≤ 9223372036854775807) ∧ (-9223372036854775808 ≤ r.2.2.1 ∧ r.2.2.1 ≤ 9223372036854775807)) ∧ r.1.size ∈ (D i).weights Tryz.prog 50 ∧ r.2.2.2.length ∈ (D i).weights Tryz.prog 50 := by
      intro i hi
      obtain ⟨cs, h1, h2⟩ := hall i (by omega)
      rw [hc4] at h1
      obtain ⟨_, hlen, hcell⟩ := World.cells?_some h1
      obtain ⟨r, hr, hb, w1, w2⟩ := openVarF hlen h2
      subst hr
      have c0 := hcell 0 (by omega)
      have c1 := hcell 1 (by omega)
      have c2 := hcell 2 (by omega)
      have c3 := hcell 3 (by omega)
      rw [Addr.add_add] at c0 c1 c2 c3
      exact ⟨r, ⟨c0, c1, c2, c3⟩, hb, w1, w2⟩
    obtain ⟨X, hX⟩ := Deep.choose_lt each
    have hlen : ((List.range len0).map X).length = len0 := by simp
    refine ⟨(List.range len0).map X, ⟨some x', cap0, by rw [hlen], ⟨by rw [hlen]; omega, fun e => by cases e⟩, ?_⟩, fun hw => ?_⟩
    · by_cases h0 : len0 = 0
      · left; subst h0; simp
      · right
        have hc := (hX 0 (by omega)).1.1
        obtain ⟨b, off, spot⟩ := x'
        have hspot : spot = none := by simpa [Addr.add] using World.cell?_spot hc
        subst hspot
        refine ⟨b, off, rfl, ?_, fun j hj => ?_⟩
        · rw [Addr.add_lit] at hc
          exact World.block_lt_of_cell? _ _ hc
        · rw [hlen] at hj
          have hj3 := (hX j hj).1
          simp only [Addr.add_lit] at hj3
          simpa [Nat.add_assoc] using hj3
    · simp only [DataW.weights, Tryz.underlying45, List.all_cons, Bool.and_eq_true, decide_eq_true_eq, List.all_append, List.length_map, List.length_range] at hw
      have hb : Tryz.prog.bytesOf 50 = 48 := by kernel_rfl
      rw [hb] at hw
      have hr : reachBytes = 140737488351232 := rfl
      refine ⟨by rw [hlen]; omega, fun r hr' => ?_⟩
      obtain ⟨j, hj, rfl⟩ := List.mem_map.1 hr'
      have hj' := List.mem_range.1 hj
      obtain ⟨_, hbd, w1, w2⟩ := hX j hj'
      have hmem : D j ∈ (List.range len0).map D := List.mem_map.2 ⟨j, hj, rfl⟩
      have q1 := of_decide_eq_true (List.all_eq_true.1 hw.2.1 _ (mem_weightsAll9 w1 hmem))
      have q2 := of_decide_eq_true (List.all_eq_true.1 hw.2.1 _ (mem_weightsAll9 w2 hmem))
      exact ⟨by omega, hbd.1, hbd.2, by omega⟩

set_option maxRecDepth 100000 in
theorem openVars {H : Type} {enc : TypeId × Value → H} {W : World} {v : Value} {d : DataW H} {p : List MemPlace} {base : Nat} (hok : Value.okWide Tryz.prog W .any base 45 v)
    (h : DataW.Trod enc Tryz.prog W 0 (fun _ => true) true 45 v d p) : ∃ l : List Vr, Vs W v l ∧ ((d.weights Tryz.prog 45).all (· ≤ reachBytes) = true → l.length * 48 ≤ 140737488355328 ∧ Sm9 l) := by
  obtain ⟨a0, len0, cap0, rfl⟩ := okWide_slice Tryz.underlying45 hok
  obtain ⟨fuel, hf⟩ := h
  exact openVarsF (x := (d, p)) hf
end Go.Proofs.YtpbfdaijnndilaaGreatDoor.x10

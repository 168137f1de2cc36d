/-
  What an argument that is a process gives to a walk.
-/
import Derived.Test.YtlmdoiagjepmbaaGreatDoorM11Crd
namespace Go.Proofs.YtlmdoiagjepmbaaGreatDoor.m11
open Go.Proofs.YtlmdoiagjepmbaaGreatDoor.x10
open Go.ChangeShapes Go.WideShapes Go.ChangeAt Go.WideMaps Go.WideElems Go.RowKit

instance : Inhabited Nd := ⟨n0⟩
instance : Inhabited Fl := ⟨f0⟩
/-- the weights of one argument -/
theorem sized_at {H : Type} {P : Program} {ts : List TypeId} {ds : List (DataW H)} (h : (DataW.weightsEach P ts ds).all (· ≤ reachBytes) = true) {i : Nat} {t : TypeId} {d : DataW H} (ht : ts[i]? = some t) (hd : ds[i]? = some d) : (d.weights P t).all (· ≤ reachBytes) = true := by
  rw [List.all_eq_true] at h ⊢
  exact fun n hn => h n (DataW.weights_mem_each ht hd n hn)
theorem mem_weightsAll {H : Type} {e : TypeId} {n : Nat} {x : DataW H} (hx : n ∈ x.weights Tryz.prog e) : ∀ {l : List (DataW H)}, x ∈ l → n ∈ DataW.weightsAll Tryz.prog e l
  | y :: r, h => by
    rw [DataW.weightsAll, List.mem_append]
    rcases List.mem_cons.1 h with rfl | h
    · exact .inl hx
    · exact .inr (mem_weightsAll hx h)
theorem str_size {H : Type} {l : List UInt8} (h : (((.lit (.string l)) : DataW H).weights Tryz.prog 9).all (· ≤ reachBytes) = true) : l.length ≤ 140737488351232 := of_decide_eq_true (List.all_eq_true.1 h l.length (by simp [DataW.weights]))

set_option maxRecDepth 100000 in
theorem openNodeF {H : Type} {enc : TypeId × Value → H} {W : World} {fuel : Nat} {cs : List Value} {y : DataW H × List MemPlace} (hl : cs.length = 7)
    (h : DataW.trod enc Tryz.prog W 0 (fun _ => true) true fuel 32 cs = some y) : ∃ x : Nd, cs = nc7 x ∧ ((-9223372036854775808 ≤ x.kind ∧ x.kind ≤ 9223372036854775807) ∧ (-9223372036854775808 ≤ x.parent ∧ x.parent ≤ 9223372036854775807) ∧ (-9223372036854775808 ≤ x.host ∧ x.host ≤ 9223372036854775807) ∧ (-9223372036854775808 ≤ x.n ∧ x.n ≤ 9223372036854775807)) ∧ x.name.length ∈ y.1.weights Tryz.prog 32 ∧ x.typ.length ∈ y.1.weights Tryz.prog 32 ∧ x.key.length ∈ y.1.weights Tryz.prog 32 := by
  have hc1 : Tryz.prog.cellsOf 3 = 1 := by kernel_rfl
  have hc2 : Tryz.prog.cellsOf 9 = 1 := by kernel_rfl
  have hc3 : Tryz.prog.cellsOf 2 = 1 := by kernel_rfl
  match cs, hl with
  | [z0, z1, z2, z3, z4, z5, z6], _ =>
    obtain ⟨xs, k, _, hD, _, hlen, hf⟩ := DataW.trod_struct Tryz.underlying32 h
    match xs, hlen with
    | [y0, y1, y2, y3, y4, y5, y6], _ =>
      have t0 := hf 0 _ rfl
      have t1 := hf 1 _ rfl
      have t2 := hf 2 _ rfl
      have t3 := hf 3 _ rfl
      have t4 := hf 4 _ rfl
      have t5 := hf 5 _ rfl
      have t6 := hf 6 _ rfl
      simp only [List.getElem_toArray, List.getElem_cons_zero, List.getElem_cons_succ, hc1, hc2, hc3, List.drop_zero, List.drop_succ_cons, List.take_succ_cons, List.take_zero, List.getElem?_cons_zero, List.getElem?_cons_succ] at t0 t1 t2 t3 t4 t5 t6
      obtain ⟨b0, e0, x0, w0⟩ := DataW.trod_int Tryz.underlying3 t0
      obtain ⟨b1, e1, x1, w1⟩ := DataW.trod_int Tryz.underlying3 t1
      obtain ⟨b2, e2, x2, w2⟩ := DataW.trod_int Tryz.underlying3 t2
      obtain ⟨b3, e3, x3, w3⟩ := DataW.trod_string Tryz.underlying9 t3
      obtain ⟨b4, e4, x4, w4⟩ := DataW.trod_string Tryz.underlying9 t4
      obtain ⟨b5, e5, x5, w5⟩ := DataW.trod_string Tryz.underlying9 t5
      obtain ⟨b6, e6, x6, w6⟩ := DataW.trod_int Tryz.underlying2 t6
      simp at e0 e1 e2 e3 e4 e5 e6
      subst e0 e1 e2 e3 e4 e5 e6
      have hy : y.1 = .agg [.lit (.int .i64 b0), .lit (.int .i64 b1), .lit (.int .i64 b2), .lit (.string b3.data.toList), .lit (.string b4.data.toList), .lit (.string b5.data.toList), .lit (.int .i64 b6)] := by
        rw [hD]; simp only [List.map_cons, List.map_nil]; rw [x0, x1, x2, x3, x4, x5, x6]
      refine ⟨⟨b0, b1, b2, b3.data.toList, b4.data.toList, b5.data.toList, b6⟩, by simp [nc7, S_of], ⟨bounds_i64 w0, bounds_i64 w1, bounds_i64 w2, bounds_i64 w6⟩, ?_, ?_, ?_⟩ <;>
      · rw [hy]
        simp [DataW.weights, Tryz.underlying32, DataW.weightsEach]

set_option maxRecDepth 100000 in
theorem openFlowF {H : Type} {enc : TypeId × Value → H} {W : World} {fuel : Nat} {cs : List Value} {y : DataW H × List MemPlace} (hl : cs.length = 3)
    (h : DataW.trod enc Tryz.prog W 0 (fun _ => true) true fuel 37 cs = some y) : ∃ x : Fl, cs = fc3 x ∧ ((-9223372036854775808 ≤ x.src ∧ x.src ≤ 9223372036854775807) ∧ (-9223372036854775808 ≤ x.dst ∧ x.dst ≤ 9223372036854775807)) ∧ x.cond.length ∈ y.1.weights Tryz.prog 37 := by
  have hc1 : Tryz.prog.cellsOf 3 = 1 := by kernel_rfl
  have hc2 : Tryz.prog.cellsOf 9 = 1 := by kernel_rfl
  match cs, hl with
  | [z0, z1, z2], _ =>
    obtain ⟨y0, y1, y2, k, hD, _, t0, t1, t2⟩ := Deep.trod_struct3 Tryz.underlying37 h
    simp only [hc1, hc2, List.drop_zero, List.drop_succ_cons, List.take_succ_cons, List.take_zero] at t0 t1 t2
    obtain ⟨b0, e0, x0, w0⟩ := DataW.trod_int Tryz.underlying3 t0
    obtain ⟨b1, e1, x1, w1⟩ := DataW.trod_int Tryz.underlying3 t1
    obtain ⟨b2, e2, x2, w2⟩ := DataW.trod_string Tryz.underlying9 t2
    simp at e0 e1 e2
    subst e0 e1 e2
    have hy : y.1 = .agg [.lit (.int .i64 b0), .lit (.int .i64 b1), .lit (.string b2.data.toList)] := by
      rw [hD]; simp only; rw [x0, x1, x2]
    refine ⟨⟨b0, b1, b2.data.toList⟩, by simp [fc3, S_of], ⟨bounds_i64 w0, bounds_i64 w1⟩, ?_⟩
    rw [hy]
    simp [DataW.weights, Tryz.underlying37, DataW.weightsEach]

set_option maxRecDepth 100000 in
theorem openNodesF {H : Type} {enc : TypeId × Value → H} {W : World} {cs : List Value} {fuel : Nat} {x : DataW H × List MemPlace}
    (hf : DataW.trod enc Tryz.prog W 0 (fun _ => true) true fuel 22 cs = some x) : ∃ (v : Value) (l : List Nd), cs = [v] ∧ Ns W v l ∧ ((x.1.weights Tryz.prog 22).all (· ≤ reachBytes) = true → l.length * 80 ≤ 140737488355328 ∧ ∀ r ∈ l, Nz r) := by
  have hc7 : Tryz.prog.cellsOf 32 = 7 := by kernel_rfl
  rcases Deep.open_slice Tryz.underlying22 hf with ⟨hcs, hx⟩ | ⟨x', l', c', m, n, D, Pl, hcs, _, hl, hm, hmm, hx, hall⟩
  · exact ⟨_, [], hcs, Ns.nil W, fun _ => ⟨by simp, fun x hx => by cases hx⟩⟩
  · subst hx
    have hmc : m = c' := by simpa using hmm
    have each : ∀ i, i < l' → ∃ r : Nd, (∀ k u, (nc7 r)[k]? = some u → W.cell? (x'.add (i * 7 + k)) = some u) ∧ ((-9223372036854775808 ≤ r.kind ∧ r.kind ≤ 9223372036854775807) ∧ (-9223372036854775808 ≤ r.parent ∧ r.parent ≤ 9223372036854775807) ∧ (-9223372036854775808 ≤ r.host ∧ r.host ≤ 9223372036854775807) ∧ (-9223372036854775808 ≤ r.n ∧ r.n ≤ 9223372036854775807)) ∧ r.name.length ∈ (D i).weights Tryz.prog 32 ∧ r.typ.length ∈ (D i).weights Tryz.prog 32 ∧ r.key.length ∈ (D i).weights Tryz.prog 32 := by
      intro i hi
      obtain ⟨cs, h1, h2⟩ := hall i (by omega)
      rw [hc7] at h1
      obtain ⟨_, hlen, hcell⟩ := World.cells?_some h1
      obtain ⟨r, hr, hb, w1, w2, w3⟩ := openNodeF hlen h2
      subst hr
      refine ⟨r, fun k u hk => ?_, hb, w1, w2, w3⟩
      obtain ⟨hk7, -⟩ := List.getElem?_eq_some_iff.1 hk
      have := hcell k (by simpa [nc7] using hk7)
      rw [Addr.add_add] at this
      rw [this]
      exact hk
    obtain ⟨X, hX⟩ := Deep.choose_lt each
    have hlen : ((List.range l').map X).length = l' := by simp
    refine ⟨_, (List.range l').map X, hcs, ⟨some x', c', by rw [hlen], ⟨by rw [hlen]; omega, fun e => by cases e⟩, ?_⟩, fun hw => ?_⟩
    · by_cases h0 : l' = 0
      · left; subst h0; simp
      · right
        have hc := (hX 0 (by omega)).1 0 _ rfl
        obtain ⟨b, off, spot⟩ := x'
        have hspot : spot = none := by simpa [Addr.add] using World.cell?_spot hc
        subst hspot
        refine ⟨b, off, rfl, ?_, fun j hj => ?_⟩
        · rw [Addr.add_lit] at hc
          exact World.block_lt_of_cell? _ _ hc
        · rw [hlen] at hj
          have hj7 := (hX j hj).1
          simp only [Addr.add_lit] at hj7
          have hxe : ((List.range l').map X)[j]'(by rw [hlen]; exact hj) = X j := by simp
          rw [hxe]
          exact ⟨by simpa using hj7 0 _ rfl, by simpa [Nat.add_assoc] using hj7 1 _ rfl, by simpa [Nat.add_assoc] using hj7 2 _ rfl, by simpa [Nat.add_assoc] using hj7 3 _ rfl, by simpa [Nat.add_assoc] using hj7 4 _ rfl, by simpa [Nat.add_assoc] using hj7 5 _ rfl, by simpa [Nat.add_assoc] using hj7 6 _ rfl⟩
    · simp only [DataW.weights, Tryz.underlying22, List.all_cons, Bool.and_eq_true, decide_eq_true_eq, List.all_append, List.length_map, List.length_range] at hw
      have hb : Tryz.prog.bytesOf 32 = 80 := by kernel_rfl
      rw [hb] at hw
      have hr : reachBytes = 140737488351232 := rfl
      refine ⟨by rw [hlen]; omega, fun r hr' => ?_⟩
      obtain ⟨j, hj, rfl⟩ := List.mem_map.1 hr'
      have hj' := List.mem_range.1 hj
      obtain ⟨_, hbd, w1, w2, w3⟩ := hX j hj'
      have hmem : D j ∈ (List.range l').map D := List.mem_map.2 ⟨j, hj, rfl⟩
      have q1 := of_decide_eq_true (List.all_eq_true.1 hw.2.1 _ (mem_weightsAll w1 hmem))
      have q2 := of_decide_eq_true (List.all_eq_true.1 hw.2.1 _ (mem_weightsAll w2 hmem))
      have q3 := of_decide_eq_true (List.all_eq_true.1 hw.2.1 _ (mem_weightsAll w3 hmem))
      exact ⟨by omega, by omega, by omega, hbd.1, hbd.2.1, hbd.2.2.1, hbd.2.2.2⟩

set_option maxRecDepth 100000 in
theorem openFlowsF {H : Type} {enc : TypeId × Value → H} {W : World} {cs : List Value} {fuel : Nat} {x : DataW H × List MemPlace}
    (hf : DataW.trod enc Tryz.prog W 0 (fun _ => true) true fuel 23 cs = some x) : ∃ (v : Value) (l : List Fl), cs = [v] ∧ Fs W v l ∧ ((x.1.weights Tryz.prog 23).all (· ≤ reachBytes) = true → l.length * 32 ≤ 140737488355328 ∧ ∀ r ∈ l, Fz r) := by
  have hc3 : Tryz.prog.cellsOf 37 = 3 := by kernel_rfl
  rcases Deep.open_slice Tryz.underlying23 hf with ⟨hcs, hx⟩ | ⟨x', l', c', m, n, D, Pl, hcs, _, hl, hm, hmm, hx, hall⟩
  · exact ⟨_, [], hcs, Fs.nil W, fun _ => ⟨by simp, fun x hx => by cases hx⟩⟩
  · subst hx
    have hmc : m = c' := by simpa using hmm
    have each : ∀ i, i < l' → ∃ r : Fl, (∀ k u, (fc3 r)[k]? = some u → W.cell? (x'.add (i * 3 + k)) = some u) ∧ ((-9223372036854775808 ≤ r.src ∧ r.src ≤ 9223372036854775807) ∧ (-9223372036854775808 ≤ r.dst ∧ r.dst ≤ 9223372036854775807)) ∧ r.cond.length ∈ (D i).weights Tryz.prog 37 := by
      intro i hi
      obtain ⟨cs, h1, h2⟩ := hall i (by omega)
      rw [hc3] at h1
      obtain ⟨_, hlen, hcell⟩ := World.cells?_some h1
      obtain ⟨r, hr, hb, w1⟩ := openFlowF hlen h2
      subst hr
      refine ⟨r, fun k u hk => ?_, hb, w1⟩
      obtain ⟨hk7, -⟩ := List.getElem?_eq_some_iff.1 hk
      have := hcell k (by simpa [fc3] using hk7)
      rw [Addr.add_add] at this
      rw [this]
      exact hk
    obtain ⟨X, hX⟩ := Deep.choose_lt each
    have hlen : ((List.range l').map X).length = l' := by simp
    refine ⟨_, (List.range l').map X, hcs, ⟨some x', c', by rw [hlen], ⟨by rw [hlen]; omega, fun e => by cases e⟩, ?_⟩, fun hw => ?_⟩
    · by_cases h0 : l' = 0
      · left; subst h0; simp
      · right
        have hc := (hX 0 (by omega)).1 0 _ rfl
        obtain ⟨b, off, spot⟩ := x'
        have hspot : spot = none := by simpa [Addr.add] using World.cell?_spot hc
        subst hspot
        refine ⟨b, off, rfl, ?_, fun j hj => ?_⟩
        · rw [Addr.add_lit] at hc
          exact World.block_lt_of_cell? _ _ hc
        · rw [hlen] at hj
          have hj7 := (hX j hj).1
          simp only [Addr.add_lit] at hj7
          have hxe : ((List.range l').map X)[j]'(by rw [hlen]; exact hj) = X j := by simp
          rw [hxe]
          exact ⟨by simpa using hj7 0 _ rfl, by simpa [Nat.add_assoc] using hj7 1 _ rfl, by simpa [Nat.add_assoc] using hj7 2 _ rfl⟩
    · simp only [DataW.weights, Tryz.underlying23, List.all_cons, Bool.and_eq_true, decide_eq_true_eq, List.all_append, List.length_map, List.length_range] at hw
      have hb : Tryz.prog.bytesOf 37 = 32 := by kernel_rfl
      rw [hb] at hw
      have hr : reachBytes = 140737488351232 := rfl
      refine ⟨by rw [hlen]; omega, fun r hr' => ?_⟩
      obtain ⟨j, hj, rfl⟩ := List.mem_map.1 hr'
      have hj' := List.mem_range.1 hj
      obtain ⟨_, hbd, w1⟩ := hX j hj'
      have hmem : D j ∈ (List.range l').map D := List.mem_map.2 ⟨j, hj, rfl⟩
      have q1 := of_decide_eq_true (List.all_eq_true.1 hw.2.1 _ (mem_weightsAll w1 hmem))
      exact ⟨by omega, hbd.1, hbd.2⟩

set_option maxRecDepth 100000 in
theorem openProc {H : Type} {enc : TypeId × Value → H} {W : World} {v : Value} {d : DataW H} {p : List MemPlace} {base : Nat} (hok : Value.okWide Tryz.prog W .any base 25 v)
    (h : DataW.Trod enc Tryz.prog W 0 (fun _ => true) true 25 v d p) : ∃ (P : Pc) (nv fv : Value), v = pV P.id nv fv ∧ Po W nv fv P ∧ ((d.weights Tryz.prog 25).all (· ≤ reachBytes) = true → Pz P) := by
  have hc1 : Tryz.prog.cellsOf 9 = 1 := by kernel_rfl
  have hc2 : Tryz.prog.cellsOf 22 = 1 := by kernel_rfl
  have hc3 : Tryz.prog.cellsOf 23 = 1 := by kernel_rfl
  obtain ⟨cs, rfl, hsz⟩ := okWide_struct Tryz.underlying25 hok
  have hC : Tryz.prog.cellsOf 25 = 3 := by kernel_rfl
  obtain ⟨fuel, hf⟩ := h
  have hl : cs.toList.length = 3 := by rw [Array.length_toList, hsz, hC]
  have hcs : cs = cs.toList.toArray := by simp
  obtain ⟨z0, z1, z2, hz⟩ : ∃ z0 z1 z2, cs.toList = [z0, z1, z2] := by
    match hq : cs.toList, hl with
    | [a, b, c], _ => exact ⟨a, b, c, rfl⟩
  change DataW.trod enc Tryz.prog W 0 (fun _ => true) true fuel 25 cs.toList = some (d, p) at hf
  rw [hz] at hf hcs
  subst hcs
  obtain ⟨y0, y1, y2, k, hD, _, t0, t1, t2⟩ := Deep.trod_struct3 Tryz.underlying25 hf
  simp only [hc1, hc2, hc3, List.drop_zero, List.drop_succ_cons, List.take_succ_cons, List.take_zero] at t0 t1 t2
  obtain ⟨b0, e0, x0, w0⟩ := DataW.trod_string Tryz.underlying9 t0
  obtain ⟨nv, l1, e1, n1, s1⟩ := openNodesF t1
  obtain ⟨fv, l2, e2, n2, s2⟩ := openFlowsF t2
  simp at e0 e1 e2
  subst e0 e1 e2
  refine ⟨⟨b0.data.toList, l1, l2⟩, z1, z2, by simp [pV, S_of], ⟨n1, n2⟩, fun hw => ?_⟩
  have hd : d = .agg [y0.1, y1.1, y2.1] := congrArg Prod.fst hD
  rw [hd] at hw
  simp only [DataW.weights, Tryz.underlying25] at hw
  have v0 := sized_at hw (i := 0) (t := 9) (d := y0.1) rfl rfl
  have v1 := sized_at hw (i := 1) (t := 22) (d := y1.1) rfl rfl
  have v2 := sized_at hw (i := 2) (t := 23) (d := y2.1) rfl rfl
  rw [x0] at v0
  have q0 := str_size v0
  obtain ⟨q1, q2⟩ := s1 v1
  obtain ⟨q3, q4⟩ := s2 v2
  exact ⟨by simp only; omega, by simp only; omega, by simp only; omega, q2, q4⟩
end Go.Proofs.YtlmdoiagjepmbaaGreatDoor.m11

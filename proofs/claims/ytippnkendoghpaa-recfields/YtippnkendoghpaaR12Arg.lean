/-
  What an argument that is a record gives to a walk.
-/
import Derived.Test.YtippnkendoghpaaR12Tkn
import Derived.Test.YtippnkendoghpaaRows
import Derived.ProofKit
import Derived.LaidMore
import Derived.OpenShut
import Derived.ShutString
import Derived.SizedLaws
import Derived.Deep.Slices
import Derived.Deep.Strs
import Derived.Lib.SmallJoins
namespace Go.Proofs.Ytippnkendoghpaa.r12
open Go.ChangeShapes Go.WideShapes Go.ChangeAt Go.WideMaps Go.WideElems Go.RowKit

theorem own12 : ownKnob Try.prog.godebug = none := by kernel_rfl
theorem laidOut12 : laidOutB Try.prog = true := by kernel_rfl
/-- the weights of one argument -/
theorem sized_at {H : Type} {P : Program} {ts : List TypeId} {ds : List (DataW H)} (h : (DataW.weightsEach P ts ds).all (· ≤ reachBytes) = true) {i : Nat} {t : TypeId} {d : DataW H} (ht : ts[i]? = some t) (hd : ds[i]? = some d) : (d.weights P t).all (· ≤ reachBytes) = true := by
  rw [List.all_eq_true] at h ⊢
  exact fun n hn => h n (DataW.weights_mem_each ht hd n hn)
theorem sized_part {H : Type} {P : Program} {ts : List TypeId} {ds : List (DataW H)} (h : (DataW.weightsEach P ts ds).all (· ≤ reachBytes) = true) {i : Nat} {t : TypeId} {fs : Array Field} {parts : List (DataW H)} (ht : ts[i]? = some t) (hd : ds[i]? = some (.agg parts)) (hu : P.underlying t = some (.struct fs))
    {j : Nat} {u : TypeId} {d : DataW H} (hj : (fs.toList.map (·.type))[j]? = some u) (hp : parts[j]? = some d) : (d.weights P u).all (· ≤ reachBytes) = true := by
  have h1 := sized_at h ht hd
  simp only [DataW.weights, hu] at h1
  exact sized_at h1 hj hp
theorem str_size {H : Type} {l : List UInt8} (h : (((.lit (.string l)) : DataW H).weights Try.prog 9).all (· ≤ reachBytes) = true) : l.length ≤ 140737488351232 := of_decide_eq_true (List.all_eq_true.1 h l.length (by simp [DataW.weights]))

set_option maxRecDepth 100000 in
theorem openValF {H : Type} {enc : TypeId × Value → H} {W : World} {fuel : Nat} {cs : List Value} {y : DataW H × List MemPlace} (hl : cs.length = 3)
    (h : DataW.trod enc Try.prog W 0 (fun _ => true) true fuel 52 cs = some y) : ∃ x : V9, cs = [.int .i64 x.1, .int .i64 x.2.1, .string (S x.2.2)] ∧ y.1 = .agg [.lit (.int .i64 x.1), .lit (.int .i64 x.2.1), .lit (.string x.2.2)] ∧ ((-9223372036854775808 ≤ x.1 ∧ x.1 ≤ 9223372036854775807) ∧ (-9223372036854775808 ≤ x.2.1 ∧ x.2.1 ≤ 9223372036854775807)) ∧ x.2.2.length ∈ y.1.weights Try.prog 52 := by
  have hc1 : Try.prog.cellsOf 3 = 1 := by kernel_rfl
  have hc2 : Try.prog.cellsOf 9 = 1 := by kernel_rfl
  have hc3 : Try.prog.cellsOf 2 = 1 := by kernel_rfl
  match cs, hl with
  | [z0, z1, z2], _ =>
    obtain ⟨y0, y1, y2, k, hD, _, t0, t1, t2⟩ := Deep.trod_struct3 Try.underlying52 h
    simp only [hc1, hc2, hc3, List.drop_zero, List.drop_succ_cons, List.take_succ_cons, List.take_zero] at t0 t1 t2
    obtain ⟨b0, e0, x0, w0⟩ := DataW.trod_int Try.underlying3 t0
    obtain ⟨b1, e1, x1, w1⟩ := DataW.trod_int Try.underlying2 t1
    obtain ⟨b2, e2, x2, w2⟩ := DataW.trod_string Try.underlying9 t2
    simp at e0 e1 e2
    subst e0 e1 e2
    have hy : y.1 = .agg [.lit (.int .i64 b0), .lit (.int .i64 b1), .lit (.string b2.data.toList)] := by
      rw [hD]; simp only; rw [x0, x1, x2]
    refine ⟨(b0, b1, b2.data.toList), by simp [S_of], hy, ⟨bounds_i64 w0, bounds_i64 w1⟩, ?_⟩
    rw [hy]
    simp [DataW.weights, Try.underlying52, DataW.weightsEach]

theorem mem_weightsAll9 {H : Type} {e : TypeId} {n : Nat} {x : DataW H} (hx : n ∈ x.weights Try.prog e) : ∀ {l : List (DataW H)}, x ∈ l → n ∈ DataW.weightsAll Try.prog e l
  | y :: r, h => by
    rw [DataW.weightsAll, List.mem_append]
    rcases List.mem_cons.1 h with rfl | h
    · exact .inl hx
    · exact .inr (mem_weightsAll9 hx h)

set_option maxRecDepth 100000 in
theorem openVarF {H : Type} {enc : TypeId × Value → H} {W : World} {fuel : Nat} {cs : List Value} {y : DataW H × List MemPlace} (hl : cs.length = 4)
    (h : DataW.trod enc Try.prog W 0 (fun _ => true) true fuel 54 cs = some y) : ∃ x : Vr, cs = [.string x.1, .int .i64 x.2.1, .int .i64 x.2.2.1, .string (S x.2.2.2)] ∧ ((-9223372036854775808 ≤ x.2.1 ∧ x.2.1 ≤ 9223372036854775807) ∧ (-9223372036854775808 ≤ x.2.2.1 ∧ x.2.2.1 ≤ 9223372036854775807)) ∧ x.1.size ∈ y.1.weights Try.prog 54 ∧ x.2.2.2.length ∈ y.1.weights Try.prog 54 := by
  have hc2 : Try.prog.cellsOf 9 = 1 := by kernel_rfl
  have hc3 : Try.prog.cellsOf 52 = 3 := by kernel_rfl
  match cs, hl with
  | [z0, z1, z2, z3], _ =>
    obtain ⟨y0, y1, k, hD, _, t0, t1⟩ := trod_struct2 Try.underlying54 h
    simp only [hc2, hc3, List.drop_zero, List.drop_succ_cons, List.take_succ_cons, List.take_zero] at t0 t1
    obtain ⟨b0, e0, x0, w0⟩ := DataW.trod_string Try.underlying9 t0
    obtain ⟨v, ev, hy, hb, hw⟩ := openValF (by rfl) t1
    simp at e0
    subst e0
    simp only [List.cons.injEq, and_true] at ev
    obtain ⟨rfl, rfl, rfl⟩ := ev
    have hyy : y.1 = .agg [.lit (.string b0.data.toList), y1.1] := by
      rw [hD]; simp only; rw [x0]
    refine ⟨(b0, v), rfl, hb, ?_, ?_⟩
    · rw [hyy]
      simp [DataW.weights, Try.underlying54, DataW.weightsEach]
    · rw [hyy]
      simp only [DataW.weights, Try.underlying54]
      exact DataW.weights_mem_each (j := 1) (t := 52) (d := y1.1) rfl rfl _ hw

set_option maxRecDepth 100000 in
theorem openVarsF {H : Type} {enc : TypeId × Value → H} {W : World} {a0 : Option Addr} {len0 cap0 fuel : Nat} {x : DataW H × List MemPlace}
    (hf : DataW.trod enc Try.prog W 0 (fun _ => true) true fuel 23 (Value.slice a0 len0 cap0).cells.toList = some x) : ∃ l : List Vr, Vs W (.slice a0 len0 cap0) l ∧ ((x.1.weights Try.prog 23).all (· ≤ reachBytes) = true → l.length * 48 ≤ 140737488355328 ∧ Sm9 l) := by
  have hc4 : Try.prog.cellsOf 54 = 4 := by kernel_rfl
  rcases Deep.open_slice Try.underlying23 hf with ⟨hcs, hx⟩ | ⟨x', l', c', m, n, D, Pl, hcs, _, hl, hm, hmm, hx, hall⟩
  · simp [Value.cells] at hcs
    obtain ⟨rfl, rfl, rfl⟩ := hcs
    exact ⟨[], Vs.nil W, fun _ => ⟨by simp, fun x hx => by cases hx⟩⟩
  · simp [Value.cells] at hcs
    obtain ⟨rfl, rfl, rfl⟩ := hcs
    subst hx
    have hmc : m = cap0 := by simpa using hmm
    have each : ∀ i, i < len0 → ∃ r : Vr, (W.cell? (x'.add (i * 4 + 0)) = some (.string r.1) ∧ W.cell? (x'.add (i * 4 + 1)) = some (.int .i64 r.2.1) ∧ W.cell? (x'.add (i * 4 + 2)) = some (.int .i64 r.2.2.1) ∧ W.cell? (x'.add (i * 4 + 3)) = some (.string (S r.2.2.2))) ∧ ((-9223372036854775808 ≤ r.2.1 ∧ r.2.1 ≤ 9223372036854775807) ∧ (-9223372036854775808 ≤ r.2.2.1 ∧ r.2.2.1 ≤ 9223372036854775807)) ∧ r.1.size ∈ (D i).weights Try.prog 54 ∧ r.2.2.2.length ∈ (D i).weights Try.prog 54 := by
      intro i hi
      obtain ⟨cs, h1, h2⟩ := hall i (by omega)
      rw [hc4] at h1
      obtain ⟨_, hlen, hcell⟩ := World.cells?_some h1
      obtain ⟨r, hr, hb, w1, w2⟩ := openVarF hlen h2
      subst hr
      have c0 := hcell 0 (by omega)
      have c1 := hcell 1 (by omega)
      have c2 := hcell 2 (by omega)
      have c3 := hcell 3 (by omega)
      rw [Addr.add_add] at c0 c1 c2 c3
      exact ⟨r, ⟨c0, c1, c2, c3⟩, hb, w1, w2⟩
    obtain ⟨X, hX⟩ := Deep.choose_lt each
    have hlen : ((List.range len0).map X).length = len0 := by simp
    refine ⟨(List.range len0).map X, ⟨some x', cap0, by rw [hlen], ⟨by rw [hlen]; omega, fun e => by cases e⟩, ?_⟩, fun hw => ?_⟩
    · by_cases h0 : len0 = 0
      · left; subst h0; simp
      · right
        have hc := (hX 0 (by omega)).1.1
        obtain ⟨b, off, spot⟩ := x'
        have hspot : spot = none := by simpa [Addr.add] using World.cell?_spot hc
        subst hspot
        refine ⟨b, off, rfl, ?_, fun j hj => ?_⟩
        · rw [Addr.add_lit] at hc
          exact World.block_lt_of_cell? _ _ hc
        · rw [hlen] at hj
          have hj3 := (hX j hj).1
          simp only [Addr.add_lit] at hj3
          simpa [Nat.add_assoc] using hj3
    · simp only [DataW.weights, Try.underlying23, List.all_cons, Bool.and_eq_true, decide_eq_true_eq, List.all_append, List.length_map, List.length_range] at hw
      have hb : Try.prog.bytesOf 54 = 48 := by kernel_rfl
      rw [hb] at hw
      have hr : reachBytes = 140737488351232 := rfl
      refine ⟨by rw [hlen]; omega, fun r hr' => ?_⟩
      obtain ⟨j, hj, rfl⟩ := List.mem_map.1 hr'
      have hj' := List.mem_range.1 hj
      obtain ⟨_, hbd, w1, w2⟩ := hX j hj'
      have hmem : D j ∈ (List.range len0).map D := List.mem_map.2 ⟨j, hj, rfl⟩
      have q1 := of_decide_eq_true (List.all_eq_true.1 hw.2.1 _ (mem_weightsAll9 w1 hmem))
      have q2 := of_decide_eq_true (List.all_eq_true.1 hw.2.1 _ (mem_weightsAll9 w2 hmem))
      exact ⟨by omega, hbd.1, hbd.2, by omega⟩


theorem bounds_u64 {n : Int} (h : (Lit.int .u64 n).wf = true) : 0 ≤ n ∧ n < 18446744073709551616 := by
  simp [Lit.wf, IntKind.min, IntKind.max, IntKind.signed, IntKind.bits] at h
  omega

set_option maxRecDepth 100000 in
set_option maxHeartbeats 1000000 in
theorem openRec {H : Type} {enc : TypeId × Value → H} {W : World} {v : Value} {d : DataW H} {p : List MemPlace} {base : Nat} (hok : Value.okWide Try.prog W .any base 25 v)
    (h : DataW.Trod enc Try.prog W 0 (fun _ => true) true 25 v d p) : ∃ (r : R12) (vv : Value), v = rV r vv ∧ Vs W vv r.v ∧ ((d.weights Try.prog 25).all (· ≤ reachBytes) = true → Rk r) := by
  have hc1 : Try.prog.cellsOf 3 = 1 := by kernel_rfl
  have hc2 : Try.prog.cellsOf 9 = 1 := by kernel_rfl
  have hc3 : Try.prog.cellsOf 2 = 1 := by kernel_rfl
  have hc4 : Try.prog.cellsOf 22 = 1 := by kernel_rfl
  have hc5 : Try.prog.cellsOf 23 = 1 := by kernel_rfl
  obtain ⟨cs, rfl, hsz⟩ := okWide_struct Try.underlying25 hok
  have hC : Try.prog.cellsOf 25 = 13 := by kernel_rfl
  obtain ⟨fuel, hf⟩ := h
  have hl : cs.toList.length = 13 := by rw [Array.length_toList, hsz, hC]
  have hcs : cs = cs.toList.toArray := by simp
  obtain ⟨z0, z1, z2, z3, z4, z5, z6, z7, z8, z9, z10, z11, z12, hz⟩ : ∃ z0 z1 z2 z3 z4 z5 z6 z7 z8 z9 z10 z11 z12, cs.toList = [z0, z1, z2, z3, z4, z5, z6, z7, z8, z9, z10, z11, z12] := by
    match hq : cs.toList, hl with
    | [a0, a1, a2, a3, a4, a5, a6, a7, a8, a9, a10, a11, a12], _ => exact ⟨a0, a1, a2, a3, a4, a5, a6, a7, a8, a9, a10, a11, a12, rfl⟩
  change DataW.trod enc Try.prog W 0 (fun _ => true) true fuel 25 cs.toList = some (d, p) at hf
  rw [hz] at hf hcs
  subst hcs
  obtain ⟨xs, k, _, hD, _, hlen, hfs⟩ := DataW.trod_struct Try.underlying25 hf
  match xs, hlen with
  | [y0, y1, y2, y3, y4, y5, y6, y7, y8, y9, y10, y11, y12], _ =>
    have t0 := hfs 0 _ rfl
    have t1 := hfs 1 _ rfl
    have t2 := hfs 2 _ rfl
    have t3 := hfs 3 _ rfl
    have t4 := hfs 4 _ rfl
    have t5 := hfs 5 _ rfl
    have t6 := hfs 6 _ rfl
    have t7 := hfs 7 _ rfl
    have t8 := hfs 8 _ rfl
    have t9 := hfs 9 _ rfl
    have t10 := hfs 10 _ rfl
    have t11 := hfs 11 _ rfl
    have t12 := hfs 12 _ rfl
    simp only [List.getElem_toArray, List.getElem_cons_zero, List.getElem_cons_succ, hc1, hc2, hc3, hc4, hc5, List.drop_zero, List.drop_succ_cons, List.take_succ_cons, List.take_zero, List.getElem?_cons_zero, List.getElem?_cons_succ] at t0 t1 t2 t3 t4 t5 t6 t7 t8 t9 t10 t11 t12
    obtain ⟨b0, e0, x0, w0⟩ := DataW.trod_int Try.underlying3 t0
    obtain ⟨b1, e1, x1, w1⟩ := DataW.trod_int Try.underlying3 t1
    obtain ⟨b2, e2, x2, w2⟩ := DataW.trod_int Try.underlying22 t2
    obtain ⟨b3, e3, x3, w3⟩ := DataW.trod_int Try.underlying2 t3
    obtain ⟨b4, e4, x4, w4⟩ := DataW.trod_int Try.underlying22 t4
    obtain ⟨b5, e5, x5, w5⟩ := DataW.trod_int Try.underlying22 t5
    obtain ⟨b6, e6, x6, w6⟩ := DataW.trod_int Try.underlying22 t6
    obtain ⟨b7, e7, x7, w7⟩ := DataW.trod_int Try.underlying2 t7
    obtain ⟨b8, e8, x8, w8⟩ := DataW.trod_int Try.underlying2 t8
    obtain ⟨b9, e9, x9, w9⟩ := DataW.trod_string Try.underlying9 t9
    obtain ⟨b10, e10, x10, w10⟩ := DataW.trod_string Try.underlying9 t10
    obtain ⟨b11, e11, x11, w11⟩ := DataW.trod_string Try.underlying9 t11
    obtain ⟨a, len, cap, rfl⟩ : ∃ a len cap, z12 = .slice a len cap := by
      rcases Deep.open_slice Try.underlying23 t12 with ⟨hcs, _⟩ | ⟨x', l', c', _, _, _, _, hcs, _⟩
      · simp at hcs; exact ⟨_, _, _, hcs⟩
      · simp at hcs; exact ⟨_, _, _, hcs⟩
    obtain ⟨l, hl1, hl2⟩ := openVarsF (x := y12) t12
    simp at e0 e1 e2 e3 e4 e5 e6 e7 e8 e9 e10 e11
    subst e0 e1 e2 e3 e4 e5 e6 e7 e8 e9 e10 e11
    have u2 := bounds_u64 w2
    obtain ⟨n2, rfl⟩ : ∃ n2 : Nat, b2 = (n2 : Int) := ⟨b2.toNat, by omega⟩
    have u4 := bounds_u64 w4
    obtain ⟨n4, rfl⟩ : ∃ n4 : Nat, b4 = (n4 : Int) := ⟨b4.toNat, by omega⟩
    have u5 := bounds_u64 w5
    obtain ⟨n5, rfl⟩ : ∃ n5 : Nat, b5 = (n5 : Int) := ⟨b5.toNat, by omega⟩
    have u6 := bounds_u64 w6
    obtain ⟨n6, rfl⟩ : ∃ n6 : Nat, b6 = (n6 : Int) := ⟨b6.toNat, by omega⟩
    refine ⟨⟨b0, b1, n2, b3, n4, n5, n6, b7, b8, b9.data.toList, b10.data.toList, b11.data.toList, l⟩, .slice a len cap, by simp [rV, rC, S_of], hl1, fun hw => ?_⟩
    have hd : d = .agg [y0.1, y1.1, y2.1, y3.1, y4.1, y5.1, y6.1, y7.1, y8.1, y9.1, y10.1, y11.1, y12.1] := congrArg Prod.fst hD
    rw [hd] at hw
    simp only [DataW.weights, Try.underlying25] at hw
    have v9 := sized_at hw (i := 9) (t := 9) (d := y9.1) rfl rfl
    have v10 := sized_at hw (i := 10) (t := 9) (d := y10.1) rfl rfl
    have v11 := sized_at hw (i := 11) (t := 9) (d := y11.1) rfl rfl
    have v12 := sized_at hw (i := 12) (t := 23) (d := y12.1) rfl rfl
    rw [x9] at v9
    rw [x10] at v10
    rw [x11] at v11
    have q9 := str_size v9
    have q10 := str_size v10
    have q11 := str_size v11
    obtain ⟨g1, g2⟩ := hl2 v12
    exact ⟨bounds_i64 w0, bounds_i64 w1, by simp only; omega, bounds_i64 w3, by simp only; omega, by simp only; omega, by simp only; omega, bounds_i64 w7, bounds_i64 w8, by simp only; omega, by simp only; omega, by simp only; omega, by simp only; omega, g2⟩
end Go.Proofs.Ytippnkendoghpaa.r12

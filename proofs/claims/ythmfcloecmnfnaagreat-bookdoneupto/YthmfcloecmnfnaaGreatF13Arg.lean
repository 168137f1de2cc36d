/-
  What arguments that are states, and records, give to a walk.
-/
import Derived.Test.YthmfcloecmnfnaaGreatF13Rng
import Derived.Test.YthmfcloecmnfnaaGreatRows
import Derived.ProofKit
import Derived.LaidMore
import Derived.OpenShut
import Derived.ShutString
import Derived.SizedLaws
import Derived.Deep.Slices
import Derived.Deep.Strs
import Derived.Lib.SmallJoins
namespace Go.Proofs.YthmfcloecmnfnaaGreat.f13
open Go.ChangeShapes Go.WideShapes Go.ChangeAt Go.WideMaps Go.WideElems Go.RowKit

theorem own13 : ownKnob Tryz.prog.godebug = none := by kernel_rfl
theorem laidOut13 : laidOutB Tryz.prog = true := by kernel_rfl
/-- the weights of one argument -/
theorem sized_at {H : Type} {P : Program} {ts : List TypeId} {ds : List (DataW H)} (h : (DataW.weightsEach P ts ds).all (· ≤ reachBytes) = true) {i : Nat} {t : TypeId} {d : DataW H} (ht : ts[i]? = some t) (hd : ds[i]? = some d) : (d.weights P t).all (· ≤ reachBytes) = true := by
  rw [List.all_eq_true] at h ⊢
  exact fun n hn => h n (DataW.weights_mem_each ht hd n hn)
theorem mem_weightsAll13 {H : Type} {e : TypeId} {n : Nat} {x : DataW H} (hx : n ∈ x.weights Tryz.prog e) : ∀ {l : List (DataW H)}, x ∈ l → n ∈ DataW.weightsAll Tryz.prog e l
  | y :: r, h => by
    rw [DataW.weightsAll, List.mem_append]
    rcases List.mem_cons.1 h with rfl | h
    · exact .inl hx
    · exact .inr (mem_weightsAll13 hx h)
theorem bounds_u64 {n : Int} (h : (Lit.int .u64 n).wf = true) : 0 ≤ n ∧ n < 18446744073709551616 := by
  simp [Lit.wf, IntKind.min, IntKind.max, IntKind.signed, IntKind.bits] at h
  omega
theorem nat_u64 {n : Int} (h : (Lit.int .u64 n).wf = true) : ∃ k : Nat, n = (k : Int) := ⟨n.toNat, by have := bounds_u64 h; omega⟩
theorem lt_u64 {k : Nat} (h : (Lit.int .u64 (k : Int)).wf = true) : k < 18446744073709551616 := by have := (bounds_u64 h).2; omega

set_option maxRecDepth 100000 in
/-- a slice of elements, whatever they are -/
theorem openRows {H : Type} {enc : TypeId × Value → H} {W : World} {α : Type} {k : Nat} {c : α → List Value} {Q R : α → Prop} {t et : TypeId} {sz : Nat}
    (hk : ∀ x, (c x).length = k) (hu : Tryz.prog.underlying t = some (.slice et)) (hc : Tryz.prog.cellsOf et = k) (h0 : 0 < k) (hby : Tryz.prog.bytesOf et = sz)
    (elem : ∀ (fuel : Nat) (cs : List Value) (y : DataW H × List MemPlace), cs.length = k → DataW.trod enc Tryz.prog W 0 (fun _ => true) true fuel et cs = some y → ∃ x, cs = c x ∧ Q x ∧ ((y.1.weights Tryz.prog et).all (· ≤ reachBytes) = true → R x))
    {cs0 : List Value} {fuel : Nat} {x : DataW H × List MemPlace}
    (hf : DataW.trod enc Tryz.prog W 0 (fun _ => true) true fuel t cs0 = some x) :
    ∃ (v : Value) (l : List α), cs0 = [v] ∧ Rr k c W v l ∧ (∀ x ∈ l, Q x) ∧ ((x.1.weights Tryz.prog t).all (· ≤ reachBytes) = true → l.length * sz ≤ 140737488351232 ∧ ∀ x ∈ l, R x) := by
  rcases Deep.open_slice hu hf with ⟨hcs, hx⟩ | ⟨x', len0, cap0, m, n, D, Pl, hcs, _, hl, hm, hmm, hx, hall⟩
  · exact ⟨_, [], hcs, Rr.nil W, fun _ h => absurd h List.not_mem_nil, fun _ => ⟨by simp, fun _ h => absurd h List.not_mem_nil⟩⟩
  · subst hx
    have hmc : m = cap0 := by simpa using hmm
    have each : ∀ i, i < len0 → ∃ r : α, (∀ (j : Nat) (u : Value), (c r)[j]? = some u → W.cell? (x'.add (i * k + j)) = some u) ∧ Q r ∧ (((D i).weights Tryz.prog et).all (· ≤ reachBytes) = true → R r) := by
      intro i hi
      obtain ⟨cs, h1, h2⟩ := hall i (by omega)
      rw [hc] at h1
      obtain ⟨_, hlen, hcell⟩ := World.cells?_some h1
      obtain ⟨r, hr, hq, hw⟩ := elem _ cs _ hlen h2
      subst hr
      refine ⟨r, fun j u hj => ?_, hq, hw⟩
      have hjl : j < k := by rw [← hk r]; exact (List.getElem?_eq_some_iff.1 hj).1
      have := hcell j hjl
      rw [Addr.add_add] at this
      rw [this]
      first | exact hj | simpa using (List.getElem?_eq_some_iff.1 hj).2
    by_cases hz : len0 = 0
    · subst hz
      exact ⟨_, [], hcs, ⟨some x', cap0, rfl, ⟨Nat.zero_le _, fun e => by cases e⟩, .inl rfl⟩, fun _ h => absurd h List.not_mem_nil, fun _ => ⟨by simp, fun _ h => absurd h List.not_mem_nil⟩⟩
    haveI : Inhabited α := ⟨(each 0 (by omega)).choose⟩
    obtain ⟨X, hX⟩ := Deep.choose_lt each
    have hlen : ((List.range len0).map X).length = len0 := by simp
    refine ⟨_, (List.range len0).map X, hcs, ⟨some x', cap0, by rw [hlen], ⟨by rw [hlen]; omega, fun e => by cases e⟩, ?_⟩, fun r hr => ?_, fun hw => ?_⟩
    · · right
        obtain ⟨u0, hu0⟩ : ∃ u, (c (X 0))[0]? = some u := ⟨(c (X 0))[0]'(by rw [hk]; exact h0), List.getElem?_eq_getElem _⟩
        have hcc := (hX 0 (by omega)).1 0 _ hu0
        obtain ⟨b, off, spot⟩ := x'
        have hspot : spot = none := by simpa [Addr.add] using World.cell?_spot hcc
        subst hspot
        refine ⟨b, off, rfl, ?_, fun j hj i u hi => ?_⟩
        · rw [Addr.add_lit] at hcc
          exact World.block_lt_of_cell? _ _ hcc
        · rw [hlen] at hj
          have hj3 := (hX j hj).1 i u (by simpa using hi)
          rw [Addr.add_lit] at hj3
          simpa [Nat.add_assoc] using hj3
    · obtain ⟨j, hj, rfl⟩ := List.mem_map.1 hr
      exact (hX j (List.mem_range.1 hj)).2.1
    · simp only [DataW.weights, hu, List.all_cons, Bool.and_eq_true, decide_eq_true_eq, List.all_append, List.length_map, List.length_range] at hw
      rw [hby] at hw
      have hr : reachBytes = 140737488351232 := rfl
      refine ⟨by rw [hlen]; exact Nat.le_trans (Nat.mul_le_mul_right sz (by omega)) hw.1, fun r hr' => ?_⟩
      obtain ⟨j, hj, rfl⟩ := List.mem_map.1 hr'
      have hj' := List.mem_range.1 hj
      refine (hX j hj').2.2 (List.all_eq_true.2 fun n hn => List.all_eq_true.1 hw.2.1 n (mem_weightsAll13 hn (List.mem_map.2 ⟨j, hj, rfl⟩)))

set_option maxRecDepth 100000 in
theorem openUn {H : Type} {enc : TypeId × Value → H} {W : World} {fuel : Nat} {cs0 : List Value} {x : DataW H × List MemPlace}
    (hf : DataW.trod enc Tryz.prog W 0 (fun _ => true) true fuel 72 cs0 = some x) : ∃ (v : Value) (l : List Un), cs0 = [v] ∧ Rr 1 Un.c W v l ∧ ((x.1.weights Tryz.prog 72).all (· ≤ reachBytes) = true → l.length * 8 ≤ 140737488351232) := by
  obtain ⟨v, l, h1, h2, -, h4⟩ := openRows (Q := fun _ => True) (R := fun _ => True) Un.k Tryz.underlying72 (by kernel_rfl) (by omega) (sz := 8) (by kernel_rfl) (fun fuel cs y hl h => by
    obtain ⟨b, e, -, w0⟩ := DataW.trod_int Tryz.underlying22 h
    obtain ⟨k, rfl⟩ := nat_u64 w0
    exact ⟨k, e, trivial, fun _ => trivial⟩) hf
  exact ⟨v, l, h1, h2, fun hw => (h4 hw).1⟩
set_option maxRecDepth 100000 in
theorem openVl {H : Type} {enc : TypeId × Value → H} {W : World} {fuel : Nat} {cs : List Value} {y : DataW H × List MemPlace} (hl : cs.length = 3)
    (h : DataW.trod enc Tryz.prog W 0 (fun _ => true) true fuel 99 cs = some y) : ∃ (a b : Int) (c : List UInt8), cs = [.int .i64 a, .int .i64 b, .string (S c)] := by
  have hc1 : Tryz.prog.cellsOf 3 = 1 := by kernel_rfl
  have hc2 : Tryz.prog.cellsOf 9 = 1 := by kernel_rfl
  have hc3 : Tryz.prog.cellsOf 2 = 1 := by kernel_rfl
  match cs, hl with
  | [z0, z1, z2], _ =>
    obtain ⟨y0, y1, y2, k, hD, _, t0, t1, t2⟩ := Deep.trod_struct3 Tryz.underlying99 h
    simp only [hc1, hc2, hc3, List.drop_zero, List.drop_succ_cons, List.take_succ_cons, List.take_zero] at t0 t1 t2
    obtain ⟨b0, e0, x0, w0⟩ := DataW.trod_int Tryz.underlying3 t0
    obtain ⟨b1, e1, x1, w1⟩ := DataW.trod_int Tryz.underlying2 t1
    obtain ⟨b2, e2, x2, w2⟩ := DataW.trod_string Tryz.underlying9 t2
    simp at e0 e1 e2
    subst e0 e1 e2
    exact ⟨b0, b1, b2.data.toList, by simp [S_of]⟩
set_option maxRecDepth 100000 in
theorem openVr {H : Type} {enc : TypeId × Value → H} {W : World} {fuel : Nat} {cs0 : List Value} {x : DataW H × List MemPlace}
    (hf : DataW.trod enc Tryz.prog W 0 (fun _ => true) true fuel 61 cs0 = some x) : ∃ (v : Value) (l : List Vr), cs0 = [v] ∧ Rr 4 Vr.c W v l ∧ ((x.1.weights Tryz.prog 61).all (· ≤ reachBytes) = true → l.length * 48 ≤ 140737488351232) := by
  have hc2 : Tryz.prog.cellsOf 9 = 1 := by kernel_rfl
  have hc3 : Tryz.prog.cellsOf 99 = 3 := by kernel_rfl
  obtain ⟨v, l, h1, h2, -, h4⟩ := openRows (Q := fun _ => True) (R := fun _ => True) Vr.k Tryz.underlying61 (by kernel_rfl) (by omega) (sz := 48) (by kernel_rfl) (fun fuel cs y hl h => by
    match cs, hl with
    | [z0, z1, z2, z3], _ =>
      obtain ⟨y0, y1, k, hD, _, t0, t1⟩ := trod_struct2 Tryz.underlying101 h
      simp only [hc2, hc3, List.drop_zero, List.drop_succ_cons, List.take_succ_cons, List.take_zero] at t0 t1
      obtain ⟨b0, e0, x0, w0⟩ := DataW.trod_string Tryz.underlying9 t0
      obtain ⟨p, q, r, ev⟩ := openVl (by rfl) t1
      simp at e0
      subst e0
      simp only [List.cons.injEq, and_true] at ev
      obtain ⟨rfl, rfl, rfl⟩ := ev
      exact ⟨(b0, p, q, r), rfl, trivial, fun _ => trivial⟩) hf
  exact ⟨v, l, h1, h2, fun hw => (h4 hw).1⟩

set_option maxRecDepth 100000 in
set_option maxHeartbeats 1000000 in
theorem elemDe {H : Type} {enc : TypeId × Value → H} {W : World} (fuel : Nat) (cs : List Value) (y : DataW H × List MemPlace) (hl : cs.length = 2) (h : DataW.trod enc Tryz.prog W 0 (fun _ => true) true fuel 92 cs = some y) : ∃ x : De, cs = De.c x ∧ (True) ∧ ((y.1.weights Tryz.prog 92).all (· ≤ reachBytes) = true → (True)) := by
  have hc_0 : Tryz.prog.cellsOf 9 = 1 := by kernel_rfl
  match cs, hl with
  | [z0, z1], _ =>
    obtain ⟨xs, k, _, hD, _, hlen, hfs⟩ := DataW.trod_struct Tryz.underlying92 h
    match xs, hlen with
    | [y0, y1], _ =>
      have t0 := hfs 0 _ rfl
      have t1 := hfs 1 _ rfl
      simp only [List.getElem_toArray, List.getElem_cons_zero, List.getElem_cons_succ, hc_0, List.drop_zero, List.drop_succ_cons, List.take_succ_cons, List.take_zero, List.getElem?_cons_zero, List.getElem?_cons_succ] at t0 t1
      obtain ⟨b0, e0, -, -⟩ := DataW.trod_string Tryz.underlying9 t0
      obtain ⟨b1, e1, -, -⟩ := DataW.trod_string Tryz.underlying9 t1
      simp only [List.cons.injEq, and_true] at e0 e1
      subst e0 e1
      exact ⟨⟨b0.data.toList, b1.data.toList⟩, by simp [De.c, S_of], trivial, fun _ => trivial⟩

set_option maxRecDepth 100000 in
set_option maxHeartbeats 1000000 in
theorem elemIn {H : Type} {enc : TypeId × Value → H} {W : World} (fuel : Nat) (cs : List Value) (y : DataW H × List MemPlace) (hl : cs.length = 3) (h : DataW.trod enc Tryz.prog W 0 (fun _ => true) true fuel 95 cs = some y) : ∃ x : In, cs = In.c x ∧ (Rr 4 Vr.c W x.vv x.vars) ∧ ((y.1.weights Tryz.prog 95).all (· ≤ reachBytes) = true → (x.vars.length * 48 ≤ 140737488351232)) := by
  have hc_0 : Tryz.prog.cellsOf 61 = 1 := by kernel_rfl
  have hc_1 : Tryz.prog.cellsOf 9 = 1 := by kernel_rfl
  have hc_2 : Tryz.prog.cellsOf 22 = 1 := by kernel_rfl
  match cs, hl with
  | [z0, z1, z2], _ =>
    obtain ⟨xs, k, _, hD, _, hlen, hfs⟩ := DataW.trod_struct Tryz.underlying95 h
    match xs, hlen with
    | [y0, y1, y2], _ =>
      have t0 := hfs 0 _ rfl
      have t1 := hfs 1 _ rfl
      have t2 := hfs 2 _ rfl
      simp only [List.getElem_toArray, List.getElem_cons_zero, List.getElem_cons_succ, hc_0, hc_1, hc_2, List.drop_zero, List.drop_succ_cons, List.take_succ_cons, List.take_zero, List.getElem?_cons_zero, List.getElem?_cons_succ] at t0 t1 t2
      obtain ⟨d0, e0, -, w0⟩ := DataW.trod_int Tryz.underlying22 t0
      obtain ⟨b0, rfl⟩ := nat_u64 w0
      obtain ⟨b1, e1, -, -⟩ := DataW.trod_string Tryz.underlying9 t1
      obtain ⟨v2, l2, e2, r2, s2⟩ := openVr t2
      simp only [List.cons.injEq, and_true] at e0 e1 e2
      subst e0 e1 e2
      refine ⟨⟨b0, b1.data.toList, z2, l2⟩, by simp [In.c, S_of], r2, fun hw => ?_⟩
      have hd : y.1 = .agg [y0.1, y1.1, y2.1] := congrArg Prod.fst hD
      rw [hd] at hw
      simp only [DataW.weights, Tryz.underlying95] at hw
      exact s2 (sized_at hw (i := 2) (t := 61) (d := y2.1) rfl rfl)

set_option maxRecDepth 100000 in
set_option maxHeartbeats 1000000 in
theorem elemTk {H : Type} {enc : TypeId × Value → H} {W : World} (fuel : Nat) (cs : List Value) (y : DataW H × List MemPlace) (hl : cs.length = 6) (h : DataW.trod enc Tryz.prog W 0 (fun _ => true) true fuel 66 cs = some y) : ∃ x : Tk, cs = Tk.c x ∧ (x.key < 18446744073709551616) ∧ ((y.1.weights Tryz.prog 66).all (· ≤ reachBytes) = true → (True)) := by
  have hc_0 : Tryz.prog.cellsOf 3 = 1 := by kernel_rfl
  have hc_1 : Tryz.prog.cellsOf 9 = 1 := by kernel_rfl
  have hc_2 : Tryz.prog.cellsOf 22 = 1 := by kernel_rfl
  match cs, hl with
  | [z0, z1, z2, z3, z4, z5], _ =>
    obtain ⟨xs, k, _, hD, _, hlen, hfs⟩ := DataW.trod_struct Tryz.underlying66 h
    match xs, hlen with
    | [y0, y1, y2, y3, y4, y5], _ =>
      have t0 := hfs 0 _ rfl
      have t1 := hfs 1 _ rfl
      have t2 := hfs 2 _ rfl
      have t3 := hfs 3 _ rfl
      have t4 := hfs 4 _ rfl
      have t5 := hfs 5 _ rfl
      simp only [List.getElem_toArray, List.getElem_cons_zero, List.getElem_cons_succ, hc_0, hc_1, hc_2, List.drop_zero, List.drop_succ_cons, List.take_succ_cons, List.take_zero, List.getElem?_cons_zero, List.getElem?_cons_succ] at t0 t1 t2 t3 t4 t5
      obtain ⟨d0, e0, -, w0⟩ := DataW.trod_int Tryz.underlying22 t0
      obtain ⟨b0, rfl⟩ := nat_u64 w0
      obtain ⟨d1, e1, -, w1⟩ := DataW.trod_int Tryz.underlying22 t1
      obtain ⟨b1, rfl⟩ := nat_u64 w1
      obtain ⟨d2, e2, -, w2⟩ := DataW.trod_int Tryz.underlying22 t2
      obtain ⟨b2, rfl⟩ := nat_u64 w2
      obtain ⟨b3, e3, -, w3⟩ := DataW.trod_int Tryz.underlying3 t3
      obtain ⟨b4, e4, -, w4⟩ := DataW.trod_int Tryz.underlying3 t4
      obtain ⟨b5, e5, -, -⟩ := DataW.trod_string Tryz.underlying9 t5
      simp only [List.cons.injEq, and_true] at e0 e1 e2 e3 e4 e5
      subst e0 e1 e2 e3 e4 e5
      exact ⟨⟨b0, b1, b2, b3, b4, b5.data.toList⟩, by simp [Tk.c, S_of], lt_u64 w0, fun _ => trivial⟩

set_option maxRecDepth 100000 in
set_option maxHeartbeats 1000000 in
theorem elemJb {H : Type} {enc : TypeId × Value → H} {W : World} (fuel : Nat) (cs : List Value) (y : DataW H × List MemPlace) (hl : cs.length = 6) (h : DataW.trod enc Tryz.prog W 0 (fun _ => true) true fuel 46 cs = some y) : ∃ x : Jb, cs = Jb.c x ∧ (x.token < 18446744073709551616) ∧ ((y.1.weights Tryz.prog 46).all (· ≤ reachBytes) = true → (True)) := by
  have hc_0 : Tryz.prog.cellsOf 3 = 1 := by kernel_rfl
  have hc_1 : Tryz.prog.cellsOf 2 = 1 := by kernel_rfl
  have hc_2 : Tryz.prog.cellsOf 9 = 1 := by kernel_rfl
  have hc_3 : Tryz.prog.cellsOf 22 = 1 := by kernel_rfl
  match cs, hl with
  | [z0, z1, z2, z3, z4, z5], _ =>
    obtain ⟨xs, k, _, hD, _, hlen, hfs⟩ := DataW.trod_struct Tryz.underlying46 h
    match xs, hlen with
    | [y0, y1, y2, y3, y4, y5], _ =>
      have t0 := hfs 0 _ rfl
      have t1 := hfs 1 _ rfl
      have t2 := hfs 2 _ rfl
      have t3 := hfs 3 _ rfl
      have t4 := hfs 4 _ rfl
      have t5 := hfs 5 _ rfl
      simp only [List.getElem_toArray, List.getElem_cons_zero, List.getElem_cons_succ, hc_0, hc_1, hc_2, hc_3, List.drop_zero, List.drop_succ_cons, List.take_succ_cons, List.take_zero, List.getElem?_cons_zero, List.getElem?_cons_succ] at t0 t1 t2 t3 t4 t5
      obtain ⟨d0, e0, -, w0⟩ := DataW.trod_int Tryz.underlying22 t0
      obtain ⟨b0, rfl⟩ := nat_u64 w0
      obtain ⟨d1, e1, -, w1⟩ := DataW.trod_int Tryz.underlying22 t1
      obtain ⟨b1, rfl⟩ := nat_u64 w1
      obtain ⟨b2, e2, -, -⟩ := DataW.trod_string Tryz.underlying9 t2
      obtain ⟨b3, e3, -, w3⟩ := DataW.trod_int Tryz.underlying3 t3
      obtain ⟨b4, e4, -, -⟩ := DataW.trod_string Tryz.underlying9 t4
      obtain ⟨b5, e5, -, w5⟩ := DataW.trod_int Tryz.underlying2 t5
      simp only [List.cons.injEq, and_true] at e0 e1 e2 e3 e4 e5
      subst e0 e1 e2 e3 e4 e5
      exact ⟨⟨b0, b1, b2.data.toList, b3, b4.data.toList, b5⟩, by simp [Jb.c, S_of], lt_u64 w1, fun _ => trivial⟩

set_option maxRecDepth 100000 in
set_option maxHeartbeats 1000000 in
theorem elemTm {H : Type} {enc : TypeId × Value → H} {W : World} (fuel : Nat) (cs : List Value) (y : DataW H × List MemPlace) (hl : cs.length = 3) (h : DataW.trod enc Tryz.prog W 0 (fun _ => true) true fuel 70 cs = some y) : ∃ x : Tm, cs = Tm.c x ∧ (x.token < 18446744073709551616) ∧ ((y.1.weights Tryz.prog 70).all (· ≤ reachBytes) = true → (True)) := by
  have hc_0 : Tryz.prog.cellsOf 3 = 1 := by kernel_rfl
  have hc_1 : Tryz.prog.cellsOf 2 = 1 := by kernel_rfl
  have hc_2 : Tryz.prog.cellsOf 22 = 1 := by kernel_rfl
  match cs, hl with
  | [z0, z1, z2], _ =>
    obtain ⟨xs, k, _, hD, _, hlen, hfs⟩ := DataW.trod_struct Tryz.underlying70 h
    match xs, hlen with
    | [y0, y1, y2], _ =>
      have t0 := hfs 0 _ rfl
      have t1 := hfs 1 _ rfl
      have t2 := hfs 2 _ rfl
      simp only [List.getElem_toArray, List.getElem_cons_zero, List.getElem_cons_succ, hc_0, hc_1, hc_2, List.drop_zero, List.drop_succ_cons, List.take_succ_cons, List.take_zero, List.getElem?_cons_zero, List.getElem?_cons_succ] at t0 t1 t2
      obtain ⟨d0, e0, -, w0⟩ := DataW.trod_int Tryz.underlying22 t0
      obtain ⟨b0, rfl⟩ := nat_u64 w0
      obtain ⟨b1, e1, -, w1⟩ := DataW.trod_int Tryz.underlying3 t1
      obtain ⟨b2, e2, -, w2⟩ := DataW.trod_int Tryz.underlying2 t2
      simp only [List.cons.injEq, and_true] at e0 e1 e2
      subst e0 e1 e2
      exact ⟨⟨b0, b1, b2⟩, by simp [Tm.c], lt_u64 w0, fun _ => trivial⟩

set_option maxRecDepth 100000 in
set_option maxHeartbeats 1000000 in
theorem elemSb {H : Type} {enc : TypeId × Value → H} {W : World} (fuel : Nat) (cs : List Value) (y : DataW H × List MemPlace) (hl : cs.length = 6) (h : DataW.trod enc Tryz.prog W 0 (fun _ => true) true fuel 107 cs = some y) : ∃ x : Sb, cs = Sb.c x ∧ (x.token < 18446744073709551616) ∧ ((y.1.weights Tryz.prog 107).all (· ≤ reachBytes) = true → (True)) := by
  have hc_0 : Tryz.prog.cellsOf 4 = 1 := by kernel_rfl
  have hc_1 : Tryz.prog.cellsOf 3 = 1 := by kernel_rfl
  have hc_2 : Tryz.prog.cellsOf 9 = 1 := by kernel_rfl
  have hc_3 : Tryz.prog.cellsOf 22 = 1 := by kernel_rfl
  match cs, hl with
  | [z0, z1, z2, z3, z4, z5], _ =>
    obtain ⟨xs, k, _, hD, _, hlen, hfs⟩ := DataW.trod_struct Tryz.underlying107 h
    match xs, hlen with
    | [y0, y1, y2, y3, y4, y5], _ =>
      have t0 := hfs 0 _ rfl
      have t1 := hfs 1 _ rfl
      have t2 := hfs 2 _ rfl
      have t3 := hfs 3 _ rfl
      have t4 := hfs 4 _ rfl
      have t5 := hfs 5 _ rfl
      simp only [List.getElem_toArray, List.getElem_cons_zero, List.getElem_cons_succ, hc_0, hc_1, hc_2, hc_3, List.drop_zero, List.drop_succ_cons, List.take_succ_cons, List.take_zero, List.getElem?_cons_zero, List.getElem?_cons_succ] at t0 t1 t2 t3 t4 t5
      obtain ⟨d0, e0, -, w0⟩ := DataW.trod_int Tryz.underlying22 t0
      obtain ⟨b0, rfl⟩ := nat_u64 w0
      obtain ⟨d1, e1, -, w1⟩ := DataW.trod_int Tryz.underlying22 t1
      obtain ⟨b1, rfl⟩ := nat_u64 w1
      obtain ⟨b2, e2, -, w2⟩ := DataW.trod_int Tryz.underlying3 t2
      obtain ⟨b3, e3, -, -⟩ := DataW.trod_string Tryz.underlying9 t3
      obtain ⟨b4, e4, -, -⟩ := DataW.trod_string Tryz.underlying9 t4
      obtain ⟨b5, e5, -⟩ := DataW.trod_bool Tryz.underlying4 t5
      simp only [List.cons.injEq, and_true] at e0 e1 e2 e3 e4 e5
      subst e0 e1 e2 e3 e4 e5
      exact ⟨⟨b0, b1, b2, b3.data.toList, b4.data.toList, b5⟩, by simp [Sb.c, S_of], lt_u64 w0, fun _ => trivial⟩

set_option maxRecDepth 100000 in
set_option maxHeartbeats 1000000 in
theorem elemKp {H : Type} {enc : TypeId × Value → H} {W : World} (fuel : Nat) (cs : List Value) (y : DataW H × List MemPlace) (hl : cs.length = 3) (h : DataW.trod enc Tryz.prog W 0 (fun _ => true) true fuel 110 cs = some y) : ∃ x : Kp, cs = Kp.c x ∧ (True) ∧ ((y.1.weights Tryz.prog 110).all (· ≤ reachBytes) = true → (True)) := by
  have hc_0 : Tryz.prog.cellsOf 3 = 1 := by kernel_rfl
  have hc_1 : Tryz.prog.cellsOf 22 = 1 := by kernel_rfl
  match cs, hl with
  | [z0, z1, z2], _ =>
    obtain ⟨xs, k, _, hD, _, hlen, hfs⟩ := DataW.trod_struct Tryz.underlying110 h
    match xs, hlen with
    | [y0, y1, y2], _ =>
      have t0 := hfs 0 _ rfl
      have t1 := hfs 1 _ rfl
      have t2 := hfs 2 _ rfl
      simp only [List.getElem_toArray, List.getElem_cons_zero, List.getElem_cons_succ, hc_0, hc_1, List.drop_zero, List.drop_succ_cons, List.take_succ_cons, List.take_zero, List.getElem?_cons_zero, List.getElem?_cons_succ] at t0 t1 t2
      obtain ⟨d0, e0, -, w0⟩ := DataW.trod_int Tryz.underlying22 t0
      obtain ⟨b0, rfl⟩ := nat_u64 w0
      obtain ⟨d1, e1, -, w1⟩ := DataW.trod_int Tryz.underlying22 t1
      obtain ⟨b1, rfl⟩ := nat_u64 w1
      obtain ⟨b2, e2, -, w2⟩ := DataW.trod_int Tryz.underlying3 t2
      simp only [List.cons.injEq, and_true] at e0 e1 e2
      subst e0 e1 e2
      exact ⟨⟨b0, b1, b2⟩, by simp [Kp.c], trivial, fun _ => trivial⟩

set_option maxRecDepth 100000 in
set_option maxHeartbeats 1000000 in
theorem elemLs {H : Type} {enc : TypeId × Value → H} {W : World} (fuel : Nat) (cs : List Value) (y : DataW H × List MemPlace) (hl : cs.length = 7) (h : DataW.trod enc Tryz.prog W 0 (fun _ => true) true fuel 113 cs = some y) : ∃ x : Ls, cs = Ls.c x ∧ (Rr 4 Vr.c W x.vv x.vars) ∧ ((y.1.weights Tryz.prog 113).all (· ≤ reachBytes) = true → (x.vars.length * 48 ≤ 140737488351232)) := by
  have hc_0 : Tryz.prog.cellsOf 61 = 1 := by kernel_rfl
  have hc_1 : Tryz.prog.cellsOf 3 = 1 := by kernel_rfl
  have hc_2 : Tryz.prog.cellsOf 9 = 1 := by kernel_rfl
  have hc_3 : Tryz.prog.cellsOf 22 = 1 := by kernel_rfl
  match cs, hl with
  | [z0, z1, z2, z3, z4, z5, z6], _ =>
    obtain ⟨xs, k, _, hD, _, hlen, hfs⟩ := DataW.trod_struct Tryz.underlying113 h
    match xs, hlen with
    | [y0, y1, y2, y3, y4, y5, y6], _ =>
      have t0 := hfs 0 _ rfl
      have t1 := hfs 1 _ rfl
      have t2 := hfs 2 _ rfl
      have t3 := hfs 3 _ rfl
      have t4 := hfs 4 _ rfl
      have t5 := hfs 5 _ rfl
      have t6 := hfs 6 _ rfl
      simp only [List.getElem_toArray, List.getElem_cons_zero, List.getElem_cons_succ, hc_0, hc_1, hc_2, hc_3, List.drop_zero, List.drop_succ_cons, List.take_succ_cons, List.take_zero, List.getElem?_cons_zero, List.getElem?_cons_succ] at t0 t1 t2 t3 t4 t5 t6
      obtain ⟨d0, e0, -, w0⟩ := DataW.trod_int Tryz.underlying22 t0
      obtain ⟨b0, rfl⟩ := nat_u64 w0
      obtain ⟨d1, e1, -, w1⟩ := DataW.trod_int Tryz.underlying22 t1
      obtain ⟨b1, rfl⟩ := nat_u64 w1
      obtain ⟨b2, e2, -, w2⟩ := DataW.trod_int Tryz.underlying3 t2
      obtain ⟨b3, e3, -, -⟩ := DataW.trod_string Tryz.underlying9 t3
      obtain ⟨b4, e4, -, -⟩ := DataW.trod_string Tryz.underlying9 t4
      obtain ⟨d5, e5, -, w5⟩ := DataW.trod_int Tryz.underlying22 t5
      obtain ⟨b5, rfl⟩ := nat_u64 w5
      obtain ⟨v6, l6, e6, r6, s6⟩ := openVr t6
      simp only [List.cons.injEq, and_true] at e0 e1 e2 e3 e4 e5 e6
      subst e0 e1 e2 e3 e4 e5 e6
      refine ⟨⟨b0, b1, b2, b3.data.toList, b4.data.toList, b5, z6, l6⟩, by simp [Ls.c, S_of], r6, fun hw => ?_⟩
      have hd : y.1 = .agg [y0.1, y1.1, y2.1, y3.1, y4.1, y5.1, y6.1] := congrArg Prod.fst hD
      rw [hd] at hw
      simp only [DataW.weights, Tryz.underlying113] at hw
      exact s6 (sized_at hw (i := 6) (t := 61) (d := y6.1) rfl rfl)

set_option maxRecDepth 100000 in
set_option maxHeartbeats 1000000 in
theorem elemMs {H : Type} {enc : TypeId × Value → H} {W : World} (fuel : Nat) (cs : List Value) (y : DataW H × List MemPlace) (hl : cs.length = 7) (h : DataW.trod enc Tryz.prog W 0 (fun _ => true) true fuel 74 cs = some y) : ∃ x : Ms, cs = Ms.c x ∧ (Rr 4 Vr.c W x.vv x.vars ∧ Rr 1 Un.c W x.iv x.its) ∧ ((y.1.weights Tryz.prog 74).all (· ≤ reachBytes) = true → (x.vars.length * 48 ≤ 140737488351232 ∧ x.its.length * 8 ≤ 140737488351232)) := by
  have hc_0 : Tryz.prog.cellsOf 61 = 1 := by kernel_rfl
  have hc_1 : Tryz.prog.cellsOf 72 = 1 := by kernel_rfl
  have hc_2 : Tryz.prog.cellsOf 2 = 1 := by kernel_rfl
  have hc_3 : Tryz.prog.cellsOf 9 = 1 := by kernel_rfl
  have hc_4 : Tryz.prog.cellsOf 22 = 1 := by kernel_rfl
  match cs, hl with
  | [z0, z1, z2, z3, z4, z5, z6], _ =>
    obtain ⟨xs, k, _, hD, _, hlen, hfs⟩ := DataW.trod_struct Tryz.underlying74 h
    match xs, hlen with
    | [y0, y1, y2, y3, y4, y5, y6], _ =>
      have t0 := hfs 0 _ rfl
      have t1 := hfs 1 _ rfl
      have t2 := hfs 2 _ rfl
      have t3 := hfs 3 _ rfl
      have t4 := hfs 4 _ rfl
      have t5 := hfs 5 _ rfl
      have t6 := hfs 6 _ rfl
      simp only [List.getElem_toArray, List.getElem_cons_zero, List.getElem_cons_succ, hc_0, hc_1, hc_2, hc_3, hc_4, List.drop_zero, List.drop_succ_cons, List.take_succ_cons, List.take_zero, List.getElem?_cons_zero, List.getElem?_cons_succ] at t0 t1 t2 t3 t4 t5 t6
      obtain ⟨d0, e0, -, w0⟩ := DataW.trod_int Tryz.underlying22 t0
      obtain ⟨b0, rfl⟩ := nat_u64 w0
      obtain ⟨b1, e1, -, -⟩ := DataW.trod_string Tryz.underlying9 t1
      obtain ⟨b2, e2, -, -⟩ := DataW.trod_string Tryz.underlying9 t2
      obtain ⟨b3, e3, -, -⟩ := DataW.trod_string Tryz.underlying9 t3
      obtain ⟨b4, e4, -, w4⟩ := DataW.trod_int Tryz.underlying2 t4
      obtain ⟨v5, l5, e5, r5, s5⟩ := openVr t5
      obtain ⟨v6, l6, e6, r6, s6⟩ := openUn t6
      simp only [List.cons.injEq, and_true] at e0 e1 e2 e3 e4 e5 e6
      subst e0 e1 e2 e3 e4 e5 e6
      refine ⟨⟨b0, b1.data.toList, b2.data.toList, b3.data.toList, b4, z5, z6, l5, l6⟩, by simp [Ms.c, S_of], ⟨r5, r6⟩, fun hw => ?_⟩
      have hd : y.1 = .agg [y0.1, y1.1, y2.1, y3.1, y4.1, y5.1, y6.1] := congrArg Prod.fst hD
      rw [hd] at hw
      simp only [DataW.weights, Tryz.underlying74] at hw
      exact ⟨s5 (sized_at hw (i := 5) (t := 61) (d := y5.1) rfl rfl), s6 (sized_at hw (i := 6) (t := 72) (d := y6.1) rfl rfl)⟩

set_option maxRecDepth 100000 in
set_option maxHeartbeats 1000000 in
theorem elemRc {H : Type} {enc : TypeId × Value → H} {W : World} (fuel : Nat) (cs : List Value) (y : DataW H × List MemPlace) (hl : cs.length = 13) (h : DataW.trod enc Tryz.prog W 0 (fun _ => true) true fuel 63 cs = some y) : ∃ x : Rc, cs = Rc.cs x ∧ (Rr 4 Vr.c W x.vv x.v ∧ x.ok) ∧ ((y.1.weights Tryz.prog 63).all (· ≤ reachBytes) = true → (x.v.length * 48 ≤ 140737488351232)) := by
  have hc_0 : Tryz.prog.cellsOf 61 = 1 := by kernel_rfl
  have hc_1 : Tryz.prog.cellsOf 3 = 1 := by kernel_rfl
  have hc_2 : Tryz.prog.cellsOf 2 = 1 := by kernel_rfl
  have hc_3 : Tryz.prog.cellsOf 9 = 1 := by kernel_rfl
  have hc_4 : Tryz.prog.cellsOf 22 = 1 := by kernel_rfl
  match cs, hl with
  | [z0, z1, z2, z3, z4, z5, z6, z7, z8, z9, z10, z11, z12], _ =>
    obtain ⟨xs, k, _, hD, _, hlen, hfs⟩ := DataW.trod_struct Tryz.underlying63 h
    match xs, hlen with
    | [y0, y1, y2, y3, y4, y5, y6, y7, y8, y9, y10, y11, y12], _ =>
      have t0 := hfs 0 _ rfl
      have t1 := hfs 1 _ rfl
      have t2 := hfs 2 _ rfl
      have t3 := hfs 3 _ rfl
      have t4 := hfs 4 _ rfl
      have t5 := hfs 5 _ rfl
      have t6 := hfs 6 _ rfl
      have t7 := hfs 7 _ rfl
      have t8 := hfs 8 _ rfl
      have t9 := hfs 9 _ rfl
      have t10 := hfs 10 _ rfl
      have t11 := hfs 11 _ rfl
      have t12 := hfs 12 _ rfl
      simp only [List.getElem_toArray, List.getElem_cons_zero, List.getElem_cons_succ, hc_0, hc_1, hc_2, hc_3, hc_4, List.drop_zero, List.drop_succ_cons, List.take_succ_cons, List.take_zero, List.getElem?_cons_zero, List.getElem?_cons_succ] at t0 t1 t2 t3 t4 t5 t6 t7 t8 t9 t10 t11 t12
      obtain ⟨b0, e0, -, w0⟩ := DataW.trod_int Tryz.underlying3 t0
      obtain ⟨b1, e1, -, w1⟩ := DataW.trod_int Tryz.underlying3 t1
      obtain ⟨d2, e2, -, w2⟩ := DataW.trod_int Tryz.underlying22 t2
      obtain ⟨b2, rfl⟩ := nat_u64 w2
      obtain ⟨b3, e3, -, w3⟩ := DataW.trod_int Tryz.underlying2 t3
      obtain ⟨d4, e4, -, w4⟩ := DataW.trod_int Tryz.underlying22 t4
      obtain ⟨b4, rfl⟩ := nat_u64 w4
      obtain ⟨d5, e5, -, w5⟩ := DataW.trod_int Tryz.underlying22 t5
      obtain ⟨b5, rfl⟩ := nat_u64 w5
      obtain ⟨d6, e6, -, w6⟩ := DataW.trod_int Tryz.underlying22 t6
      obtain ⟨b6, rfl⟩ := nat_u64 w6
      obtain ⟨b7, e7, -, w7⟩ := DataW.trod_int Tryz.underlying2 t7
      obtain ⟨b8, e8, -, w8⟩ := DataW.trod_int Tryz.underlying2 t8
      obtain ⟨b9, e9, -, -⟩ := DataW.trod_string Tryz.underlying9 t9
      obtain ⟨b10, e10, -, -⟩ := DataW.trod_string Tryz.underlying9 t10
      obtain ⟨b11, e11, -, -⟩ := DataW.trod_string Tryz.underlying9 t11
      obtain ⟨v12, l12, e12, r12, s12⟩ := openVr t12
      simp only [List.cons.injEq, and_true] at e0 e1 e2 e3 e4 e5 e6 e7 e8 e9 e10 e11 e12
      subst e0 e1 e2 e3 e4 e5 e6 e7 e8 e9 e10 e11 e12
      refine ⟨⟨b0, b1, b2, b3, b4, b5, b6, b7, b8, b9.data.toList, b10.data.toList, b11.data.toList, z12, l12⟩, by simp [Rc.cs, S_of], ⟨r12, bounds_i64 w1, lt_u64 w4, lt_u64 w5⟩, fun hw => ?_⟩
      have hd : y.1 = .agg [y0.1, y1.1, y2.1, y3.1, y4.1, y5.1, y6.1, y7.1, y8.1, y9.1, y10.1, y11.1, y12.1] := congrArg Prod.fst hD
      rw [hd] at hw
      simp only [DataW.weights, Tryz.underlying63] at hw
      exact s12 (sized_at hw (i := 12) (t := 61) (d := y12.1) rfl rfl)

set_option maxRecDepth 100000 in
set_option maxHeartbeats 2000000 in
/-- an argument that is a state -/
theorem openState {H : Type} {enc : TypeId × Value → H} {W : World} {v : Value} {d : DataW H} {p : List MemPlace} {base : Nat} (hok : Value.okWide Tryz.prog W .any base 33 v)
    (h : DataW.Trod enc Tryz.prog W 0 (fun _ => true) true 33 v d p) : ∃ s : St, v = .agg s.c.toArray ∧ Sv W s ∧ Kr s ∧ ((d.weights Tryz.prog 33).all (· ≤ reachBytes) = true → Sz s) := by
  have hc4 : Tryz.prog.cellsOf 22 = 1 := by kernel_rfl
  have hcDe : Tryz.prog.cellsOf 23 = 1 := by kernel_rfl
  have hcIn : Tryz.prog.cellsOf 24 = 1 := by kernel_rfl
  have hcTk : Tryz.prog.cellsOf 25 = 1 := by kernel_rfl
  have hcJb : Tryz.prog.cellsOf 26 = 1 := by kernel_rfl
  have hcTm : Tryz.prog.cellsOf 27 = 1 := by kernel_rfl
  have hcSb : Tryz.prog.cellsOf 28 = 1 := by kernel_rfl
  have hcKp : Tryz.prog.cellsOf 29 = 1 := by kernel_rfl
  have hcLs : Tryz.prog.cellsOf 30 = 1 := by kernel_rfl
  have hcMs : Tryz.prog.cellsOf 31 = 1 := by kernel_rfl
  obtain ⟨cs, rfl, hsz⟩ := okWide_struct Tryz.underlying33 hok
  have hC : Tryz.prog.cellsOf 33 = 12 := by kernel_rfl
  obtain ⟨fuel, hf⟩ := h
  have hl : cs.toList.length = 12 := by rw [Array.length_toList, hsz, hC]
  have hcs : cs = cs.toList.toArray := by simp
  obtain ⟨z0, z1, z2, z3, z4, z5, z6, z7, z8, z9, z10, z11, hz⟩ : ∃ z0 z1 z2 z3 z4 z5 z6 z7 z8 z9 z10 z11, cs.toList = [z0, z1, z2, z3, z4, z5, z6, z7, z8, z9, z10, z11] := by
    match hq : cs.toList, hl with
    | [a0, a1, a2, a3, a4, a5, a6, a7, a8, a9, a10, a11], _ => exact ⟨a0, a1, a2, a3, a4, a5, a6, a7, a8, a9, a10, a11, rfl⟩
  change DataW.trod enc Tryz.prog W 0 (fun _ => true) true fuel 33 cs.toList = some (d, p) at hf
  rw [hz] at hf hcs
  subst hcs
  obtain ⟨xs, k, _, hD, _, hlen, hfs⟩ := DataW.trod_struct Tryz.underlying33 hf
  match xs, hlen with
  | [y0, y1, y2, y3, y4, y5, y6, y7, y8, y9, y10, y11], _ =>
    have t0 := hfs 0 _ rfl
    have t1 := hfs 1 _ rfl
    have t2 := hfs 2 _ rfl
    have t3 := hfs 3 _ rfl
    have t4 := hfs 4 _ rfl
    have t5 := hfs 5 _ rfl
    have t6 := hfs 6 _ rfl
    have t7 := hfs 7 _ rfl
    have t8 := hfs 8 _ rfl
    have t9 := hfs 9 _ rfl
    have t10 := hfs 10 _ rfl
    have t11 := hfs 11 _ rfl
    simp only [List.getElem_toArray, List.getElem_cons_zero, List.getElem_cons_succ, hc4, hcDe, hcIn, hcTk, hcJb, hcTm, hcSb, hcKp, hcLs, hcMs, List.drop_zero, List.drop_succ_cons, List.take_succ_cons, List.take_zero, List.getElem?_cons_zero, List.getElem?_cons_succ] at t0 t1 t2 t3 t4 t5 t6 t7 t8 t9 t10 t11
    obtain ⟨d0, e0, -, w0⟩ := DataW.trod_int Tryz.underlying22 t0
    obtain ⟨b0, rfl⟩ := nat_u64 w0
    obtain ⟨d1, e1, -, w1⟩ := DataW.trod_int Tryz.underlying22 t1
    obtain ⟨b1, rfl⟩ := nat_u64 w1
    obtain ⟨d2, e2, -, w2⟩ := DataW.trod_int Tryz.underlying22 t2
    obtain ⟨b2, rfl⟩ := nat_u64 w2
    obtain ⟨vDe, lDe, e3, rDe, qDe, sDe⟩ := openRows (α := De) (Q := fun x => True) (R := fun x => True) De.k Tryz.underlying23 (by kernel_rfl) (by omega) (sz := 32) (by kernel_rfl) elemDe t3
    obtain ⟨vIn, lIn, e4, rIn, qIn, sIn⟩ := openRows (α := In) (Q := fun x => Rr 4 Vr.c W x.vv x.vars) (R := fun x => x.vars.length * 48 ≤ 140737488351232) In.k Tryz.underlying24 (by kernel_rfl) (by omega) (sz := 48) (by kernel_rfl) elemIn t4
    obtain ⟨vTk, lTk, e5, rTk, qTk, sTk⟩ := openRows (α := Tk) (Q := fun x => x.key < 18446744073709551616) (R := fun x => True) Tk.k Tryz.underlying25 (by kernel_rfl) (by omega) (sz := 56) (by kernel_rfl) elemTk t5
    obtain ⟨vJb, lJb, e6, rJb, qJb, sJb⟩ := openRows (α := Jb) (Q := fun x => x.token < 18446744073709551616) (R := fun x => True) Jb.k Tryz.underlying26 (by kernel_rfl) (by omega) (sz := 64) (by kernel_rfl) elemJb t6
    obtain ⟨vTm, lTm, e7, rTm, qTm, sTm⟩ := openRows (α := Tm) (Q := fun x => x.token < 18446744073709551616) (R := fun x => True) Tm.k Tryz.underlying27 (by kernel_rfl) (by omega) (sz := 24) (by kernel_rfl) elemTm t7
    obtain ⟨vSb, lSb, e8, rSb, qSb, sSb⟩ := openRows (α := Sb) (Q := fun x => x.token < 18446744073709551616) (R := fun x => True) Sb.k Tryz.underlying28 (by kernel_rfl) (by omega) (sz := 64) (by kernel_rfl) elemSb t8
    obtain ⟨vKp, lKp, e9, rKp, qKp, sKp⟩ := openRows (α := Kp) (Q := fun x => True) (R := fun x => True) Kp.k Tryz.underlying29 (by kernel_rfl) (by omega) (sz := 24) (by kernel_rfl) elemKp t9
    obtain ⟨vLs, lLs, e10, rLs, qLs, sLs⟩ := openRows (α := Ls) (Q := fun x => Rr 4 Vr.c W x.vv x.vars) (R := fun x => x.vars.length * 48 ≤ 140737488351232) Ls.k Tryz.underlying30 (by kernel_rfl) (by omega) (sz := 88) (by kernel_rfl) elemLs t10
    obtain ⟨vMs, lMs, e11, rMs, qMs, sMs⟩ := openRows (α := Ms) (Q := fun x => Rr 4 Vr.c W x.vv x.vars ∧ Rr 1 Un.c W x.iv x.its) (R := fun x => x.vars.length * 48 ≤ 140737488351232 ∧ x.its.length * 8 ≤ 140737488351232) Ms.k Tryz.underlying31 (by kernel_rfl) (by omega) (sz := 112) (by kernel_rfl) elemMs t11
    simp only [List.cons.injEq, and_true] at e0 e1 e2 e3 e4 e5 e6 e7 e8 e9 e10 e11
    subst e0 e1 e2 e3 e4 e5 e6 e7 e8 e9 e10 e11
    refine ⟨⟨b0, b1, b2, z3, lDe, z4, lIn, z5, lTk, z6, lJb, z7, lTm, z8, lSb, z9, lKp, z10, lLs, z11, lMs⟩, rfl, ⟨rDe, rIn, rTk, rJb, rTm, rSb, rKp, rLs, rMs, qIn, qLs, fun x hx => (qMs x hx).1, fun x hx => (qMs x hx).2⟩, ⟨qTk, qJb, qTm, qSb⟩, fun hw => ?_⟩
    have hd : d = .agg [y0.1, y1.1, y2.1, y3.1, y4.1, y5.1, y6.1, y7.1, y8.1, y9.1, y10.1, y11.1] := congrArg Prod.fst hD
    rw [hd] at hw
    simp only [DataW.weights, Tryz.underlying33] at hw
    have uDe := sDe (sized_at hw (i := 3) (t := 23) (d := y3.1) rfl rfl)
    have uIn := sIn (sized_at hw (i := 4) (t := 24) (d := y4.1) rfl rfl)
    have uTk := sTk (sized_at hw (i := 5) (t := 25) (d := y5.1) rfl rfl)
    have uJb := sJb (sized_at hw (i := 6) (t := 26) (d := y6.1) rfl rfl)
    have uTm := sTm (sized_at hw (i := 7) (t := 27) (d := y7.1) rfl rfl)
    have uSb := sSb (sized_at hw (i := 8) (t := 28) (d := y8.1) rfl rfl)
    have uKp := sKp (sized_at hw (i := 9) (t := 29) (d := y9.1) rfl rfl)
    have uLs := sLs (sized_at hw (i := 10) (t := 30) (d := y10.1) rfl rfl)
    have uMs := sMs (sized_at hw (i := 11) (t := 31) (d := y11.1) rfl rfl)
    exact ⟨Nat.le_trans uDe.1 (by omega), Nat.le_trans uIn.1 (by omega), Nat.le_trans uTk.1 (by omega), Nat.le_trans uJb.1 (by omega), Nat.le_trans uTm.1 (by omega), Nat.le_trans uSb.1 (by omega), Nat.le_trans uKp.1 (by omega), Nat.le_trans uLs.1 (by omega), Nat.le_trans uMs.1 (by omega), fun x hx => Nat.le_trans (uIn.2 x hx) (by omega), fun x hx => Nat.le_trans (uLs.2 x hx) (by omega), fun x hx => Nat.le_trans (uMs.2 x hx).1 (by omega), fun x hx => Nat.le_trans (uMs.2 x hx).2 (by omega)⟩

set_option maxRecDepth 100000 in
set_option maxHeartbeats 2000000 in
/-- an argument that is a record -/
theorem openRc {H : Type} {enc : TypeId × Value → H} {W : World} {v : Value} {d : DataW H} {p : List MemPlace} {base : Nat} (hok : Value.okWide Tryz.prog W .any base 63 v)
    (h : DataW.Trod enc Tryz.prog W 0 (fun _ => true) true 63 v d p) : ∃ r : Rc, v = .agg r.cs.toArray ∧ Rr 4 Vr.c W r.vv r.v ∧ r.ok ∧ ((d.weights Tryz.prog 63).all (· ≤ reachBytes) = true → r.v.length * 48 ≤ 140737488351232) := by
  obtain ⟨cs, rfl, hsz⟩ := okWide_struct Tryz.underlying63 hok
  have hC : Tryz.prog.cellsOf 63 = 13 := by kernel_rfl
  obtain ⟨fuel, hf⟩ := h
  have hl : cs.toList.length = 13 := by rw [Array.length_toList, hsz, hC]
  change DataW.trod enc Tryz.prog W 0 (fun _ => true) true fuel 63 cs.toList = some (d, p) at hf
  obtain ⟨r, h1, h2, h3⟩ := elemRc fuel _ _ hl hf
  exact ⟨r, by rw [← h1], h2.1, h2.2, h3⟩
set_option maxRecDepth 100000 in
/-- an argument that is a number -/
theorem openU {H : Type} {enc : TypeId × Value → H} {W : World} {v : Value} {d : DataW H} {p : List MemPlace} {base : Nat} (hok : Value.okWide Tryz.prog W .any base 22 v) (h : DataW.Trod enc Tryz.prog W 0 (fun _ => true) true 22 v d p) : ∃ k : Nat, v = .int .u64 (k : Int) := by
  obtain ⟨n, rfl, rfl, rfl, w⟩ := open_int Tryz.underlying22 hok h
  obtain ⟨k, rfl⟩ := nat_u64 w
  exact ⟨k, rfl⟩
set_option maxRecDepth 100000 in
/-- an argument that is a slice of records -/
theorem openRcs {H : Type} {enc : TypeId × Value → H} {W : World} {v : Value} {d : DataW H} {p : List MemPlace} (hv : ∃ a n c, v = .slice a n c)
    (h : DataW.Trod enc Tryz.prog W 0 (fun _ => true) true 37 v d p) : ∃ l : List Rc, Rr 13 Rc.cs W v l ∧ (∀ x ∈ l, Rr 4 Vr.c W x.vv x.v ∧ x.ok) ∧ ((d.weights Tryz.prog 37).all (· ≤ reachBytes) = true → l.length * 144 ≤ 140737488351232 ∧ ∀ x ∈ l, x.v.length * 48 ≤ 140737488351232) := by
  obtain ⟨a, n, c, rfl⟩ := hv
  obtain ⟨fuel, hf⟩ := h
  change DataW.trod enc Tryz.prog W 0 (fun _ => true) true fuel 37 [.slice a n c] = some (d, p) at hf
  obtain ⟨v', l, e, h1, h2, h3⟩ := openRows (α := Rc) (Q := fun x => Rr 4 Vr.c W x.vv x.v ∧ x.ok) (R := fun x => x.v.length * 48 ≤ 140737488351232) (k := 13) (fun _ => rfl) Tryz.underlying37 (by kernel_rfl) (by omega) (sz := 144) (by kernel_rfl) elemRc hf
  simp only [List.cons.injEq, and_true] at e
  subst e
  exact ⟨l, h1, h2, h3⟩
end Go.Proofs.YthmfcloecmnfnaaGreat.f13

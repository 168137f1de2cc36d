/-
  What arguments that are states, and slices of records, give to a walk where all that is read is of bounded bulk.
-/
import Derived.Test.YthmfcloecmnfnaaGreatF13Arg
namespace Go.Proofs.YthmfcloecmnfnaaGreat.f13
open Go.ChangeShapes Go.WideShapes Go.ChangeAt Go.WideMaps Go.WideElems Go.RowKit

theorem bulk_one13 {H : Type} (d : DataW H) : 1 ≤ Rows.uptoBulk d := by
  cases d with
  | lit l => cases l <;> simp [Rows.uptoBulk]
  | nil => simp [Rows.uptoBulk]
  | ptr d => simp [Rows.uptoBulk]
  | slice elems spare => simp [Rows.uptoBulk]
  | agg parts => simp [Rows.uptoBulk]
  | iface t d => simp [Rows.uptoBulk]
  | map entries => simp [Rows.uptoBulk]
  | held h => simp [Rows.uptoBulk]
theorem bulk_mem13 {H : Type} {d : DataW H} {l : List (DataW H)} (h : d ∈ l) : Rows.uptoBulk d ≤ Rows.uptoBulkAll l := by
  induction l with
  | nil => cases h
  | cons x r ih =>
    simp only [Rows.uptoBulkAll]
    cases List.mem_cons.1 h with
    | inl e => subst e; omega
    | inr e => have := ih e; omega
theorem bulk_count13 {H : Type} (l : List (DataW H)) : l.length ≤ Rows.uptoBulkAll l := by
  induction l with
  | nil => simp [Rows.uptoBulkAll]
  | cons x r ih => have := bulk_one13 x; simp only [Rows.uptoBulkAll, List.length_cons]; omega
/-- the lists of a state are short -/
structure Sb0 (n : Nat) (s : St) : Prop where
  nDe : s.procs.length ≤ n
  nIn : s.insts.length ≤ n
  nTk : s.tokens.length ≤ n
  nJb : s.jobs.length ≤ n
  nTm : s.timers.length ≤ n
  nSb : s.subs.length ≤ n
  nKp : s.kept.length ≤ n
  nLs : s.listed.length ≤ n
  nMs : s.msgs.length ≤ n
  mIn : ∀ x ∈ s.insts, x.vars.length ≤ n
  mLs : ∀ x ∈ s.listed, x.vars.length ≤ n
  mMs : ∀ x ∈ s.msgs, x.vars.length ≤ n
  kMs : ∀ x ∈ s.msgs, x.its.length ≤ n
theorem Sb0.sz {n : Nat} {s : St} (h : Sb0 n s) (hn : n ≤ 1048576) : Sz s :=
  ⟨by have := h.nDe; omega, by have := h.nIn; omega, by have := h.nTk; omega, by have := h.nJb; omega, by have := h.nTm; omega, by have := h.nSb; omega, by have := h.nKp; omega, by have := h.nLs; omega, by have := h.nMs; omega, fun x hx => by have := h.mIn x hx; omega, fun x hx => by have := h.mLs x hx; omega, fun x hx => by have := h.mMs x hx; omega, fun x hx => by have := h.kMs x hx; omega⟩

set_option maxRecDepth 100000 in
/-- a slice of elements, whatever they are -/
theorem openRowsB {H : Type} {enc : TypeId × Value → H} {W : World} {α : Type} {k : Nat} {c : α → List Value} {Q R : α → Prop} {t et : TypeId} {m0 : Nat}
    (hk : ∀ x, (c x).length = k) (hu : Tryz.prog.underlying t = some (.slice et)) (hc : Tryz.prog.cellsOf et = k) (h0 : 0 < k)
    (elem : ∀ (fuel : Nat) (cs : List Value) (y : DataW H × List MemPlace), cs.length = k → DataW.trod enc Tryz.prog W 0 (fun _ => true) true fuel et cs = some y → ∃ x, cs = c x ∧ Q x ∧ (Rows.uptoBulk y.1 ≤ m0 → R x))
    {cs0 : List Value} {fuel : Nat} {x : DataW H × List MemPlace}
    (hf : DataW.trod enc Tryz.prog W 0 (fun _ => true) true fuel t cs0 = some x) :
    ∃ (v : Value) (l : List α), cs0 = [v] ∧ Rr k c W v l ∧ (∀ x ∈ l, Q x) ∧ (Rows.uptoBulk x.1 ≤ m0 → l.length ≤ m0 ∧ ∀ x ∈ l, R x) := by
  rcases Deep.open_slice hu hf with ⟨hcs, hx⟩ | ⟨x', len0, cap0, m, n, D, Pl, hcs, _, hl, hm, hmm, hx, hall⟩
  · exact ⟨_, [], hcs, Rr.nil W, fun _ h => absurd h List.not_mem_nil, fun _ => ⟨by simp, fun _ h => absurd h List.not_mem_nil⟩⟩
  · subst hx
    have hmc : m = cap0 := by simpa using hmm
    have each : ∀ i, i < len0 → ∃ r : α, (∀ (j : Nat) (u : Value), (c r)[j]? = some u → W.cell? (x'.add (i * k + j)) = some u) ∧ Q r ∧ (Rows.uptoBulk (D i) ≤ m0 → R r) := by
      intro i hi
      obtain ⟨cs, h1, h2⟩ := hall i (by omega)
      rw [hc] at h1
      obtain ⟨_, hlen, hcell⟩ := World.cells?_some h1
      obtain ⟨r, hr, hq, hw⟩ := elem _ cs _ hlen h2
      subst hr
      refine ⟨r, fun j u hj => ?_, hq, hw⟩
      have hjl : j < k := by rw [← hk r]; exact (List.getElem?_eq_some_iff.1 hj).1
      have := hcell j hjl
      rw [Addr.add_add] at this
      rw [this]
      first | exact hj | simpa using (List.getElem?_eq_some_iff.1 hj).2
    by_cases hz : len0 = 0
    · subst hz
      exact ⟨_, [], hcs, ⟨some x', cap0, rfl, ⟨Nat.zero_le _, fun e => by cases e⟩, .inl rfl⟩, fun _ h => absurd h List.not_mem_nil, fun _ => ⟨by simp, fun _ h => absurd h List.not_mem_nil⟩⟩
    haveI : Inhabited α := ⟨(each 0 (by omega)).choose⟩
    obtain ⟨X, hX⟩ := Deep.choose_lt each
    have hlen : ((List.range len0).map X).length = len0 := by simp
    refine ⟨_, (List.range len0).map X, hcs, ⟨some x', cap0, by rw [hlen], ⟨by rw [hlen]; omega, fun e => by cases e⟩, ?_⟩, fun r hr => ?_, fun hw => ?_⟩
    · · right
        obtain ⟨u0, hu0⟩ : ∃ u, (c (X 0))[0]? = some u := ⟨(c (X 0))[0]'(by rw [hk]; exact h0), List.getElem?_eq_getElem _⟩
        have hcc := (hX 0 (by omega)).1 0 _ hu0
        obtain ⟨b, off, spot⟩ := x'
        have hspot : spot = none := by simpa [Addr.add] using World.cell?_spot hcc
        subst hspot
        refine ⟨b, off, rfl, ?_, fun j hj i u hi => ?_⟩
        · rw [Addr.add_lit] at hcc
          exact World.block_lt_of_cell? _ _ hcc
        · rw [hlen] at hj
          have hj3 := (hX j hj).1 i u (by simpa using hi)
          rw [Addr.add_lit] at hj3
          simpa [Nat.add_assoc] using hj3
    · obtain ⟨j, hj, rfl⟩ := List.mem_map.1 hr
      exact (hX j (List.mem_range.1 hj)).2.1
    · have hc1 := bulk_count13 ((List.range len0).map D)
      simp only [Rows.uptoBulk] at hw
      rw [List.length_map, List.length_range] at hc1
      refine ⟨by rw [hlen]; omega, fun r hr' => ?_⟩
      obtain ⟨j, hj, rfl⟩ := List.mem_map.1 hr'
      have hj' := List.mem_range.1 hj
      have hm' := bulk_mem13 (List.mem_map.2 ⟨j, hj, rfl⟩ : D j ∈ (List.range len0).map D)
      exact (hX j hj').2.2 (by omega)

set_option maxRecDepth 100000 in
theorem openUnB {m0 : Nat} {H : Type} {enc : TypeId × Value → H} {W : World} {fuel : Nat} {cs0 : List Value} {x : DataW H × List MemPlace}
    (hf : DataW.trod enc Tryz.prog W 0 (fun _ => true) true fuel 72 cs0 = some x) : ∃ (v : Value) (l : List Un), cs0 = [v] ∧ Rr 1 Un.c W v l ∧ (Rows.uptoBulk x.1 ≤ m0 → l.length ≤ m0) := by
  obtain ⟨v, l, h1, h2, -, h4⟩ := openRowsB (Q := fun _ => True) (R := fun _ => True) Un.k Tryz.underlying72 (by kernel_rfl) (by omega) (fun fuel cs y hl h => by
    obtain ⟨b, e, -, w0⟩ := DataW.trod_int Tryz.underlying22 h
    obtain ⟨k, rfl⟩ := nat_u64 w0
    exact ⟨k, e, trivial, fun _ => trivial⟩) hf
  exact ⟨v, l, h1, h2, fun hw => (h4 hw).1⟩
set_option maxRecDepth 100000 in
theorem openVrB {m0 : Nat} {H : Type} {enc : TypeId × Value → H} {W : World} {fuel : Nat} {cs0 : List Value} {x : DataW H × List MemPlace}
    (hf : DataW.trod enc Tryz.prog W 0 (fun _ => true) true fuel 61 cs0 = some x) : ∃ (v : Value) (l : List Vr), cs0 = [v] ∧ Rr 4 Vr.c W v l ∧ (Rows.uptoBulk x.1 ≤ m0 → l.length ≤ m0) := by
  have hc2 : Tryz.prog.cellsOf 9 = 1 := by kernel_rfl
  have hc3 : Tryz.prog.cellsOf 99 = 3 := by kernel_rfl
  obtain ⟨v, l, h1, h2, -, h4⟩ := openRowsB (Q := fun _ => True) (R := fun _ => True) Vr.k Tryz.underlying61 (by kernel_rfl) (by omega) (fun fuel cs y hl h => by
    match cs, hl with
    | [z0, z1, z2, z3], _ =>
      obtain ⟨y0, y1, k, hD, _, t0, t1⟩ := trod_struct2 Tryz.underlying101 h
      simp only [hc2, hc3, List.drop_zero, List.drop_succ_cons, List.take_succ_cons, List.take_zero] at t0 t1
      obtain ⟨b0, e0, x0, w0⟩ := DataW.trod_string Tryz.underlying9 t0
      obtain ⟨p, q, r, ev⟩ := openVl (by rfl) t1
      simp at e0
      subst e0
      simp only [List.cons.injEq, and_true] at ev
      obtain ⟨rfl, rfl, rfl⟩ := ev
      exact ⟨(b0, p, q, r), rfl, trivial, fun _ => trivial⟩) hf
  exact ⟨v, l, h1, h2, fun hw => (h4 hw).1⟩

set_option maxRecDepth 100000 in
set_option maxHeartbeats 1000000 in
theorem elemDeB {m0 : Nat} {H : Type} {enc : TypeId × Value → H} {W : World} (fuel : Nat) (cs : List Value) (y : DataW H × List MemPlace) (hl : cs.length = 2) (h : DataW.trod enc Tryz.prog W 0 (fun _ => true) true fuel 92 cs = some y) : ∃ x : De, cs = De.c x ∧ (True) ∧ (Rows.uptoBulk y.1 ≤ m0 → (True)) := by
  have hc_0 : Tryz.prog.cellsOf 9 = 1 := by kernel_rfl
  match cs, hl with
  | [z0, z1], _ =>
    obtain ⟨xs, k, _, hD, _, hlen, hfs⟩ := DataW.trod_struct Tryz.underlying92 h
    match xs, hlen with
    | [y0, y1], _ =>
      have t0 := hfs 0 _ rfl
      have t1 := hfs 1 _ rfl
      simp only [List.getElem_toArray, List.getElem_cons_zero, List.getElem_cons_succ, hc_0, List.drop_zero, List.drop_succ_cons, List.take_succ_cons, List.take_zero, List.getElem?_cons_zero, List.getElem?_cons_succ] at t0 t1
      obtain ⟨b0, e0, -, -⟩ := DataW.trod_string Tryz.underlying9 t0
      obtain ⟨b1, e1, -, -⟩ := DataW.trod_string Tryz.underlying9 t1
      simp only [List.cons.injEq, and_true] at e0 e1
      subst e0 e1
      exact ⟨⟨b0.data.toList, b1.data.toList⟩, by simp [De.c, S_of], trivial, fun _ => trivial⟩

set_option maxRecDepth 100000 in
set_option maxHeartbeats 1000000 in
theorem elemInB {m0 : Nat} {H : Type} {enc : TypeId × Value → H} {W : World} (fuel : Nat) (cs : List Value) (y : DataW H × List MemPlace) (hl : cs.length = 3) (h : DataW.trod enc Tryz.prog W 0 (fun _ => true) true fuel 95 cs = some y) : ∃ x : In, cs = In.c x ∧ (Rr 4 Vr.c W x.vv x.vars) ∧ (Rows.uptoBulk y.1 ≤ m0 → (x.vars.length ≤ m0)) := by
  have hc_0 : Tryz.prog.cellsOf 61 = 1 := by kernel_rfl
  have hc_1 : Tryz.prog.cellsOf 9 = 1 := by kernel_rfl
  have hc_2 : Tryz.prog.cellsOf 22 = 1 := by kernel_rfl
  match cs, hl with
  | [z0, z1, z2], _ =>
    obtain ⟨xs, k, _, hD, _, hlen, hfs⟩ := DataW.trod_struct Tryz.underlying95 h
    match xs, hlen with
    | [y0, y1, y2], _ =>
      have t0 := hfs 0 _ rfl
      have t1 := hfs 1 _ rfl
      have t2 := hfs 2 _ rfl
      simp only [List.getElem_toArray, List.getElem_cons_zero, List.getElem_cons_succ, hc_0, hc_1, hc_2, List.drop_zero, List.drop_succ_cons, List.take_succ_cons, List.take_zero, List.getElem?_cons_zero, List.getElem?_cons_succ] at t0 t1 t2
      obtain ⟨d0, e0, -, w0⟩ := DataW.trod_int Tryz.underlying22 t0
      obtain ⟨b0, rfl⟩ := nat_u64 w0
      obtain ⟨b1, e1, -, -⟩ := DataW.trod_string Tryz.underlying9 t1
      obtain ⟨v2, l2, e2, r2, s2⟩ := openVrB t2
      simp only [List.cons.injEq, and_true] at e0 e1 e2
      subst e0 e1 e2
      refine ⟨⟨b0, b1.data.toList, z2, l2⟩, by simp [In.c, S_of], r2, fun hw => ?_⟩
      have hd : y.1 = .agg [y0.1, y1.1, y2.1] := congrArg Prod.fst hD
      rw [hd] at hw
      simp only [Rows.uptoBulk, Rows.uptoBulkAll] at hw
      exact s2 (by omega)

set_option maxRecDepth 100000 in
set_option maxHeartbeats 1000000 in
theorem elemTkB {m0 : Nat} {H : Type} {enc : TypeId × Value → H} {W : World} (fuel : Nat) (cs : List Value) (y : DataW H × List MemPlace) (hl : cs.length = 6) (h : DataW.trod enc Tryz.prog W 0 (fun _ => true) true fuel 66 cs = some y) : ∃ x : Tk, cs = Tk.c x ∧ (x.key < 18446744073709551616) ∧ (Rows.uptoBulk y.1 ≤ m0 → (True)) := by
  have hc_0 : Tryz.prog.cellsOf 3 = 1 := by kernel_rfl
  have hc_1 : Tryz.prog.cellsOf 9 = 1 := by kernel_rfl
  have hc_2 : Tryz.prog.cellsOf 22 = 1 := by kernel_rfl
  match cs, hl with
  | [z0, z1, z2, z3, z4, z5], _ =>
    obtain ⟨xs, k, _, hD, _, hlen, hfs⟩ := DataW.trod_struct Tryz.underlying66 h
    match xs, hlen with
    | [y0, y1, y2, y3, y4, y5], _ =>
      have t0 := hfs 0 _ rfl
      have t1 := hfs 1 _ rfl
      have t2 := hfs 2 _ rfl
      have t3 := hfs 3 _ rfl
      have t4 := hfs 4 _ rfl
      have t5 := hfs 5 _ rfl
      simp only [List.getElem_toArray, List.getElem_cons_zero, List.getElem_cons_succ, hc_0, hc_1, hc_2, List.drop_zero, List.drop_succ_cons, List.take_succ_cons, List.take_zero, List.getElem?_cons_zero, List.getElem?_cons_succ] at t0 t1 t2 t3 t4 t5
      obtain ⟨d0, e0, -, w0⟩ := DataW.trod_int Tryz.underlying22 t0
      obtain ⟨b0, rfl⟩ := nat_u64 w0
      obtain ⟨d1, e1, -, w1⟩ := DataW.trod_int Tryz.underlying22 t1
      obtain ⟨b1, rfl⟩ := nat_u64 w1
      obtain ⟨d2, e2, -, w2⟩ := DataW.trod_int Tryz.underlying22 t2
      obtain ⟨b2, rfl⟩ := nat_u64 w2
      obtain ⟨b3, e3, -, w3⟩ := DataW.trod_int Tryz.underlying3 t3
      obtain ⟨b4, e4, -, w4⟩ := DataW.trod_int Tryz.underlying3 t4
      obtain ⟨b5, e5, -, -⟩ := DataW.trod_string Tryz.underlying9 t5
      simp only [List.cons.injEq, and_true] at e0 e1 e2 e3 e4 e5
      subst e0 e1 e2 e3 e4 e5
      exact ⟨⟨b0, b1, b2, b3, b4, b5.data.toList⟩, by simp [Tk.c, S_of], lt_u64 w0, fun _ => trivial⟩

set_option maxRecDepth 100000 in
set_option maxHeartbeats 1000000 in
theorem elemJbB {m0 : Nat} {H : Type} {enc : TypeId × Value → H} {W : World} (fuel : Nat) (cs : List Value) (y : DataW H × List MemPlace) (hl : cs.length = 6) (h : DataW.trod enc Tryz.prog W 0 (fun _ => true) true fuel 46 cs = some y) : ∃ x : Jb, cs = Jb.c x ∧ (x.token < 18446744073709551616) ∧ (Rows.uptoBulk y.1 ≤ m0 → (True)) := by
  have hc_0 : Tryz.prog.cellsOf 3 = 1 := by kernel_rfl
  have hc_1 : Tryz.prog.cellsOf 2 = 1 := by kernel_rfl
  have hc_2 : Tryz.prog.cellsOf 9 = 1 := by kernel_rfl
  have hc_3 : Tryz.prog.cellsOf 22 = 1 := by kernel_rfl
  match cs, hl with
  | [z0, z1, z2, z3, z4, z5], _ =>
    obtain ⟨xs, k, _, hD, _, hlen, hfs⟩ := DataW.trod_struct Tryz.underlying46 h
    match xs, hlen with
    | [y0, y1, y2, y3, y4, y5], _ =>
      have t0 := hfs 0 _ rfl
      have t1 := hfs 1 _ rfl
      have t2 := hfs 2 _ rfl
      have t3 := hfs 3 _ rfl
      have t4 := hfs 4 _ rfl
      have t5 := hfs 5 _ rfl
      simp only [List.getElem_toArray, List.getElem_cons_zero, List.getElem_cons_succ, hc_0, hc_1, hc_2, hc_3, List.drop_zero, List.drop_succ_cons, List.take_succ_cons, List.take_zero, List.getElem?_cons_zero, List.getElem?_cons_succ] at t0 t1 t2 t3 t4 t5
      obtain ⟨d0, e0, -, w0⟩ := DataW.trod_int Tryz.underlying22 t0
      obtain ⟨b0, rfl⟩ := nat_u64 w0
      obtain ⟨d1, e1, -, w1⟩ := DataW.trod_int Tryz.underlying22 t1
      obtain ⟨b1, rfl⟩ := nat_u64 w1
      obtain ⟨b2, e2, -, -⟩ := DataW.trod_string Tryz.underlying9 t2
      obtain ⟨b3, e3, -, w3⟩ := DataW.trod_int Tryz.underlying3 t3
      obtain ⟨b4, e4, -, -⟩ := DataW.trod_string Tryz.underlying9 t4
      obtain ⟨b5, e5, -, w5⟩ := DataW.trod_int Tryz.underlying2 t5
      simp only [List.cons.injEq, and_true] at e0 e1 e2 e3 e4 e5
      subst e0 e1 e2 e3 e4 e5
      exact ⟨⟨b0, b1, b2.data.toList, b3, b4.data.toList, b5⟩, by simp [Jb.c, S_of], lt_u64 w1, fun _ => trivial⟩

set_option maxRecDepth 100000 in
set_option maxHeartbeats 1000000 in
theorem elemTmB {m0 : Nat} {H : Type} {enc : TypeId × Value → H} {W : World} (fuel : Nat) (cs : List Value) (y : DataW H × List MemPlace) (hl : cs.length = 3) (h : DataW.trod enc Tryz.prog W 0 (fun _ => true) true fuel 70 cs = some y) : ∃ x : Tm, cs = Tm.c x ∧ (x.token < 18446744073709551616) ∧ (Rows.uptoBulk y.1 ≤ m0 → (True)) := by
  have hc_0 : Tryz.prog.cellsOf 3 = 1 := by kernel_rfl
  have hc_1 : Tryz.prog.cellsOf 2 = 1 := by kernel_rfl
  have hc_2 : Tryz.prog.cellsOf 22 = 1 := by kernel_rfl
  match cs, hl with
  | [z0, z1, z2], _ =>
    obtain ⟨xs, k, _, hD, _, hlen, hfs⟩ := DataW.trod_struct Tryz.underlying70 h
    match xs, hlen with
    | [y0, y1, y2], _ =>
      have t0 := hfs 0 _ rfl
      have t1 := hfs 1 _ rfl
      have t2 := hfs 2 _ rfl
      simp only [List.getElem_toArray, List.getElem_cons_zero, List.getElem_cons_succ, hc_0, hc_1, hc_2, List.drop_zero, List.drop_succ_cons, List.take_succ_cons, List.take_zero, List.getElem?_cons_zero, List.getElem?_cons_succ] at t0 t1 t2
      obtain ⟨d0, e0, -, w0⟩ := DataW.trod_int Tryz.underlying22 t0
      obtain ⟨b0, rfl⟩ := nat_u64 w0
      obtain ⟨b1, e1, -, w1⟩ := DataW.trod_int Tryz.underlying3 t1
      obtain ⟨b2, e2, -, w2⟩ := DataW.trod_int Tryz.underlying2 t2
      simp only [List.cons.injEq, and_true] at e0 e1 e2
      subst e0 e1 e2
      exact ⟨⟨b0, b1, b2⟩, by simp [Tm.c], lt_u64 w0, fun _ => trivial⟩

set_option maxRecDepth 100000 in
set_option maxHeartbeats 1000000 in
theorem elemSbB {m0 : Nat} {H : Type} {enc : TypeId × Value → H} {W : World} (fuel : Nat) (cs : List Value) (y : DataW H × List MemPlace) (hl : cs.length = 6) (h : DataW.trod enc Tryz.prog W 0 (fun _ => true) true fuel 107 cs = some y) : ∃ x : Sb, cs = Sb.c x ∧ (x.token < 18446744073709551616) ∧ (Rows.uptoBulk y.1 ≤ m0 → (True)) := by
  have hc_0 : Tryz.prog.cellsOf 4 = 1 := by kernel_rfl
  have hc_1 : Tryz.prog.cellsOf 3 = 1 := by kernel_rfl
  have hc_2 : Tryz.prog.cellsOf 9 = 1 := by kernel_rfl
  have hc_3 : Tryz.prog.cellsOf 22 = 1 := by kernel_rfl
  match cs, hl with
  | [z0, z1, z2, z3, z4, z5], _ =>
    obtain ⟨xs, k, _, hD, _, hlen, hfs⟩ := DataW.trod_struct Tryz.underlying107 h
    match xs, hlen with
    | [y0, y1, y2, y3, y4, y5], _ =>
      have t0 := hfs 0 _ rfl
      have t1 := hfs 1 _ rfl
      have t2 := hfs 2 _ rfl
      have t3 := hfs 3 _ rfl
      have t4 := hfs 4 _ rfl
      have t5 := hfs 5 _ rfl
      simp only [List.getElem_toArray, List.getElem_cons_zero, List.getElem_cons_succ, hc_0, hc_1, hc_2, hc_3, List.drop_zero, List.drop_succ_cons, List.take_succ_cons, List.take_zero, List.getElem?_cons_zero, List.getElem?_cons_succ] at t0 t1 t2 t3 t4 t5
      obtain ⟨d0, e0, -, w0⟩ := DataW.trod_int Tryz.underlying22 t0
      obtain ⟨b0, rfl⟩ := nat_u64 w0
      obtain ⟨d1, e1, -, w1⟩ := DataW.trod_int Tryz.underlying22 t1
      obtain ⟨b1, rfl⟩ := nat_u64 w1
      obtain ⟨b2, e2, -, w2⟩ := DataW.trod_int Tryz.underlying3 t2
      obtain ⟨b3, e3, -, -⟩ := DataW.trod_string Tryz.underlying9 t3
      obtain ⟨b4, e4, -, -⟩ := DataW.trod_string Tryz.underlying9 t4
      obtain ⟨b5, e5, -⟩ := DataW.trod_bool Tryz.underlying4 t5
      simp only [List.cons.injEq, and_true] at e0 e1 e2 e3 e4 e5
      subst e0 e1 e2 e3 e4 e5
      exact ⟨⟨b0, b1, b2, b3.data.toList, b4.data.toList, b5⟩, by simp [Sb.c, S_of], lt_u64 w0, fun _ => trivial⟩

set_option maxRecDepth 100000 in
set_option maxHeartbeats 1000000 in
theorem elemKpB {m0 : Nat} {H : Type} {enc : TypeId × Value → H} {W : World} (fuel : Nat) (cs : List Value) (y : DataW H × List MemPlace) (hl : cs.length = 3) (h : DataW.trod enc Tryz.prog W 0 (fun _ => true) true fuel 110 cs = some y) : ∃ x : Kp, cs = Kp.c x ∧ (True) ∧ (Rows.uptoBulk y.1 ≤ m0 → (True)) := by
  have hc_0 : Tryz.prog.cellsOf 3 = 1 := by kernel_rfl
  have hc_1 : Tryz.prog.cellsOf 22 = 1 := by kernel_rfl
  match cs, hl with
  | [z0, z1, z2], _ =>
    obtain ⟨xs, k, _, hD, _, hlen, hfs⟩ := DataW.trod_struct Tryz.underlying110 h
    match xs, hlen with
    | [y0, y1, y2], _ =>
      have t0 := hfs 0 _ rfl
      have t1 := hfs 1 _ rfl
      have t2 := hfs 2 _ rfl
      simp only [List.getElem_toArray, List.getElem_cons_zero, List.getElem_cons_succ, hc_0, hc_1, List.drop_zero, List.drop_succ_cons, List.take_succ_cons, List.take_zero, List.getElem?_cons_zero, List.getElem?_cons_succ] at t0 t1 t2
      obtain ⟨d0, e0, -, w0⟩ := DataW.trod_int Tryz.underlying22 t0
      obtain ⟨b0, rfl⟩ := nat_u64 w0
      obtain ⟨d1, e1, -, w1⟩ := DataW.trod_int Tryz.underlying22 t1
      obtain ⟨b1, rfl⟩ := nat_u64 w1
      obtain ⟨b2, e2, -, w2⟩ := DataW.trod_int Tryz.underlying3 t2
      simp only [List.cons.injEq, and_true] at e0 e1 e2
      subst e0 e1 e2
      exact ⟨⟨b0, b1, b2⟩, by simp [Kp.c], trivial, fun _ => trivial⟩

set_option maxRecDepth 100000 in
set_option maxHeartbeats 1000000 in
theorem elemLsB {m0 : Nat} {H : Type} {enc : TypeId × Value → H} {W : World} (fuel : Nat) (cs : List Value) (y : DataW H × List MemPlace) (hl : cs.length = 7) (h : DataW.trod enc Tryz.prog W 0 (fun _ => true) true fuel 113 cs = some y) : ∃ x : Ls, cs = Ls.c x ∧ (Rr 4 Vr.c W x.vv x.vars) ∧ (Rows.uptoBulk y.1 ≤ m0 → (x.vars.length ≤ m0)) := by
  have hc_0 : Tryz.prog.cellsOf 61 = 1 := by kernel_rfl
  have hc_1 : Tryz.prog.cellsOf 3 = 1 := by kernel_rfl
  have hc_2 : Tryz.prog.cellsOf 9 = 1 := by kernel_rfl
  have hc_3 : Tryz.prog.cellsOf 22 = 1 := by kernel_rfl
  match cs, hl with
  | [z0, z1, z2, z3, z4, z5, z6], _ =>
    obtain ⟨xs, k, _, hD, _, hlen, hfs⟩ := DataW.trod_struct Tryz.underlying113 h
    match xs, hlen with
    | [y0, y1, y2, y3, y4, y5, y6], _ =>
      have t0 := hfs 0 _ rfl
      have t1 := hfs 1 _ rfl
      have t2 := hfs 2 _ rfl
      have t3 := hfs 3 _ rfl
      have t4 := hfs 4 _ rfl
      have t5 := hfs 5 _ rfl
      have t6 := hfs 6 _ rfl
      simp only [List.getElem_toArray, List.getElem_cons_zero, List.getElem_cons_succ, hc_0, hc_1, hc_2, hc_3, List.drop_zero, List.drop_succ_cons, List.take_succ_cons, List.take_zero, List.getElem?_cons_zero, List.getElem?_cons_succ] at t0 t1 t2 t3 t4 t5 t6
      obtain ⟨d0, e0, -, w0⟩ := DataW.trod_int Tryz.underlying22 t0
      obtain ⟨b0, rfl⟩ := nat_u64 w0
      obtain ⟨d1, e1, -, w1⟩ := DataW.trod_int Tryz.underlying22 t1
      obtain ⟨b1, rfl⟩ := nat_u64 w1
      obtain ⟨b2, e2, -, w2⟩ := DataW.trod_int Tryz.underlying3 t2
      obtain ⟨b3, e3, -, -⟩ := DataW.trod_string Tryz.underlying9 t3
      obtain ⟨b4, e4, -, -⟩ := DataW.trod_string Tryz.underlying9 t4
      obtain ⟨d5, e5, -, w5⟩ := DataW.trod_int Tryz.underlying22 t5
      obtain ⟨b5, rfl⟩ := nat_u64 w5
      obtain ⟨v6, l6, e6, r6, s6⟩ := openVrB t6
      simp only [List.cons.injEq, and_true] at e0 e1 e2 e3 e4 e5 e6
      subst e0 e1 e2 e3 e4 e5 e6
      refine ⟨⟨b0, b1, b2, b3.data.toList, b4.data.toList, b5, z6, l6⟩, by simp [Ls.c, S_of], r6, fun hw => ?_⟩
      have hd : y.1 = .agg [y0.1, y1.1, y2.1, y3.1, y4.1, y5.1, y6.1] := congrArg Prod.fst hD
      rw [hd] at hw
      simp only [Rows.uptoBulk, Rows.uptoBulkAll] at hw
      exact s6 (by omega)

set_option maxRecDepth 100000 in
set_option maxHeartbeats 1000000 in
theorem elemMsB {m0 : Nat} {H : Type} {enc : TypeId × Value → H} {W : World} (fuel : Nat) (cs : List Value) (y : DataW H × List MemPlace) (hl : cs.length = 7) (h : DataW.trod enc Tryz.prog W 0 (fun _ => true) true fuel 74 cs = some y) : ∃ x : Ms, cs = Ms.c x ∧ (Rr 4 Vr.c W x.vv x.vars ∧ Rr 1 Un.c W x.iv x.its) ∧ (Rows.uptoBulk y.1 ≤ m0 → (x.vars.length ≤ m0 ∧ x.its.length ≤ m0)) := by
  have hc_0 : Tryz.prog.cellsOf 61 = 1 := by kernel_rfl
  have hc_1 : Tryz.prog.cellsOf 72 = 1 := by kernel_rfl
  have hc_2 : Tryz.prog.cellsOf 2 = 1 := by kernel_rfl
  have hc_3 : Tryz.prog.cellsOf 9 = 1 := by kernel_rfl
  have hc_4 : Tryz.prog.cellsOf 22 = 1 := by kernel_rfl
  match cs, hl with
  | [z0, z1, z2, z3, z4, z5, z6], _ =>
    obtain ⟨xs, k, _, hD, _, hlen, hfs⟩ := DataW.trod_struct Tryz.underlying74 h
    match xs, hlen with
    | [y0, y1, y2, y3, y4, y5, y6], _ =>
      have t0 := hfs 0 _ rfl
      have t1 := hfs 1 _ rfl
      have t2 := hfs 2 _ rfl
      have t3 := hfs 3 _ rfl
      have t4 := hfs 4 _ rfl
      have t5 := hfs 5 _ rfl
      have t6 := hfs 6 _ rfl
      simp only [List.getElem_toArray, List.getElem_cons_zero, List.getElem_cons_succ, hc_0, hc_1, hc_2, hc_3, hc_4, List.drop_zero, List.drop_succ_cons, List.take_succ_cons, List.take_zero, List.getElem?_cons_zero, List.getElem?_cons_succ] at t0 t1 t2 t3 t4 t5 t6
      obtain ⟨d0, e0, -, w0⟩ := DataW.trod_int Tryz.underlying22 t0
      obtain ⟨b0, rfl⟩ := nat_u64 w0
      obtain ⟨b1, e1, -, -⟩ := DataW.trod_string Tryz.underlying9 t1
      obtain ⟨b2, e2, -, -⟩ := DataW.trod_string Tryz.underlying9 t2
      obtain ⟨b3, e3, -, -⟩ := DataW.trod_string Tryz.underlying9 t3
      obtain ⟨b4, e4, -, w4⟩ := DataW.trod_int Tryz.underlying2 t4
      obtain ⟨v5, l5, e5, r5, s5⟩ := openVrB t5
      obtain ⟨v6, l6, e6, r6, s6⟩ := openUnB t6
      simp only [List.cons.injEq, and_true] at e0 e1 e2 e3 e4 e5 e6
      subst e0 e1 e2 e3 e4 e5 e6
      refine ⟨⟨b0, b1.data.toList, b2.data.toList, b3.data.toList, b4, z5, z6, l5, l6⟩, by simp [Ms.c, S_of], ⟨r5, r6⟩, fun hw => ?_⟩
      have hd : y.1 = .agg [y0.1, y1.1, y2.1, y3.1, y4.1, y5.1, y6.1] := congrArg Prod.fst hD
      rw [hd] at hw
      simp only [Rows.uptoBulk, Rows.uptoBulkAll] at hw
      exact ⟨s5 (by omega), s6 (by omega)⟩

set_option maxRecDepth 100000 in
set_option maxHeartbeats 2000000 in
/-- an argument that is a state -/
theorem openStateB {m0 : Nat} {H : Type} {enc : TypeId × Value → H} {W : World} {v : Value} {d : DataW H} {p : List MemPlace} {base : Nat} (hok : Value.okWide Tryz.prog W .any base 33 v)
    (h : DataW.Trod enc Tryz.prog W 0 (fun _ => true) true 33 v d p) : ∃ s : St, v = .agg s.c.toArray ∧ Sv W s ∧ Kr s ∧ (Rows.uptoBulk d ≤ m0 → Sb0 m0 s) := by
  have hc4 : Tryz.prog.cellsOf 22 = 1 := by kernel_rfl
  have hcDe : Tryz.prog.cellsOf 23 = 1 := by kernel_rfl
  have hcIn : Tryz.prog.cellsOf 24 = 1 := by kernel_rfl
  have hcTk : Tryz.prog.cellsOf 25 = 1 := by kernel_rfl
  have hcJb : Tryz.prog.cellsOf 26 = 1 := by kernel_rfl
  have hcTm : Tryz.prog.cellsOf 27 = 1 := by kernel_rfl
  have hcSb : Tryz.prog.cellsOf 28 = 1 := by kernel_rfl
  have hcKp : Tryz.prog.cellsOf 29 = 1 := by kernel_rfl
  have hcLs : Tryz.prog.cellsOf 30 = 1 := by kernel_rfl
  have hcMs : Tryz.prog.cellsOf 31 = 1 := by kernel_rfl
  obtain ⟨cs, rfl, hsz⟩ := okWide_struct Tryz.underlying33 hok
  have hC : Tryz.prog.cellsOf 33 = 12 := by kernel_rfl
  obtain ⟨fuel, hf⟩ := h
  have hl : cs.toList.length = 12 := by rw [Array.length_toList, hsz, hC]
  have hcs : cs = cs.toList.toArray := by simp
  obtain ⟨z0, z1, z2, z3, z4, z5, z6, z7, z8, z9, z10, z11, hz⟩ : ∃ z0 z1 z2 z3 z4 z5 z6 z7 z8 z9 z10 z11, cs.toList = [z0, z1, z2, z3, z4, z5, z6, z7, z8, z9, z10, z11] := by
    match hq : cs.toList, hl with
    | [a0, a1, a2, a3, a4, a5, a6, a7, a8, a9, a10, a11], _ => exact ⟨a0, a1, a2, a3, a4, a5, a6, a7, a8, a9, a10, a11, rfl⟩
  change DataW.trod enc Tryz.prog W 0 (fun _ => true) true fuel 33 cs.toList = some (d, p) at hf
  rw [hz] at hf hcs
  subst hcs
  obtain ⟨xs, k, _, hD, _, hlen, hfs⟩ := DataW.trod_struct Tryz.underlying33 hf
  match xs, hlen with
  | [y0, y1, y2, y3, y4, y5, y6, y7, y8, y9, y10, y11], _ =>
    have t0 := hfs 0 _ rfl
    have t1 := hfs 1 _ rfl
    have t2 := hfs 2 _ rfl
    have t3 := hfs 3 _ rfl
    have t4 := hfs 4 _ rfl
    have t5 := hfs 5 _ rfl
    have t6 := hfs 6 _ rfl
    have t7 := hfs 7 _ rfl
    have t8 := hfs 8 _ rfl
    have t9 := hfs 9 _ rfl
    have t10 := hfs 10 _ rfl
    have t11 := hfs 11 _ rfl
    simp only [List.getElem_toArray, List.getElem_cons_zero, List.getElem_cons_succ, hc4, hcDe, hcIn, hcTk, hcJb, hcTm, hcSb, hcKp, hcLs, hcMs, List.drop_zero, List.drop_succ_cons, List.take_succ_cons, List.take_zero, List.getElem?_cons_zero, List.getElem?_cons_succ] at t0 t1 t2 t3 t4 t5 t6 t7 t8 t9 t10 t11
    obtain ⟨d0, e0, -, w0⟩ := DataW.trod_int Tryz.underlying22 t0
    obtain ⟨b0, rfl⟩ := nat_u64 w0
    obtain ⟨d1, e1, -, w1⟩ := DataW.trod_int Tryz.underlying22 t1
    obtain ⟨b1, rfl⟩ := nat_u64 w1
    obtain ⟨d2, e2, -, w2⟩ := DataW.trod_int Tryz.underlying22 t2
    obtain ⟨b2, rfl⟩ := nat_u64 w2
    obtain ⟨vDe, lDe, e3, rDe, qDe, sDe⟩ := openRowsB (m0 := m0) (α := De) (Q := fun x => True) (R := fun x => True) De.k Tryz.underlying23 (by kernel_rfl) (by omega) elemDeB t3
    obtain ⟨vIn, lIn, e4, rIn, qIn, sIn⟩ := openRowsB (m0 := m0) (α := In) (Q := fun x => Rr 4 Vr.c W x.vv x.vars) (R := fun x => x.vars.length ≤ m0) In.k Tryz.underlying24 (by kernel_rfl) (by omega) elemInB t4
    obtain ⟨vTk, lTk, e5, rTk, qTk, sTk⟩ := openRowsB (m0 := m0) (α := Tk) (Q := fun x => x.key < 18446744073709551616) (R := fun x => True) Tk.k Tryz.underlying25 (by kernel_rfl) (by omega) elemTkB t5
    obtain ⟨vJb, lJb, e6, rJb, qJb, sJb⟩ := openRowsB (m0 := m0) (α := Jb) (Q := fun x => x.token < 18446744073709551616) (R := fun x => True) Jb.k Tryz.underlying26 (by kernel_rfl) (by omega) elemJbB t6
    obtain ⟨vTm, lTm, e7, rTm, qTm, sTm⟩ := openRowsB (m0 := m0) (α := Tm) (Q := fun x => x.token < 18446744073709551616) (R := fun x => True) Tm.k Tryz.underlying27 (by kernel_rfl) (by omega) elemTmB t7
    obtain ⟨vSb, lSb, e8, rSb, qSb, sSb⟩ := openRowsB (m0 := m0) (α := Sb) (Q := fun x => x.token < 18446744073709551616) (R := fun x => True) Sb.k Tryz.underlying28 (by kernel_rfl) (by omega) elemSbB t8
    obtain ⟨vKp, lKp, e9, rKp, qKp, sKp⟩ := openRowsB (m0 := m0) (α := Kp) (Q := fun x => True) (R := fun x => True) Kp.k Tryz.underlying29 (by kernel_rfl) (by omega) elemKpB t9
    obtain ⟨vLs, lLs, e10, rLs, qLs, sLs⟩ := openRowsB (m0 := m0) (α := Ls) (Q := fun x => Rr 4 Vr.c W x.vv x.vars) (R := fun x => x.vars.length ≤ m0) Ls.k Tryz.underlying30 (by kernel_rfl) (by omega) elemLsB t10
    obtain ⟨vMs, lMs, e11, rMs, qMs, sMs⟩ := openRowsB (m0 := m0) (α := Ms) (Q := fun x => Rr 4 Vr.c W x.vv x.vars ∧ Rr 1 Un.c W x.iv x.its) (R := fun x => x.vars.length ≤ m0 ∧ x.its.length ≤ m0) Ms.k Tryz.underlying31 (by kernel_rfl) (by omega) elemMsB t11
    simp only [List.cons.injEq, and_true] at e0 e1 e2 e3 e4 e5 e6 e7 e8 e9 e10 e11
    subst e0 e1 e2 e3 e4 e5 e6 e7 e8 e9 e10 e11
    refine ⟨⟨b0, b1, b2, z3, lDe, z4, lIn, z5, lTk, z6, lJb, z7, lTm, z8, lSb, z9, lKp, z10, lLs, z11, lMs⟩, rfl, ⟨rDe, rIn, rTk, rJb, rTm, rSb, rKp, rLs, rMs, qIn, qLs, fun x hx => (qMs x hx).1, fun x hx => (qMs x hx).2⟩, ⟨qTk, qJb, qTm, qSb⟩, fun hw => ?_⟩
    have hd : d = .agg [y0.1, y1.1, y2.1, y3.1, y4.1, y5.1, y6.1, y7.1, y8.1, y9.1, y10.1, y11.1] := congrArg Prod.fst hD
    rw [hd] at hw
    simp only [Rows.uptoBulk, Rows.uptoBulkAll] at hw
    have uDe := sDe (by omega)
    have uIn := sIn (by omega)
    have uTk := sTk (by omega)
    have uJb := sJb (by omega)
    have uTm := sTm (by omega)
    have uSb := sSb (by omega)
    have uKp := sKp (by omega)
    have uLs := sLs (by omega)
    have uMs := sMs (by omega)
    exact ⟨uDe.1, uIn.1, uTk.1, uJb.1, uTm.1, uSb.1, uKp.1, uLs.1, uMs.1, uIn.2, uLs.2, fun x hx => (uMs.2 x hx).1, fun x hx => (uMs.2 x hx).2⟩

end Go.Proofs.YthmfcloecmnfnaaGreat.f13

/-
  What an argument that is a slice of rows (a text, an int each), or a slice of such slices, gives to a walk where the arguments are of bounded bulk.
-/
import Derived.Test.YtlhijbgdccejbaaRows
import Derived.Test.YtlhijbgdccejbaaM3Ref
import Derived.ProofKit
import Derived.OpenShut
import Derived.Deep.Slices
import Derived.Deep.Strs
namespace Go.Proofs.Ytlhijbgdccejbaa
open Go.ChangeShapes Go.WideShapes Go.ChangeAt Go.RowKit

theorem bulk_mem {H : Type} {l : List (DataW H)} {x : DataW H} (h : x ∈ l) : Rows.uptoBulk x ≤ Rows.uptoBulkAll l := by
  induction l with
  | nil => cases h
  | cons y r ih =>
    simp only [Rows.uptoBulkAll]
    rcases List.mem_cons.1 h with rfl | h
    · omega
    · have := ih h; omega
theorem bulk_count {H : Type} (l : List (DataW H)) : l.length ≤ Rows.uptoBulkAll l := by
  induction l with
  | nil => simp
  | cons x r ih =>
    have h1 : 1 ≤ Rows.uptoBulk x := by
      cases x with
      | lit y => cases y <;> simp [Rows.uptoBulk]
      | nil => simp [Rows.uptoBulk]
      | ptr d => simp [Rows.uptoBulk]
      | slice elems spare => simp [Rows.uptoBulk]
      | agg parts => simp [Rows.uptoBulk]
      | iface t d => simp [Rows.uptoBulk]
      | map entries => simp [Rows.uptoBulk]
      | held h => simp [Rows.uptoBulk]
    simp only [Rows.uptoBulkAll, List.length_cons]
    omega

set_option maxRecDepth 100000 in
theorem openRowsF {H : Type} {enc : TypeId × Value → H} {W : World} {a0 : Option Addr} {len0 cap0 fuel : Nat} {x : DataW H × List MemPlace}
    (hf : DataW.trod enc Try.prog W 0 (fun _ => true) true fuel 29 (Value.slice a0 len0 cap0).cells.toList = some x) : ∃ l : List Ent, Rw W (.slice a0 len0 cap0) l ∧ l.length ≤ Rows.uptoBulk x.1 ∧ ∀ e ∈ l, e.1.size ≤ Rows.uptoBulk x.1 := by
  have hc3 : Try.prog.cellsOf 32 = 2 := by kernel_rfl
  have hc1 : Try.prog.cellsOf 3 = 1 := by kernel_rfl
  have hc2 : Try.prog.cellsOf 9 = 1 := by kernel_rfl
  rcases Deep.open_slice Try.underlying29 hf with ⟨hcs, hx⟩ | ⟨x', l', c', m, n, D, Pl, hcs, _, hl, hm, hmm, hx, hall⟩
  · simp [Value.cells] at hcs
    obtain ⟨rfl, rfl, rfl⟩ := hcs
    exact ⟨[], ⟨none, 0, rfl, .inl rfl⟩, by simp, by simp⟩
  · simp [Value.cells] at hcs
    obtain ⟨rfl, rfl, rfl⟩ := hcs
    subst hx
    have hmc : m = cap0 := by simpa using hmm
    have each : ∀ i, i < len0 → ∃ t : Ent, (W.cell? (x'.add (i * 2 + 0)) = some (.string t.1) ∧ W.cell? (x'.add (i * 2 + 1)) = some (.int .i64 t.2)) ∧ t.1.size ≤ Rows.uptoBulk (D i) := by
      intro i hi
      obtain ⟨cs, h1, h2⟩ := hall i (by omega)
      rw [hc3] at h1
      obtain ⟨_, hlen, hcell⟩ := World.cells?_some h1
      match cs, hlen with
      | [z0, z1], _ =>
        obtain ⟨y0, y1, k, hD, _, t0, t1⟩ := trod_struct2 Try.underlying32 h2
        simp only [hc1, hc2, List.drop_zero, List.drop_succ_cons, List.take_succ_cons, List.take_zero] at t0 t1
        obtain ⟨b0, e0, x0, w0⟩ := DataW.trod_string Try.underlying9 t0
        obtain ⟨b1, e1, _, w1⟩ := DataW.trod_int Try.underlying3 t1
        simp at e0 e1
        subst e0 e1
        have c0 := hcell 0 (by omega)
        have c1 := hcell 1 (by omega)
        rw [Addr.add_add] at c0 c1
        refine ⟨(b0, b1), ⟨c0, c1⟩, ?_⟩
        simp only [Prod.mk.injEq] at hD
        rw [hD.1, x0]
        have : b0.data.toList.length = b0.size := by simp
        simp only [Rows.uptoBulk, Rows.uptoBulkAll]
        omega
    obtain ⟨X, hX⟩ := Deep.choose_lt each
    have hlen : ((List.range len0).map X).length = len0 := by simp
    have hcount := bulk_count ((List.range len0).map D)
    refine ⟨(List.range len0).map X, ⟨some x', cap0, by rw [hlen], ?_⟩, by simp [Rows.uptoBulk] at hcount ⊢; omega, fun e he => ?_⟩
    · by_cases h0 : len0 = 0
      · left; subst h0; simp
      · right
        have hc := (hX 0 (by omega)).1.1
        obtain ⟨b, off, spot⟩ := x'
        have hspot : spot = none := by simpa [Addr.add] using World.cell?_spot hc
        subst hspot
        refine ⟨b, off, rfl, ?_, fun j hj => ?_⟩
        · rw [Addr.add_lit] at hc
          exact World.block_lt_of_cell? _ _ hc
        · rw [hlen] at hj
          have hj3 := (hX j hj).1
          simp only [Addr.add_lit] at hj3
          simpa [Nat.add_assoc] using hj3
    · obtain ⟨j, hj, rfl⟩ := List.mem_map.1 he
      have h1 := (hX j (List.mem_range.1 hj)).2
      have h2 := bulk_mem (l := (List.range len0).map D) (x := D j) (List.mem_map.2 ⟨j, hj, rfl⟩)
      simp only [Rows.uptoBulk]
      omega

set_option maxRecDepth 100000 in
theorem openRows {H : Type} {enc : TypeId × Value → H} {W : World} {v : Value} {d : DataW H} {p : List MemPlace} {base : Nat} (hok : Value.okWide Try.prog W .any base 29 v)
    (h : DataW.Trod enc Try.prog W 0 (fun _ => true) true 29 v d p) : ∃ l : List Ent, Rw W v l ∧ l.length ≤ Rows.uptoBulk d ∧ ∀ e ∈ l, e.1.size ≤ Rows.uptoBulk d := by
  obtain ⟨a0, len0, cap0, rfl⟩ := okWide_slice Try.underlying29 hok
  obtain ⟨fuel, hf⟩ := h
  exact openRowsF (x := (d, p)) hf

theorem sum_bulk {H : Type} (D : Nat → DataW H) (X : Nat → List Ent) (n : Nat) (h : ∀ i, i < n → (X i).length ≤ Rows.uptoBulk (D i)) : (((List.range n).map X).map (·.length)).sum ≤ Rows.uptoBulkAll ((List.range n).map D) := by
  have hal : ∀ (l : List Nat), (∀ i ∈ l, (X i).length ≤ Rows.uptoBulk (D i)) → ((l.map X).map (·.length)).sum ≤ Rows.uptoBulkAll (l.map D) := by
    intro l
    induction l with
    | nil => intro _; simp
    | cons i r ih =>
      intro hi
      have h1 := hi i (by simp)
      have h2 := ih (fun j hj => hi j (by simp [hj]))
      simp only [List.map_cons, List.sum_cons, Rows.uptoBulkAll]
      omega
  exact hal _ (fun i hi => h i (List.mem_range.1 hi))

set_option maxRecDepth 100000 in
/-- a slice of slices of rows -/
theorem openRowss {H : Type} {enc : TypeId × Value → H} {W : World} {v : Value} {d : DataW H} {p : List MemPlace} {base : Nat} (hok : Value.okWide Try.prog W .any base 22 v)
    (h : DataW.Trod enc Try.prog W 0 (fun _ => true) true 22 v d p) : ∃ ls : List (List Ent), Rws W v ls ∧ ls.length ≤ Rows.uptoBulk d ∧ (ls.map (·.length)).sum ≤ Rows.uptoBulk d ∧ ∀ l ∈ ls, l.length ≤ Rows.uptoBulk d ∧ ∀ e ∈ l, e.1.size ≤ Rows.uptoBulk d := by
  obtain ⟨a0, len0, cap0, rfl⟩ := okWide_slice Try.underlying22 hok
  obtain ⟨fuel, hf⟩ := h
  have hc1 : Try.prog.cellsOf 29 = 1 := by kernel_rfl
  rcases Deep.open_slice Try.underlying22 hf with ⟨hcs, hx⟩ | ⟨x', l', c', m, n, D, Pl, hcs, _, hl, hm, hmm, hx, hall⟩
  · simp [Value.cells] at hcs
    obtain ⟨rfl, rfl, rfl⟩ := hcs
    exact ⟨[], ⟨none, 0, rfl, .inl rfl⟩, by simp, by simp, by simp⟩
  · simp [Value.cells] at hcs
    obtain ⟨rfl, rfl, rfl⟩ := hcs
    simp only [Prod.mk.injEq] at hx
    obtain ⟨rfl, rfl⟩ := hx
    have hmc : m = cap0 := by simpa using hmm
    have each : ∀ i, i < len0 → ∃ t : List Ent, (∃ u, W.cell? (x'.add i) = some u ∧ Rw W u t) ∧ t.length ≤ Rows.uptoBulk (D i) ∧ ∀ e ∈ t, e.1.size ≤ Rows.uptoBulk (D i) := by
      intro i hi
      obtain ⟨cs, h1, h2⟩ := hall i (by omega)
      rw [hc1] at h1
      obtain ⟨_, hlen, hcell⟩ := World.cells?_some h1
      match cs, hlen with
      | [z0], _ =>
        have c0 := hcell 0 (by omega)
        rw [Addr.add_add] at c0
        have c0' : W.cell? (x'.add i) = some z0 := by simpa using c0
        rcases Deep.open_slice Try.underlying29 h2 with ⟨hz, _⟩ | ⟨x2, l2, c2, m2, n2, D2, Pl2, hz, _⟩
        · simp at hz
          subst hz
          obtain ⟨t, r1, r2, r3⟩ := openRowsF (a0 := none) (len0 := 0) (cap0 := 0) h2
          exact ⟨t, ⟨_, c0', r1⟩, r2, r3⟩
        · simp at hz
          subst hz
          obtain ⟨t, r1, r2, r3⟩ := openRowsF (a0 := some x2) (len0 := l2) (cap0 := c2) h2
          exact ⟨t, ⟨_, c0', r1⟩, r2, r3⟩
    obtain ⟨X, hX⟩ := Deep.choose_lt each
    have hlen : ((List.range len0).map X).length = len0 := by simp
    have hcount := bulk_count ((List.range len0).map D)
    have hsum := sum_bulk D X len0 (fun i hi => (hX i hi).2.1)
    refine ⟨(List.range len0).map X, ⟨some x', cap0, by rw [hlen], ?_⟩, by simp [Rows.uptoBulk] at hcount ⊢; omega, by simp only [Rows.uptoBulk]; omega, fun l hl => ?_⟩
    · by_cases h0 : len0 = 0
      · left; subst h0; simp
      · right
        obtain ⟨u0, hc, _⟩ := (hX 0 (by omega)).1
        obtain ⟨b, off, spot⟩ := x'
        have hspot : spot = none := by simpa [Addr.add] using World.cell?_spot hc
        subst hspot
        refine ⟨b, off, rfl, ?_, fun j hj => ?_⟩
        · rw [Addr.add_lit] at hc
          exact World.block_lt_of_cell? _ _ hc
        · rw [hlen] at hj
          obtain ⟨u, h1, h2⟩ := (hX j hj).1
          rw [Addr.add_lit] at h1
          exact ⟨u, h1, by simpa using h2⟩
    · obtain ⟨j, hj, rfl⟩ := List.mem_map.1 hl
      obtain ⟨_, h1, h3⟩ := hX j (List.mem_range.1 hj)
      have h2 := bulk_mem (l := (List.range len0).map D) (x := D j) (List.mem_map.2 ⟨j, hj, rfl⟩)
      simp only [Rows.uptoBulk]
      exact ⟨by omega, fun e he => by have := h3 e he; omega⟩

theorem own : ownKnob Try.prog.godebug = none := by kernel_rfl
theorem laidOut : laidOutB Try.prog = true := by kernel_rfl
end Go.Proofs.Ytlhijbgdccejbaa

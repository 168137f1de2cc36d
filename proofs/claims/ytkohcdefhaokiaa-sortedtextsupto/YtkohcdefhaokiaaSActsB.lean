/-
  What an argument that is a slice of acts gives to a walk where the arguments are of bounded bulk.
-/
import Derived.Test.YtkohcdefhaokiaaSActs
namespace Go.Proofs.Ytkohcdefhaokiaa
open Go.ChangeShapes Go.WideShapes Go.ChangeAt Go.RowKit

theorem bulk_mem {H : Type} {l : List (DataW H)} {x : DataW H} (h : x ∈ l) : Rows.uptoBulk x ≤ Rows.uptoBulkAll l := by
  induction l with
  | nil => cases h
  | cons y r ih =>
    simp only [Rows.uptoBulkAll]
    rcases List.mem_cons.1 h with rfl | h
    · omega
    · have := ih h; omega
theorem bulk_count {H : Type} (l : List (DataW H)) : l.length ≤ Rows.uptoBulkAll l := by
  induction l with
  | nil => simp
  | cons x r ih =>
    have h1 : 1 ≤ Rows.uptoBulk x := by
      cases x with
      | lit y => cases y <;> simp [Rows.uptoBulk]
      | nil => simp [Rows.uptoBulk]
      | ptr d => simp [Rows.uptoBulk]
      | slice elems spare => simp [Rows.uptoBulk]
      | agg parts => simp [Rows.uptoBulk]
      | iface t d => simp [Rows.uptoBulk]
      | map entries => simp [Rows.uptoBulk]
      | held h => simp [Rows.uptoBulk]
    simp only [Rows.uptoBulkAll, List.length_cons]
    omega

set_option maxRecDepth 100000 in
theorem openActsB {H : Type} {enc : TypeId × Value → H} {W : World} {v : Value} {d : DataW H} {p : List MemPlace} {base : Nat} (hok : Value.okWide Try.prog W .any base 22 v)
    (h : DataW.Trod enc Try.prog W 0 (fun _ => true) true 22 v d p) : ∃ q : List (Int × ByteArray × Int), Acts W v q ∧ q.length ≤ Rows.uptoBulk d ∧ ∀ (j : Nat) (t : Int × ByteArray × Int), q[j]? = some t → t.2.1.size ≤ Rows.uptoBulk d := by
  obtain ⟨a0, len0, cap0, rfl⟩ := okWide_slice Try.underlying22 hok
  obtain ⟨fuel, hf⟩ := h
  have hc3 : Try.prog.cellsOf 33 = 3 := by kernel_rfl
  have hc1 : Try.prog.cellsOf 3 = 1 := by kernel_rfl
  have hc2 : Try.prog.cellsOf 9 = 1 := by kernel_rfl
  rcases Deep.open_slice Try.underlying22 hf with ⟨hcs, hx⟩ | ⟨x, l, c, m, n, D, Pl, hcs, _, hl, hm, hmm, hx, hall⟩
  · simp [Value.cells] at hcs
    obtain ⟨rfl, rfl, rfl⟩ := hcs
    exact ⟨[], ⟨none, 0, rfl, .inl rfl⟩, by simp, by simp⟩
  · simp [Value.cells] at hcs
    obtain ⟨rfl, rfl, rfl⟩ := hcs
    simp only [Prod.mk.injEq] at hx
    obtain ⟨rfl, rfl⟩ := hx
    have hmc : m = cap0 := by simpa using hmm
    have each : ∀ i, i < len0 → ∃ t : Int × ByteArray × Int, (W.cell? (x.add (i * 3 + 0)) = some (.int .i64 t.1) ∧ W.cell? (x.add (i * 3 + 1)) = some (.string t.2.1) ∧ W.cell? (x.add (i * 3 + 2)) = some (.int .i64 t.2.2)) ∧ t.2.1.size ≤ Rows.uptoBulk (D i) := by
      intro i hi
      obtain ⟨cs, h1, h2⟩ := hall i (by omega)
      rw [hc3] at h1
      obtain ⟨_, hlen, hcell⟩ := World.cells?_some h1
      match cs, hlen with
      | [z0, z1, z2], _ =>
        obtain ⟨y0, y1, y2, k, hD, _, t0, t1, t2⟩ := Deep.trod_struct3 Try.underlying33 h2
        simp only [hc1, hc2, List.drop_zero, List.drop_succ_cons, List.take_succ_cons, List.take_zero] at t0 t1 t2
        obtain ⟨b0, e0, _, w0⟩ := DataW.trod_int Try.underlying3 t0
        obtain ⟨b1, e1, x1, w1⟩ := DataW.trod_string Try.underlying9 t1
        obtain ⟨b2, e2, _, w2⟩ := DataW.trod_int Try.underlying3 t2
        simp at e0 e1 e2
        subst e0 e1 e2
        have c0 := hcell 0 (by omega)
        have c1 := hcell 1 (by omega)
        have c2 := hcell 2 (by omega)
        rw [Addr.add_add] at c0 c1 c2
        refine ⟨(b0, b1, b2), ⟨c0, c1, c2⟩, ?_⟩
        simp only [Prod.mk.injEq] at hD
        rw [hD.1, x1]
        have : b1.data.toList.length = b1.size := by simp
        simp only [Rows.uptoBulk, Rows.uptoBulkAll]
        omega
    obtain ⟨X, hX⟩ := Deep.choose_lt each
    have hlen : ((List.range len0).map X).length = len0 := by simp
    have hget : ∀ j t, ((List.range len0).map X)[j]? = some t → j < len0 ∧ t = X j := fun j t hj => by
      obtain ⟨h1, h2⟩ := List.getElem?_eq_some_iff.1 hj
      simp at h1 h2
      exact ⟨h1, h2.symm⟩
    have hcount := bulk_count ((List.range len0).map D)
    refine ⟨(List.range len0).map X, ⟨some x, cap0, by rw [hlen], ?_⟩, by simp [Rows.uptoBulk] at hcount ⊢; omega, fun j t hj => ?_⟩
    · by_cases h0 : len0 = 0
      · left; subst h0; simp
      · right
        have hc := (hX 0 (by omega)).1.1
        obtain ⟨b, off, spot⟩ := x
        have hspot : spot = none := by simpa [Addr.add] using World.cell?_spot hc
        subst hspot
        refine ⟨b, off, rfl, ?_, fun j t hj => ?_⟩
        · rw [Addr.add_lit] at hc
          exact World.block_lt_of_cell? _ _ hc
        · obtain ⟨hj', rfl⟩ := hget j t hj
          have hj3 := (hX j hj').1
          simp only [Addr.add_lit] at hj3
          simpa [Nat.add_assoc] using hj3
    · obtain ⟨hj', rfl⟩ := hget j t hj
      have h1 := (hX j hj').2
      have h2 := bulk_mem (l := (List.range len0).map D) (x := D j) (List.mem_map.2 ⟨j, List.mem_range.2 hj', rfl⟩)
      simp only [Rows.uptoBulk]
      omega
end Go.Proofs.Ytkohcdefhaokiaa

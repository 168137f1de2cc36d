/-
  How values are ordered, plain; how two are held against each other.
-/
import Derived.Test.YtnelekbaniljkaaDoorV9Args
import Derived.Laws.StructEq
namespace Go.Proofs.YtnelekbaniljkaaDoor
open Go.RowKit Go.Shelf Go.Sort
open Go.Lib hiding intOf

theorem S_inj {a b : List UInt8} (h : S a = S b) : a = b := by
  have := congrArg ByteArray.toList h
  rwa [S_toList, S_toList] at this
theorem les_irrefl (a : V9) : lesV a a = false := by simp [lesV, lt_irrefl]
theorem les_asymm {a b : V9} (h : lesV a b = true) : lesV b a = false := by
  unfold lesV at h ⊢
  by_cases h1 : a.1 = b.1
  · rw [if_pos h1] at h; rw [if_pos h1.symm]
    by_cases h2 : a.2.1 = b.2.1
    · rw [if_pos h2] at h; rw [if_pos h2.symm]; exact lt_asymm h
    · rw [if_neg h2] at h; rw [if_neg (fun e => h2 e.symm)]
      have := of_decide_eq_true h
      exact decide_eq_false (by omega)
  · rw [if_neg h1] at h; rw [if_neg (fun e => h1 e.symm)]
    have := of_decide_eq_true h
    exact decide_eq_false (by omega)
theorem les_total {a b : V9} (h : lesV a b = false) (k : lesV b a = false) : a = b := by
  obtain ⟨a1, a2, a3⟩ := a
  obtain ⟨b1, b2, b3⟩ := b
  unfold lesV at h k
  simp only at h k
  by_cases h1 : a1 = b1
  · subst h1
    rw [if_pos rfl] at h k
    by_cases h2 : a2 = b2
    · subst h2
      rw [if_pos rfl] at h k
      rw [S_inj (lt_total h k)]
    · rw [if_neg h2] at h
      rw [if_neg (Ne.symm h2)] at k
      have := of_decide_eq_false h
      have := of_decide_eq_false k
      omega
  · rw [if_neg h1] at h
    rw [if_neg (Ne.symm h1)] at k
    have := of_decide_eq_false h
    have := of_decide_eq_false k
    omega
theorem les_trans {a b c : V9} (h : lesV a b = true) (k : lesV b c = true) : lesV a c = true := by
  obtain ⟨a1, a2, a3⟩ := a
  obtain ⟨b1, b2, b3⟩ := b
  obtain ⟨c1, c2, c3⟩ := c
  unfold lesV at h k ⊢
  simp only at h k ⊢
  by_cases h1 : a1 = b1
  · subst h1
    rw [if_pos rfl] at h
    by_cases k1 : a1 = c1
    · subst k1
      rw [if_pos rfl] at k ⊢
      by_cases h2 : a2 = b2
      · subst h2
        rw [if_pos rfl] at h
        by_cases k2 : a2 = c2
        · subst k2
          rw [if_pos rfl] at k ⊢
          exact lt_trans h k
        · rw [if_neg k2] at k ⊢; exact k
      · rw [if_neg h2] at h
        have h3 := of_decide_eq_true h
        by_cases k2 : b2 = c2
        · subst k2
          rw [if_neg h2]; exact h
        · rw [if_neg k2] at k
          have k3 := of_decide_eq_true k
          rw [if_neg (by omega)]; exact decide_eq_true (by omega)
    · rw [if_neg k1] at k ⊢; exact k
  · rw [if_neg h1] at h
    have h3 := of_decide_eq_true h
    by_cases k1 : b1 = c1
    · subst k1
      rw [if_neg h1]; exact h
    · rw [if_neg k1] at k
      have k3 := of_decide_eq_true k
      rw [if_neg (by omega)]; exact decide_eq_true (by omega)
/-- how two differ, as the walk asks it -/
theorem ne_ways {k j n m : Int} {s t : List UInt8} (h : (k, n, s) ≠ (j, m, t)) : ((k = j) = False) ∨ ((k = j) = True ∧ (n = m) = False) ∨ ((k = j) = True ∧ (n = m) = True ∧ ((S s).toList = (S t).toList) = False) := by
  by_cases h1 : k = j
  · by_cases h2 : n = m
    · refine .inr (.inr ⟨eq_true h1, eq_true h2, eq_false (fun e => ?_)⟩)
      rw [S_toList, S_toList] at e
      exact h (by rw [h1, h2, e])
    · exact .inr (.inl ⟨eq_true h1, eq_false h2⟩)
  · exact .inl (eq_false h1)
/-- two values in boxes -/
theorem box2 {W W' : World} {o1 o2 : Array Value} {T : TypeId} {n : Nat} (hn : n = W.heap.size) (h : Below ((W.alloc (.cells o1 T)).alloc (.cells o2 T)).heap.size ((W.alloc (.cells o1 T)).alloc (.cells o2 T)) W') : (∀ i, W'.cell? ⟨n, i, none⟩ = o1[i]?) ∧ (∀ i, W'.cell? ⟨n + 1, i, none⟩ = o2[i]?) := by
  subst hn
  have B2 : Below (W.alloc (.cells o1 T)).heap.size (W.alloc (.cells o1 T)) ((W.alloc (.cells o1 T)).alloc (.cells o2 T)) := (Below.refl _ _).alloc (Nat.le_refl _) _
  refine ⟨fun i => ?_, fun i => ?_⟩
  · exact (h.cell (p := ⟨W.heap.size, i, none⟩) (by simp; omega)).trans ((B2.cell (p := ⟨W.heap.size, i, none⟩) (by simp)).trans (World.cell?_alloc_new _ _ _ _))
  · have := World.cell?_alloc_new (W.alloc (.cells o1 T)) o2 T i
    rw [World.size_alloc] at this
    exact (h.cell (p := ⟨W.heap.size + 1, i, none⟩) (by simp)).trans this
theorem box3 {W W' : World} {o1 o2 o3 : Array Value} {T : TypeId} {n : Nat} (hn : n = W.heap.size) (h : Below (((W.alloc (.cells o1 T)).alloc (.cells o2 T)).alloc (.cells o3 T)).heap.size (((W.alloc (.cells o1 T)).alloc (.cells o2 T)).alloc (.cells o3 T)) W') : (∀ i, W'.cell? ⟨n, i, none⟩ = o1[i]?) ∧ (∀ i, W'.cell? ⟨n + 1, i, none⟩ = o2[i]?) ∧ (∀ i, W'.cell? ⟨n + 2, i, none⟩ = o3[i]?) := by
  subst hn
  have B3 : Below ((W.alloc (.cells o1 T)).alloc (.cells o2 T)).heap.size ((W.alloc (.cells o1 T)).alloc (.cells o2 T)) (((W.alloc (.cells o1 T)).alloc (.cells o2 T)).alloc (.cells o3 T)) := (Below.refl _ _).alloc (Nat.le_refl _) _
  have h2 := box2 (n := W.heap.size) rfl (B3.trans (h.mono B3.size))
  refine ⟨h2.1, h2.2, fun i => ?_⟩
  have := World.cell?_alloc_new ((W.alloc (.cells o1 T)).alloc (.cells o2 T)) o3 T i
  rw [World.size_alloc, World.size_alloc] at this
  exact (h.cell (p := ⟨W.heap.size + 2, i, none⟩) (by simp)).trans this
end Go.Proofs.YtnelekbaniljkaaDoor

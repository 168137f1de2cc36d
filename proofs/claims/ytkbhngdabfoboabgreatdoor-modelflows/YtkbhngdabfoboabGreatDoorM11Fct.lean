/-
  What is so of a process that may be.
-/
import Derived.Test.YtkbhngdabfoboabGreatDoorM11Chk
namespace Go.Proofs.YtkbhngdabfoboabGreatDoor.m11
open Go.Proofs.YtkbhngdabfoboabGreatDoor.x10

/-- what is so of a process that may be -/
structure Oki (P : Pc) : Prop where
  wh : whl P = false
  nd : ∀ i, i < P.nodes.length → ∀ j, j < 7 → ndQ P j i = true
  sc : ∀ s ∈ (-1) :: subs P, nst1 P s = false
  fl : ∀ i, i < P.flows.length → ∀ j, j < 5 → flQ P j i = true
  wy : ∀ i, i < P.nodes.length → ∀ j, j < 2 → wyQ P j i = true
theorem fwr_pos {q : Nat → Nat → Bool} {m n i : Nat} (h : fwr q m n = some i) : i < n := by
  unfold fwr at h
  exact List.mem_range.1 (List.mem_of_find?_eq_some h)
theorem chk_zero {P : Pc} (h : (chk P).1 = 0) : Oki P ∧ chk P = (0, -1) := by
  unfold chk at h ⊢
  split at h
  · cases h
  · rename_i h1
    split at h
    · cases h
    · rename_i h2
      split at h
      · cases h
      · rename_i h3
        split at h
        · cases h
        · rename_i h4
          split at h
          · cases h
          · rename_i h5
            refine ⟨⟨by simpa using h1, fwr_none_iff.1 h2, ?_, fwr_none_iff.1 h4, fwr_none_iff.1 h5⟩, ?_⟩
            · rw [wsc_eq, List.find?_eq_none] at h3
              exact fun s hs => by simpa using h3 s hs
            · simpa using h1
theorem plc_nonneg {α : Type} {q : α → Bool} {l : List α} {s : Int} (h : s ∈ plc q l) : ∃ i : Nat, s = (i : Int) ∧ ∃ hi : i < l.length, q l[i] = true := by
  unfold plc at h
  obtain ⟨i, hi, rfl⟩ := List.mem_map.1 h
  obtain ⟨h1, h2⟩ := List.mem_filter.1 hi
  have h3 := List.mem_range.1 h1
  rw [List.getElem?_eq_getElem h3] at h2
  exact ⟨i, rfl, h3, h2⟩
theorem plc_mem {α : Type} {q : α → Bool} {l : List α} {i : Nat} (hi : i < l.length) (h : q l[i] = true) : (i : Int) ∈ plc q l := by
  unfold plc
  refine List.mem_map.2 ⟨i, List.mem_filter.2 ⟨List.mem_range.2 hi, ?_⟩, rfl⟩
  rw [List.getElem?_eq_getElem hi]
  exact h
theorem chk_ge (P : Pc) : -1 ≤ (chk P).2 := by
  unfold chk
  split
  · exact Int.le_refl _
  · split
    · simp only; omega
    · split
      · rename_i s h
        rw [wsc_eq] at h
        have hm := List.mem_of_find?_eq_some h
        rcases List.mem_cons.1 hm with rfl | hm
        · exact Int.le_refl _
        · obtain ⟨i, rfl, -⟩ := plc_nonneg hm
          simp only; omega
      · split
        · simp only; omega
        · split
          · simp only; omega
          · exact Int.le_refl _
theorem chk_err (P : Pc) : (chk P).1 = 0 ∨ (chk P).1 = 14 := by
  unfold chk
  repeat' split
  all_goals first | exact .inr rfl | exact .inl rfl
theorem Oki.kind {P : Pc} (h : Oki P) {i : Nat} (hi : i < P.nodes.length) : 1 ≤ P.nodes[i].kind ∧ P.nodes[i].kind ≤ 10 := by
  have := h.nd i hi 0 (by omega)
  unfold ndQ at this
  rw [nodes_getD hi] at this
  simpa using this
theorem Oki.wayOut {P : Pc} (h : Oki P) {i : Nat} (hi : i < P.nodes.length) : (ous P i).length = 0 ↔ P.nodes[i].kind = 2 := by
  have h0 := h.wy i hi 0 (by omega)
  unfold wyQ at h0
  rw [nodes_getD hi] at h0
  simp only at h0
  split at h0
  · rename_i h2
    have : P.nodes[i].kind = 2 := by simpa using h2
    simp only [this, iff_true]
    simpa using h0
  · rename_i h2
    have h2' : ¬ P.nodes[i].kind = 2 := by simpa using h2
    simp only [h2', iff_false]
    split at h0
    · have := of_decide_eq_true h0; omega
    · have : (ous P i).length = 1 := by simpa using h0
      omega
theorem Oki.wayIn {P : Pc} (h : Oki P) {i : Nat} (hi : i < P.nodes.length) : (ins P i).length = 0 ↔ (P.nodes[i].kind = 1 ∨ P.nodes[i].kind = 9 ∨ P.nodes[i].kind = 10) := by
  have h0 := h.wy i hi 1 (by omega)
  unfold wyQ at h0
  rw [nodes_getD hi] at h0
  simp only [nwi, sit, beq_iff_eq] at h0
  have h1 : ((ins P i).length == 0) = true ↔ (P.nodes[i].kind = 1 ∨ P.nodes[i].kind = 9 ∨ P.nodes[i].kind = 10) := by
    rw [← h0]
    simp
    constructor
    · rintro ((h | h) | h)
      · exact .inr (.inl h)
      · exact .inr (.inr h)
      · exact .inl h
    · rintro (h | h | h)
      · exact .inr h
      · exact .inl (.inl h)
      · exact .inl (.inr h)
  simpa using h1
/-- the one start of a scope -/
theorem Oki.start {P : Pc} (h : Oki P) {s : Int} (hs : s ∈ (-1) :: subs P) : ∃ m : Nat, fix (bgn s) P.nodes = (m : Int) ∧ ∃ hm : m < P.nodes.length, P.nodes[m].parent = s := by
  have h1 := h.sc s hs
  unfold nst1 at h1
  have h2 : (plc (bgn s) P.nodes).length = 1 := by simpa using h1
  obtain ⟨x, hx⟩ := List.length_eq_one_iff.1 h2
  obtain ⟨i, -, hi, hb⟩ := plc_nonneg (q := bgn s) (l := P.nodes) (s := x) (by rw [hx]; simp)
  unfold fix
  cases hf : P.nodes.findIdx? (bgn s) with
  | none =>
    rw [List.findIdx?_eq_none_iff] at hf
    rw [hf _ (List.getElem_mem hi)] at hb
    cases hb
  | some m =>
    rw [List.findIdx?_eq_some_iff_getElem] at hf
    obtain ⟨hm, hb', -⟩ := hf
    refine ⟨m, rfl, hm, ?_⟩
    unfold bgn at hb'
    simpa using (Bool.and_eq_true_iff.1 hb').2
theorem Oki.parent {P : Pc} (h : Oki P) {i : Nat} (hi : i < P.nodes.length) : P.nodes[i].parent = -1 ∨ ∃ k : Nat, P.nodes[i].parent = (k : Int) ∧ k < i := by
  have h0 := h.nd i hi 2 (by omega)
  unfold ndQ at h0
  rw [nodes_getD hi] at h0
  simp only [Bool.or_eq_true, Bool.and_eq_true, beq_iff_eq] at h0
  rcases h0 with h0 | h0
  · exact .inl h0
  · obtain ⟨k, hk, hlt⟩ := isPl_iff.1 h0.1
    exact .inr ⟨k, hk, hlt⟩
/-- a flow's ends -/
theorem Oki.ends {P : Pc} (h : Oki P) {j : Nat} (hj : j < P.flows.length) : ∃ a b : Nat, P.flows[j].src = (a : Int) ∧ P.flows[j].dst = (b : Int) ∧ ∃ (ha : a < P.nodes.length) (hb : b < P.nodes.length), P.nodes[a].parent = P.nodes[b].parent := by
  have h0 := h.fl j hj 0 (by omega)
  have h1 := h.fl j hj 1 (by omega)
  unfold flQ at h0 h1
  rw [flows_getD hj] at h0 h1
  simp only [Bool.and_eq_true, beq_iff_eq] at h0 h1
  obtain ⟨a, ha, ha'⟩ := isPl_iff.1 h0.1
  obtain ⟨b, hb, hb'⟩ := isPl_iff.1 h0.2
  rw [ha, hb, nd_at P ha', nd_at P hb'] at h1
  exact ⟨a, b, ha, hb, ha', hb', h1⟩
theorem Oki.sub {P : Pc} {i : Nat} (hi : i < P.nodes.length) (hk : P.nodes[i].kind = 8) : (i : Int) ∈ (-1) :: subs P := List.mem_cons_of_mem _ (plc_mem hi (by show isSu P.nodes[i].kind = true; rw [hk]; rfl))
theorem Oki.after {P : Pc} (h : Oki P) {i : Nat} (hi : i < P.nodes.length) (hk : P.nodes[i].kind = 8) : ∃ m : Nat, fix (bgn (i : Int)) P.nodes = (m : Int) ∧ i < m := by
  obtain ⟨m, hm, hl, hp⟩ := h.start (Oki.sub hi hk)
  refine ⟨m, hm, ?_⟩
  rcases h.parent hl with e | ⟨k, e, hlt⟩
  · rw [hp] at e; omega
  · rw [hp] at e; omega
end Go.Proofs.YtkbhngdabfoboabGreatDoor.m11

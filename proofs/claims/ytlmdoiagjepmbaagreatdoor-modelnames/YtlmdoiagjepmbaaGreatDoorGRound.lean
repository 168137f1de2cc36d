/-
  What is so of a process that may be; Loops and an order of nodes, plain.
-/
import Derived.Test.YtlmdoiagjepmbaaGreatDoorM11Chk
namespace Go.Proofs.YtlmdoiagjepmbaaGreatDoor.m11
open Go.Proofs.YtlmdoiagjepmbaaGreatDoor.x10

/-- what is so of a process that may be -/
structure Oki (P : Pc) : Prop where
  wh : whl P = false
  nd : ∀ i, i < P.nodes.length → ∀ j, j < 7 → ndQ P j i = true
  sc : ∀ s ∈ (-1) :: subs P, nst1 P s = false
  fl : ∀ i, i < P.flows.length → ∀ j, j < 5 → flQ P j i = true
  wy : ∀ i, i < P.nodes.length → ∀ j, j < 2 → wyQ P j i = true
theorem fwr_pos {q : Nat → Nat → Bool} {m n i : Nat} (h : fwr q m n = some i) : i < n := by
  unfold fwr at h
  exact List.mem_range.1 (List.mem_of_find?_eq_some h)
theorem chk_zero {P : Pc} (h : (chk P).1 = 0) : Oki P ∧ chk P = (0, -1) := by
  unfold chk at h ⊢
  split at h
  · cases h
  · rename_i h1
    split at h
    · cases h
    · rename_i h2
      split at h
      · cases h
      · rename_i h3
        split at h
        · cases h
        · rename_i h4
          split at h
          · cases h
          · rename_i h5
            refine ⟨⟨by simpa using h1, fwr_none_iff.1 h2, ?_, fwr_none_iff.1 h4, fwr_none_iff.1 h5⟩, ?_⟩
            · rw [wsc_eq, List.find?_eq_none] at h3
              exact fun s hs => by simpa using h3 s hs
            · simpa using h1
theorem plc_nonneg {α : Type} {q : α → Bool} {l : List α} {s : Int} (h : s ∈ plc q l) : ∃ i : Nat, s = (i : Int) ∧ ∃ hi : i < l.length, q l[i] = true := by
  unfold plc at h
  obtain ⟨i, hi, rfl⟩ := List.mem_map.1 h
  obtain ⟨h1, h2⟩ := List.mem_filter.1 hi
  have h3 := List.mem_range.1 h1
  rw [List.getElem?_eq_getElem h3] at h2
  exact ⟨i, rfl, h3, h2⟩
theorem plc_mem {α : Type} {q : α → Bool} {l : List α} {i : Nat} (hi : i < l.length) (h : q l[i] = true) : (i : Int) ∈ plc q l := by
  unfold plc
  refine List.mem_map.2 ⟨i, List.mem_filter.2 ⟨List.mem_range.2 hi, ?_⟩, rfl⟩
  rw [List.getElem?_eq_getElem hi]
  exact h
theorem chk_ge (P : Pc) : -1 ≤ (chk P).2 := by
  unfold chk
  split
  · exact Int.le_refl _
  · split
    · simp only; omega
    · split
      · rename_i s h
        rw [wsc_eq] at h
        have hm := List.mem_of_find?_eq_some h
        rcases List.mem_cons.1 hm with rfl | hm
        · exact Int.le_refl _
        · obtain ⟨i, rfl, -⟩ := plc_nonneg hm
          simp only; omega
      · split
        · simp only; omega
        · split
          · simp only; omega
          · exact Int.le_refl _
theorem chk_err (P : Pc) : (chk P).1 = 0 ∨ (chk P).1 = 14 := by
  unfold chk
  repeat' split
  all_goals first | exact .inr rfl | exact .inl rfl
theorem Oki.kind {P : Pc} (h : Oki P) {i : Nat} (hi : i < P.nodes.length) : 1 ≤ P.nodes[i].kind ∧ P.nodes[i].kind ≤ 10 := by
  have := h.nd i hi 0 (by omega)
  unfold ndQ at this
  rw [nodes_getD hi] at this
  simpa using this
theorem Oki.wayOut {P : Pc} (h : Oki P) {i : Nat} (hi : i < P.nodes.length) : (ous P i).length = 0 ↔ P.nodes[i].kind = 2 := by
  have h0 := h.wy i hi 0 (by omega)
  unfold wyQ at h0
  rw [nodes_getD hi] at h0
  simp only at h0
  split at h0
  · rename_i h2
    have : P.nodes[i].kind = 2 := by simpa using h2
    simp only [this, iff_true]
    simpa using h0
  · rename_i h2
    have h2' : ¬ P.nodes[i].kind = 2 := by simpa using h2
    simp only [h2', iff_false]
    split at h0
    · have := of_decide_eq_true h0; omega
    · have : (ous P i).length = 1 := by simpa using h0
      omega
theorem Oki.wayIn {P : Pc} (h : Oki P) {i : Nat} (hi : i < P.nodes.length) : (ins P i).length = 0 ↔ (P.nodes[i].kind = 1 ∨ P.nodes[i].kind = 9 ∨ P.nodes[i].kind = 10) := by
  have h0 := h.wy i hi 1 (by omega)
  unfold wyQ at h0
  rw [nodes_getD hi] at h0
  simp only [nwi, sit, beq_iff_eq] at h0
  have h1 : ((ins P i).length == 0) = true ↔ (P.nodes[i].kind = 1 ∨ P.nodes[i].kind = 9 ∨ P.nodes[i].kind = 10) := by
    rw [← h0]
    simp
    constructor
    · rintro ((h | h) | h)
      · exact .inr (.inl h)
      · exact .inr (.inr h)
      · exact .inl h
    · rintro (h | h | h)
      · exact .inr h
      · exact .inl (.inl h)
      · exact .inl (.inr h)
  simpa using h1
/-- the one start of a scope -/
theorem Oki.start {P : Pc} (h : Oki P) {s : Int} (hs : s ∈ (-1) :: subs P) : ∃ m : Nat, fix (bgn s) P.nodes = (m : Int) ∧ ∃ hm : m < P.nodes.length, P.nodes[m].parent = s := by
  have h1 := h.sc s hs
  unfold nst1 at h1
  have h2 : (plc (bgn s) P.nodes).length = 1 := by simpa using h1
  obtain ⟨x, hx⟩ := List.length_eq_one_iff.1 h2
  obtain ⟨i, -, hi, hb⟩ := plc_nonneg (q := bgn s) (l := P.nodes) (s := x) (by rw [hx]; simp)
  unfold fix
  cases hf : P.nodes.findIdx? (bgn s) with
  | none =>
    rw [List.findIdx?_eq_none_iff] at hf
    rw [hf _ (List.getElem_mem hi)] at hb
    cases hb
  | some m =>
    rw [List.findIdx?_eq_some_iff_getElem] at hf
    obtain ⟨hm, hb', -⟩ := hf
    refine ⟨m, rfl, hm, ?_⟩
    unfold bgn at hb'
    simpa using (Bool.and_eq_true_iff.1 hb').2
theorem Oki.parent {P : Pc} (h : Oki P) {i : Nat} (hi : i < P.nodes.length) : P.nodes[i].parent = -1 ∨ ∃ k : Nat, P.nodes[i].parent = (k : Int) ∧ k < i := by
  have h0 := h.nd i hi 2 (by omega)
  unfold ndQ at h0
  rw [nodes_getD hi] at h0
  simp only [Bool.or_eq_true, Bool.and_eq_true, beq_iff_eq] at h0
  rcases h0 with h0 | h0
  · exact .inl h0
  · obtain ⟨k, hk, hlt⟩ := isPl_iff.1 h0.1
    exact .inr ⟨k, hk, hlt⟩
/-- a flow's ends -/
theorem Oki.ends {P : Pc} (h : Oki P) {j : Nat} (hj : j < P.flows.length) : ∃ a b : Nat, P.flows[j].src = (a : Int) ∧ P.flows[j].dst = (b : Int) ∧ ∃ (ha : a < P.nodes.length) (hb : b < P.nodes.length), P.nodes[a].parent = P.nodes[b].parent := by
  have h0 := h.fl j hj 0 (by omega)
  have h1 := h.fl j hj 1 (by omega)
  unfold flQ at h0 h1
  rw [flows_getD hj] at h0 h1
  simp only [Bool.and_eq_true, beq_iff_eq] at h0 h1
  obtain ⟨a, ha, ha'⟩ := isPl_iff.1 h0.1
  obtain ⟨b, hb, hb'⟩ := isPl_iff.1 h0.2
  rw [ha, hb, nd_at P ha', nd_at P hb'] at h1
  exact ⟨a, b, ha, hb, ha', hb', h1⟩
theorem Oki.sub {P : Pc} {i : Nat} (hi : i < P.nodes.length) (hk : P.nodes[i].kind = 8) : (i : Int) ∈ (-1) :: subs P := List.mem_cons_of_mem _ (plc_mem hi (by show isSu P.nodes[i].kind = true; rw [hk]; rfl))
theorem Oki.after {P : Pc} (h : Oki P) {i : Nat} (hi : i < P.nodes.length) (hk : P.nodes[i].kind = 8) : ∃ m : Nat, fix (bgn (i : Int)) P.nodes = (m : Int) ∧ i < m := by
  obtain ⟨m, hm, hl, hp⟩ := h.start (Oki.sub hi hk)
  refine ⟨m, hm, ?_⟩
  rcases h.parent hl with e | ⟨k, e, hlt⟩
  · rw [hp] at e; omega
  · rw [hp] at e; omega
end Go.Proofs.YtlmdoiagjepmbaaGreatDoor.m11
namespace Go.Proofs.YtlmdoiagjepmbaaGreatDoor.m11
open Go.Proofs.YtlmdoiagjepmbaaGreatDoor.x10

/-- does a flow out of i lead into l? -/
def led (P : Pc) (l : List Int) (i : Int) : Bool := (ous P i).any fun j => l.contains (P.flows[j.toNat]?.getD f0).dst
/-- what leading comes to -/
def ldg (P : Pc) (l : List Int) : List Int := l.filter (led P l)
theorem ldg_le (P : Pc) (l : List Int) : (ldg P l).length ≤ l.length := List.length_filter_le _ _
/-- what is left at last -/
def rnd (P : Pc) (l : List Int) : List Int := if (ldg P l).length = l.length then l else rnd P (ldg P l)
termination_by l.length
decreasing_by have := ldg_le P l; omega
theorem rnd_end {P : Pc} {l : List Int} (h : (ldg P l).length = l.length) : rnd P l = l := by rw [rnd, if_pos h]
theorem rnd_on {P : Pc} {l : List Int} (h : ¬ (ldg P l).length = l.length) : rnd P l = rnd P (ldg P l) := by rw [rnd, if_neg h]
/-- the nodes that don't wait -/
def lft (P : Pc) : List Int := plc (fun x => !(wai x.kind)) P.nodes
/-- what Loops comes to -/
def lps (P : Pc) : Bool := (chk P).1 == 0 && decide (0 < (rnd P (lft P)).length)

theorem led_iff {P : Pc} {l : List Int} {i : Int} : led P l i = true ↔ ∃ f ∈ P.flows, f.src = i ∧ f.dst ∈ l := by
  unfold led
  rw [List.any_eq_true]
  constructor
  · rintro ⟨j, hj, h⟩
    obtain ⟨k, rfl, hk, hq⟩ := plc_nonneg hj
    rw [Int.toNat_natCast, List.getElem?_eq_getElem hk, Option.getD_some] at h
    exact ⟨_, List.getElem_mem hk, by simpa using hq, by simpa using h⟩
  · rintro ⟨f, hf, rfl, hd⟩
    obtain ⟨k, hk, rfl⟩ := List.getElem_of_mem hf
    refine ⟨(k : Int), plc_mem hk (by simp), ?_⟩
    rw [Int.toNat_natCast, List.getElem?_eq_getElem hk, Option.getD_some]
    simpa using hd

theorem rnd_sub (P : Pc) (l : List Int) : ∀ i ∈ rnd P l, i ∈ l := by
  suffices H : ∀ (n : Nat) (l : List Int), l.length ≤ n → ∀ i ∈ rnd P l, i ∈ l from H l.length l (Nat.le_refl _)
  intro n
  induction n with
  | zero =>
    intro l hl i hi
    rw [List.length_eq_zero_iff.1 (Nat.le_zero.1 hl)] at hi ⊢
    rwa [rnd_end (by simp [ldg])] at hi
  | succ n ih =>
    intro l hl i hi
    by_cases h : (ldg P l).length = l.length
    · rwa [rnd_end h] at hi
    · rw [rnd_on h] at hi
      have := ldg_le P l
      exact (List.mem_filter.1 (ih (ldg P l) (by omega) i hi)).1
theorem rnd_led (P : Pc) (l : List Int) : ∀ i ∈ rnd P l, led P (rnd P l) i = true := by
  suffices H : ∀ (n : Nat) (l : List Int), l.length ≤ n → ∀ i ∈ rnd P l, led P (rnd P l) i = true from H l.length l (Nat.le_refl _)
  have E : ∀ l : List Int, (ldg P l).length = l.length → ∀ i ∈ l, led P l i = true := by
    intro l h
    exact List.length_filter_eq_length_iff.1 h
  intro n
  induction n with
  | zero =>
    intro l hl
    have h : (ldg P l).length = l.length := by have := ldg_le P l; omega
    rw [rnd_end h]; exact E l h
  | succ n ih =>
    intro l hl
    by_cases h : (ldg P l).length = l.length
    · rw [rnd_end h]; exact E l h
    · rw [rnd_on h]
      have := ldg_le P l
      exact ih (ldg P l) (by omega)
theorem rnd_has {P : Pc} {G : Int → Prop} (hG : ∀ i, G i → ∃ f ∈ P.flows, f.src = i ∧ G f.dst) (l : List Int) (hl : ∀ i, G i → i ∈ l) : ∀ i, G i → i ∈ rnd P l := by
  suffices H : ∀ (n : Nat) (l : List Int), l.length ≤ n → (∀ i, G i → i ∈ l) → ∀ i, G i → i ∈ rnd P l from H l.length l (Nat.le_refl _) hl
  intro n
  induction n with
  | zero =>
    intro l hl hs i hi
    have := hs i hi
    rw [List.length_eq_zero_iff.1 (Nat.le_zero.1 hl)] at this
    cases this
  | succ n ih =>
    intro l hl hs
    by_cases h : (ldg P l).length = l.length
    · rw [rnd_end h]; exact hs
    · rw [rnd_on h]
      have := ldg_le P l
      refine ih (ldg P l) (by omega) ?_
      intro i hi
      obtain ⟨f, hf, h1, h2⟩ := hG i hi
      exact List.mem_filter.2 ⟨hs i hi, led_iff.2 ⟨f, hf, h1, hs _ h2⟩⟩
/-- one goes on for ever: there is a set of nodes that don't wait, of which each one leads to one of them -/
theorem lps_iff {P : Pc} (h : (chk P).1 = 0) : lps P = true ↔ ∃ G : Int → Prop, (∃ i, G i) ∧ ∀ i, G i → i ∈ lft P ∧ ∃ f ∈ P.flows, f.src = i ∧ G f.dst := by
  unfold lps
  rw [h]
  simp only [beq_self_eq_true, Bool.true_and, decide_eq_true_eq]
  constructor
  · intro h0
    exact ⟨fun i => i ∈ rnd P (lft P), ⟨_, List.getElem_mem h0⟩, fun i hi => ⟨rnd_sub P _ i hi, led_iff.1 (rnd_led P _ i hi)⟩⟩
  · rintro ⟨G, ⟨i, hi⟩, hG⟩
    exact List.length_pos_of_mem (rnd_has (fun i hi => (hG i hi).2) (lft P) (fun i hi => (hG i hi).1) i hi)
/-- what Loops comes to is told by the kinds and the flows alone -/
theorem rnd_flows {P Q : Pc} (hf : P.flows = Q.flows) (l : List Int) : rnd P l = rnd Q l := by
  have hl : ∀ l, ldg P l = ldg Q l := fun l => by unfold ldg led ous; rw [hf]
  suffices H : ∀ (n : Nat) (l : List Int), l.length ≤ n → rnd P l = rnd Q l from H l.length l (Nat.le_refl _)
  intro n
  induction n with
  | zero =>
    intro l hn
    have h : (ldg P l).length = l.length := by have := ldg_le P l; omega
    rw [rnd_end h, rnd_end (by rw [← hl]; exact h)]
  | succ n ih =>
    intro l hn
    by_cases h : (ldg P l).length = l.length
    · rw [rnd_end h, rnd_end (by rw [← hl]; exact h)]
    · rw [rnd_on h, rnd_on (P := Q) (by rw [← hl]; exact h), ← hl]
      have := ldg_le P l
      exact ih _ (by omega)
theorem lft_kinds {P Q : Pc} (h : P.nodes.map (·.kind) = Q.nodes.map (·.kind)) : lft P = lft Q := by
  have e : ∀ R : Pc, lft R = plc (fun k => !(wai k)) (R.nodes.map (·.kind)) := fun R => by
    unfold lft plc
    rw [List.length_map]
    congr 1
    apply List.filter_congr
    intro i hi
    rw [List.getElem?_map, Option.map_map]; rfl
  rw [e P, e Q, h]
theorem lps_same {P Q : Pc} (hk : P.nodes.map (·.kind) = Q.nodes.map (·.kind)) (hf : P.flows = Q.flows) (hc : (chk P).1 = (chk Q).1) : lps P = lps Q := by
  unfold lps
  rw [rnd_flows hf, lft_kinds hk, hc]
end Go.Proofs.YtlmdoiagjepmbaaGreatDoor.m11
namespace Go.Proofs.YtlmdoiagjepmbaaGreatDoor.m11
open Go.Proofs.YtlmdoiagjepmbaaGreatDoor.x10

/-- a flow that keeps node i from being done -/
def blk (P : Pc) (D : List Bool) (i : Nat) (f : Fl) : Bool := f.src == (i : Int) && !(wai (P.nd (i : Int)).kind) && !(D[f.dst.toNat]?.getD false)
/-- may node i be done now? -/
def may1 (P : Pc) (D : List Bool) (i : Nat) : Bool := D[i]? == some false && P.flows.all fun f => !(blk P D i f)
def stp1 (P : Pc) (D : List Bool) (i : Nat) : List Bool := if may1 P D i then D.set i true else D
/-- the first n nodes of a turn -/
def swp (P : Pc) (D : List Bool) : Nat → List Bool
  | 0 => D
  | n + 1 => stp1 P (swp P D n) n
/-- t turns -/
def trns (P : Pc) : Nat → List Bool
  | 0 => List.replicate P.nodes.length false
  | t + 1 => swp P (trns P t) P.nodes.length

theorem stp1_len (P : Pc) (D : List Bool) (i : Nat) : (stp1 P D i).length = D.length := by
  unfold stp1; split <;> simp
theorem swp_len (P : Pc) (D : List Bool) (n : Nat) : (swp P D n).length = D.length := by
  induction n with
  | zero => rfl
  | succ n ih => rw [swp, stp1_len, ih]
theorem trns_len (P : Pc) (t : Nat) : (trns P t).length = P.nodes.length := by
  induction t with
  | zero => simp [trns]
  | succ t ih => rw [trns, swp_len, ih]
theorem set_count {D : List Bool} {i : Nat} (h : D[i]? = some false) : (D.set i true).count false + 1 = D.count false := by
  induction D generalizing i with
  | nil => cases h
  | cons b D ih =>
    cases i with
    | zero =>
      rw [List.getElem?_cons_zero, Option.some.injEq] at h
      subst h
      simp
    | succ i =>
      rw [List.getElem?_cons_succ] at h
      rw [List.set_cons_succ, List.count_cons, List.count_cons, ← ih h]
      omega
theorem stp1_count (P : Pc) (D : List Bool) (i : Nat) : stp1 P D i = D ∨ (stp1 P D i).count false + 1 = D.count false := by
  unfold stp1
  by_cases h : may1 P D i = true
  · rw [if_pos h]
    unfold may1 at h
    rw [Bool.and_eq_true, beq_iff_eq] at h
    exact .inr (set_count h.1)
  · rw [if_neg h]; exact .inl rfl
theorem swp_count (P : Pc) (D : List Bool) (n : Nat) : (swp P D n).count false ≤ D.count false := by
  induction n with
  | zero => exact Nat.le_refl _
  | succ n ih =>
    rw [swp]
    rcases stp1_count P (swp P D n) n with h | h
    · rw [h]; exact ih
    · omega
theorem swp_same {P : Pc} {D : List Bool} {n : Nat} (h : (swp P D n).count false = D.count false) : swp P D n = D ∧ ∀ m, m < n → stp1 P D m = D := by
  induction n with
  | zero => exact ⟨rfl, fun m hm => absurd hm (Nat.not_lt_zero _)⟩
  | succ n ih =>
    rw [swp] at h ⊢
    have hc := swp_count P D n
    rcases stp1_count P (swp P D n) n with h1 | h1
    · rw [h1] at h ⊢
      obtain ⟨i1, i2⟩ := ih h
      refine ⟨i1, fun m hm => ?_⟩
      rcases Nat.lt_succ_iff_lt_or_eq.1 hm with hm | rfl
      · exact i2 m hm
      · rwa [i1] at h1
    · omega
theorem trns_fix (P : Pc) (t : Nat) : swp P (trns P t) P.nodes.length = trns P t ∨ (trns P t).count false + t ≤ P.nodes.length := by
  induction t with
  | zero => exact .inr (by simp [trns])
  | succ t ih =>
    rw [trns]
    by_cases h : (swp P (trns P t) P.nodes.length).count false = (trns P t).count false
    · have e := (swp_same h).1
      rw [e]; exact .inl e
    · have hc := swp_count P (trns P t) P.nodes.length
      rcases ih with ih | ih
      · rw [ih] at h; exact absurd rfl h
      · exact .inr (by omega)
/-- behind one turn more than there are nodes nothing changes any more -/
theorem trns_end (P : Pc) : ∀ i, i < P.nodes.length → stp1 P (trns P (P.nodes.length + 1)) i = trns P (P.nodes.length + 1) := by
  rcases trns_fix P (P.nodes.length + 1) with h | h
  · exact (swp_same (by rw [h])).2
  · omega
theorem stp1_keeps {P : Pc} {G : Int → Prop} (hG : ∀ i, G i → i ∈ lft P ∧ ∃ f ∈ P.flows, f.src = i ∧ G f.dst) {D : List Bool} (hD : ∀ i, G i → D[i.toNat]? = some false) (k : Nat) : ∀ i, G i → (stp1 P D k)[i.toNat]? = some false := by
  intro i hi
  unfold stp1
  split
  · rename_i hm
    by_cases e : i.toNat = k
    · exfalso
      obtain ⟨h1, f, hf, h2, h3⟩ := hG i hi
      obtain ⟨n, rfl, hn, hq⟩ := plc_nonneg h1
      rw [Int.toNat_natCast] at e
      subst e
      unfold may1 at hm
      rw [Bool.and_eq_true, List.all_eq_true] at hm
      have hb := hm.2 f hf
      have hw : wai (P.nd (n : Int)).kind = false := by
        unfold Pc.nd
        rw [Int.toNat_natCast, List.getElem?_eq_getElem hn, Option.getD_some]
        simpa using hq
      unfold blk at hb
      rw [hw, hD _ h3, h2] at hb
      simp at hb
    · rw [List.getElem?_set_ne (fun h => e h.symm)]; exact hD i hi
  · exact hD i hi
theorem swp_keeps {P : Pc} {G : Int → Prop} (hG : ∀ i, G i → i ∈ lft P ∧ ∃ f ∈ P.flows, f.src = i ∧ G f.dst) {D : List Bool} (hD : ∀ i, G i → D[i.toNat]? = some false) (n : Nat) : ∀ i, G i → (swp P D n)[i.toNat]? = some false := by
  induction n with
  | zero => exact hD
  | succ n ih => exact stp1_keeps hG ih n
theorem trns_keeps {P : Pc} {G : Int → Prop} (hG : ∀ i, G i → i ∈ lft P ∧ ∃ f ∈ P.flows, f.src = i ∧ G f.dst) (t : Nat) : ∀ i, G i → (trns P t)[i.toNat]? = some false := by
  induction t with
  | zero =>
    intro i hi
    obtain ⟨n, rfl, hn, -⟩ := plc_nonneg (hG i hi).1
    rw [trns, Int.toNat_natCast, List.getElem?_replicate, if_pos hn]
  | succ t ih => exact swp_keeps hG ih _
/-- one goes on for ever: some are left at the end -/
theorem lps_order {P : Pc} (h : (chk P).1 = 0) : lps P = decide (0 < (trns P (P.nodes.length + 1)).count false) := by
  have ok := (chk_zero h).1
  rw [Bool.eq_iff_iff, lps_iff h, decide_eq_true_eq]
  constructor
  · rintro ⟨G, ⟨i, hi⟩, hG⟩
    exact List.count_pos_iff.2 (List.mem_of_getElem? (trns_keeps hG _ i hi))
  · intro h0
    generalize hD : trns P (P.nodes.length + 1) = D at h0
    have hl : D.length = P.nodes.length := by rw [← hD, trns_len]
    have hE : ∀ i, i < P.nodes.length → stp1 P D i = D := by rw [← hD]; exact trns_end P
    obtain ⟨k, hk, hkD⟩ := List.getElem_of_mem (List.count_pos_iff.1 h0)
    refine ⟨fun i => ∃ n : Nat, i = (n : Int) ∧ D[n]? = some false, ⟨(k : Int), k, rfl, by rw [List.getElem?_eq_getElem hk, hkD]⟩, ?_⟩
    rintro i ⟨n, rfl, hn⟩
    have hnl : n < P.nodes.length := by
      rw [← hl]
      exact (List.getElem?_eq_some_iff.1 hn).1
    have hs := hE n hnl
    have hm : may1 P D n = false := by
      cases hm : may1 P D n with
      | false => rfl
      | true =>
        exfalso
        unfold stp1 at hs
        rw [if_pos hm] at hs
        have := set_count hn
        rw [hs] at this
        omega
    unfold may1 at hm
    rw [hn] at hm
    simp only [beq_self_eq_true, Bool.true_and] at hm
    obtain ⟨f, hf, hb⟩ := List.all_eq_false.1 hm
    have hb : blk P D n f = true := by simpa using hb
    unfold blk at hb
    rw [Bool.and_eq_true, Bool.and_eq_true, beq_iff_eq] at hb
    obtain ⟨⟨b1, b2⟩, b3⟩ := hb
    refine ⟨plc_mem hnl ?_, f, hf, b1, ?_⟩
    · unfold Pc.nd at b2
      rw [Int.toNat_natCast, List.getElem?_eq_getElem hnl, Option.getD_some] at b2
      exact b2
    · obtain ⟨j, hj, rfl⟩ := List.getElem_of_mem hf
      have h4 := ok.fl j hj 0 (by omega)
      unfold flQ at h4
      rw [List.getElem?_eq_getElem hj, Option.getD_some] at h4
      simp only [Bool.and_eq_true, isPl, decide_eq_true_eq] at h4
      refine ⟨P.flows[j].dst.toNat, by omega, ?_⟩
      have hlt : P.flows[j].dst.toNat < D.length := by omega
      rw [List.getElem?_eq_getElem hlt] at b3 ⊢
      simpa using b3
end Go.Proofs.YtlmdoiagjepmbaaGreatDoor.m11

/-
  Lists of entries: what rising ones are, put together.
-/
import Derived.Test.YtlhijbgdccejbaaM3Ref
namespace Go.Proofs.Ytlhijbgdccejbaa
open Go.RowKit Go.Shelf Go.Sort
open Go.Lib hiding intOf

theorem rise_cons {x : Ent} {r : List Ent} : Rise (x :: r) ↔ (∀ e ∈ r, lt x.1 e.1 = true) ∧ Rise r := List.pairwise_cons
theorem put_cons_lt {y : Ent} {es : List Ent} {k : ByteArray} {v : Int} (h : lt y.1 k = true) : put (y :: es) k v = y :: put es k v := by
  have hp : pos (y :: es) k = pos es k + 1 := by simp [pos, h]
  have hh : has (y :: es) k = has es k := by simp [has, hp]
  unfold put
  rw [hh, hp]
  split <;> simp
theorem put_cons_eq {y : Ent} {es : List Ent} {v : Int} : put (y :: es) y.1 v = (y.1, v) :: es := by
  have hp : pos (y :: es) y.1 = 0 := by simp [pos, lt_irrefl]
  have hh : has (y :: es) y.1 = true := by simp [has, hp]
  unfold put
  rw [hh, hp]
  simp
theorem put_cons_gt {y : Ent} {es : List Ent} {k : ByteArray} {v : Int} (h : lt k y.1 = true) : put (y :: es) k v = (k, v) :: y :: es := by
  have hn : lt y.1 k = false := lt_asymm h
  have hp : pos (y :: es) k = 0 := by simp [pos, hn]
  have hh : has (y :: es) k = false := by
    rw [← Bool.not_eq_true]
    intro hh
    obtain ⟨hl, he⟩ := has_lt hh
    simp only [hp, List.getElem_cons_zero] at he
    rw [he, lt_irrefl] at h
    cases h
  unfold put
  rw [hh, hp]
  simp
theorem put_nil (k : ByteArray) (v : Int) : put [] k v = [(k, v)] := by simp [put, has, pos]
theorem mem_put {es : List Ent} (hs : Rise es) (k : ByteArray) (v : Int) (e : Ent) : e ∈ put es k v ↔ e = (k, v) ∨ (e ∈ es ∧ e.1 ≠ k) := by
  induction es with
  | nil => simp [put_nil]
  | cons y r ih =>
    have hr := rise_cons.1 hs
    by_cases h1 : lt y.1 k = true
    · rw [put_cons_lt h1, List.mem_cons, ih hr.2, List.mem_cons]
      have hne : y.1 ≠ k := fun e => by rw [e, lt_irrefl] at h1; cases h1
      constructor
      · rintro (rfl | h | h)
        · exact .inr ⟨.inl rfl, hne⟩
        · exact .inl h
        · exact .inr ⟨.inr h.1, h.2⟩
      · rintro (h | ⟨rfl | h, h2⟩)
        · exact .inr (.inl h)
        · exact .inl rfl
        · exact .inr (.inr ⟨h, h2⟩)
    · have h1' : lt y.1 k = false := by simpa using h1
      by_cases h2 : lt k y.1 = true
      · rw [put_cons_gt h2, List.mem_cons]
        constructor
        · rintro (h | h)
          · exact .inl h
          · refine .inr ⟨h, fun e1 => ?_⟩
            rcases List.mem_cons.1 h with rfl | h
            · rw [e1, lt_irrefl] at h2; cases h2
            · have := lt_trans h2 (hr.1 e h); rw [e1, lt_irrefl] at this; cases this
        · rintro (h | ⟨h, _⟩)
          · exact .inl h
          · exact .inr h
      · have he := lt_total h1' (by simpa using h2)
        subst he
        rw [put_cons_eq, List.mem_cons, List.mem_cons]
        constructor
        · rintro (h | h)
          · exact .inl h
          · exact .inr ⟨.inr h, fun e1 => by have := hr.1 e h; rw [e1, lt_irrefl] at this; cases this⟩
        · rintro (h | ⟨rfl | h, h3⟩)
          · exact .inl h
          · exact absurd rfl h3
          · exact .inr h
theorem rise_inj {es : List Ent} (hs : Rise es) {a b : Ent} (ha : a ∈ es) (hb : b ∈ es) (h : a.1 = b.1) : a = b := by
  induction es with
  | nil => cases ha
  | cons y r ih =>
    have hr := rise_cons.1 hs
    rcases List.mem_cons.1 ha with ea | ha1
    · rcases List.mem_cons.1 hb with eb | hb1
      · rw [ea, eb]
      · have := hr.1 b hb1; rw [← ea, h, lt_irrefl] at this; cases this
    · rcases List.mem_cons.1 hb with eb | hb1
      · have := hr.1 a ha1; rw [← eb, h, lt_irrefl] at this; cases this
      · exact ih hr.2 ha1 hb1
theorem rise_ext : ∀ {a b : List Ent}, Rise a → Rise b → (∀ e, e ∈ a ↔ e ∈ b) → a = b
  | [], [], _, _, _ => rfl
  | [], y :: b, _, _, h => by have := (h y).2 (by simp); cases this
  | x :: a, [], _, _, h => by have := (h x).1 (by simp); cases this
  | x :: a, y :: b, ha, hb, h => by
    have ha' := rise_cons.1 ha
    have hb' := rise_cons.1 hb
    have hxy : x = y := by
      rcases List.mem_cons.1 ((h x).1 (by simp)) with e | h1
      · exact e
      rcases List.mem_cons.1 ((h y).2 (by simp)) with e | h2
      · exact e.symm
      have h3 := hb'.1 x h1
      have h4 := ha'.1 y h2
      have := lt_trans h3 h4
      rw [lt_irrefl] at this; cases this
    subst hxy
    have : a = b := rise_ext ha'.2 hb'.2 (fun e => by
      constructor
      · intro he
        rcases List.mem_cons.1 ((h e).1 (List.mem_cons_of_mem _ he)) with rfl | h1
        · have := ha'.1 _ he; rw [lt_irrefl] at this; cases this
        · exact h1
      · intro he
        rcases List.mem_cons.1 ((h e).2 (List.mem_cons_of_mem _ he)) with rfl | h1
        · have := hb'.1 _ he; rw [lt_irrefl] at this; cases this
        · exact h1)
    rw [this]
/-- what is put, one behind the other, by rising keys -/
theorem mem_putAll {es r : List Ent} (hs : Rise es) (hr : Rise r) (e : Ent) : e ∈ putAll es r ↔ e ∈ r ∨ (e ∈ es ∧ ∀ d ∈ r, d.1 ≠ e.1) := by
  induction r generalizing es with
  | nil => simp [putAll]
  | cons y r ih =>
    have hr' := rise_cons.1 hr
    have e1 : putAll es (y :: r) = putAll (put es y.1 y.2) r := rfl
    rw [e1, ih (put_rise hs _ _) hr'.2, mem_put hs, List.mem_cons]
    constructor
    · rintro (h | ⟨h | ⟨h, h2⟩, h3⟩)
      · exact .inl (.inr h)
      · exact .inl (.inl h)
      · refine .inr ⟨h, fun d hd => ?_⟩
        rcases List.mem_cons.1 hd with rfl | hd
        · exact fun e => h2 e.symm
        · exact h3 d hd
    · rintro ((h | h) | ⟨h, h2⟩)
      · subst h
        exact .inr ⟨.inl rfl, fun d hd e => by have := hr'.1 d hd; rw [e, lt_irrefl] at this; cases this⟩
      · exact .inl h
      · exact .inr ⟨.inr ⟨h, fun e => h2 y (by simp) e.symm⟩, fun d hd => h2 d (List.mem_cons_of_mem _ hd)⟩
theorem putAll_cons {y : Ent} {es r : List Ent} (h : ∀ e ∈ r, lt y.1 e.1 = true) : putAll (y :: es) r = y :: putAll es r := by
  induction r generalizing es with
  | nil => rfl
  | cons x r ih =>
    have e1 : putAll (y :: es) (x :: r) = putAll (put (y :: es) x.1 x.2) r := rfl
    have e2 : putAll es (x :: r) = putAll (put es x.1 x.2) r := rfl
    rw [e1, e2, put_cons_lt (h x (by simp)), ih (fun e he => h e (List.mem_cons_of_mem _ he))]
theorem putAll_nil {r : List Ent} (hr : Rise r) : putAll [] r = r := by
  induction r with
  | nil => rfl
  | cons x r ih =>
    have hr' := rise_cons.1 hr
    have e1 : putAll [] (x :: r) = putAll (put [] x.1 x.2) r := rfl
    rw [e1, put_nil, putAll_cons (y := (x.1, x.2)) hr'.1, ih hr'.2]
/-- the three ways of a step -/
theorem join_lt {x y : Ent} {a b : List Ent} (ha : Rise (x :: a)) (h : lt x.1 y.1 = true) : putAll (y :: b) (x :: a) = x :: putAll (y :: b) a := by
  have e1 : putAll (y :: b) (x :: a) = putAll (put (y :: b) x.1 x.2) a := rfl
  rw [e1, put_cons_gt h, putAll_cons (y := (x.1, x.2)) (rise_cons.1 ha).1]
theorem join_gt {x y : Ent} {a b : List Ent} (ha : Rise (x :: a)) (h : lt y.1 x.1 = true) : putAll (y :: b) (x :: a) = y :: putAll b (x :: a) := by
  refine putAll_cons (fun e he => ?_)
  rcases List.mem_cons.1 he with rfl | he
  · exact h
  · exact lt_trans h ((rise_cons.1 ha).1 e he)
theorem join_eq {x y : Ent} {a b : List Ent} (hb : Rise (y :: b)) (h : x.1 = y.1) : putAll (y :: b) (x :: a) = putAll b (x :: a) := by
  have e1 : putAll (y :: b) (x :: a) = putAll (put (y :: b) x.1 x.2) a := rfl
  have e2 : putAll b (x :: a) = putAll (put b x.1 x.2) a := rfl
  have e3 : put b y.1 x.2 = (y.1, x.2) :: b := by
    cases b with
    | nil => exact put_nil _ _
    | cons z c => exact put_cons_gt ((rise_cons.1 hb).1 z (by simp))
  rw [e1, e2, h, put_cons_eq, e3]
theorem above_rise {l : List Ent} {x : Ent} (h : Rise l) (ha : above l x = true) : Rise (l ++ [x]) := by
  refine List.pairwise_append.2 ⟨h, by simp, ?_⟩
  intro e he y hy
  simp at hy
  subst hy
  exact (List.all_eq_true.1 ha) e he
theorem risen_rise (l : List Ent) : Rise (risen l) := by
  have key : ∀ i, Rise (risen (l.take i)) := by
    intro i
    induction i with
    | zero => simp [risen, Rise]
    | succ i ih =>
      by_cases h : i < l.length
      · rw [risen_take h]
        split
        · rename_i ha; exact above_rise ih ha
        · exact ih
      · rw [List.take_of_length_le (by omega)] at ih ⊢; exact ih
  have := key l.length
  rwa [List.take_length] at this
theorem merged_rise (ls : List (List Ent)) : Rise (merged ls) := by
  induction ls with
  | nil => simp [merged, Rise]
  | cons l ls ih => exact putAll_rise ih _
theorem put_putAll {b c : List Ent} (hb : Rise b) (hc : Rise c) (k : ByteArray) (v : Int) : put (putAll c b) k v = putAll c (put b k v) := by
  refine rise_ext (put_rise (putAll_rise hc _) _ _) (putAll_rise hc _) (fun e => ?_)
  rw [mem_put (putAll_rise hc _), mem_putAll hc hb, mem_putAll hc (put_rise hb _ _), mem_put hb]
  constructor
  · rintro (h | ⟨h | ⟨h, h2⟩, h3⟩)
    · exact .inl (.inl h)
    · exact .inl (.inr ⟨h, h3⟩)
    · refine .inr ⟨h, fun d hd => ?_⟩
      rcases (mem_put hb _ _ _).1 hd with rfl | ⟨hd, _⟩
      · exact fun e => h3 e.symm
      · exact h2 d hd
  · rintro ((h | ⟨h, h2⟩) | ⟨h, h2⟩)
    · exact .inl h
    · exact .inr ⟨.inl h, h2⟩
    · have h3 : e.1 ≠ k := fun e1 => h2 (k, v) ((mem_put hb _ _ _).2 (.inl rfl)) e1.symm
      refine .inr ⟨.inr ⟨h, fun d hd e1 => ?_⟩, h3⟩
      exact h2 d ((mem_put hb _ _ _).2 (.inr ⟨hd, fun e2 => h3 (e1.symm.trans e2)⟩)) e1
theorem putAll_assoc {a b c : List Ent} (hb : Rise b) (hc : Rise c) : putAll (putAll c b) a = putAll c (putAll b a) := by
  induction a generalizing b with
  | nil => rfl
  | cons x a ih =>
    have e1 : putAll (putAll c b) (x :: a) = putAll (put (putAll c b) x.1 x.2) a := rfl
    have e2 : putAll b (x :: a) = putAll (put b x.1 x.2) a := rfl
    rw [e1, e2, put_putAll hb hc, ih (put_rise hb _ _)]
theorem merged_append (a b : List (List Ent)) : merged (a ++ b) = putAll (merged b) (merged a) := by
  induction a with
  | nil => rfl
  | cons l a ih =>
    have e1 : merged (l :: a ++ b) = putAll (merged (a ++ b)) (risen l) := rfl
    have e2 : merged (l :: a) = putAll (merged a) (risen l) := rfl
    rw [e1, e2, ih, putAll_assoc (merged_rise a) (merged_rise b)]
theorem merged_one (l : List Ent) : merged [l] = risen l := putAll_nil (risen_rise l)
theorem merged_len (ls : List (List Ent)) : (merged ls).length ≤ (ls.map (·.length)).sum := by
  induction ls with
  | nil => simp [merged]
  | cons l ls ih =>
    have h1 := putAll_len (merged ls) (risen l)
    have h2 := (risen_all l).1
    have e1 : merged (l :: ls) = putAll (merged ls) (risen l) := rfl
    rw [e1, List.map_cons, List.sum_cons]
    omega
/-- of rising ones the last one counts alone -/
theorem above_last {l : List Ent} (h : Rise l) (hl : l ≠ []) (x : Ent) : above l x = lt (l.getLast hl).1 x.1 := by
  cases hb : lt (l.getLast hl).1 x.1 with
  | true =>
    refine List.all_eq_true.2 (fun e he => ?_)
    obtain ⟨i, hi, rfl⟩ := List.mem_iff_getElem.1 he
    by_cases hlast : i = l.length - 1
    · subst hlast
      rw [List.getLast_eq_getElem] at hb
      exact hb
    · refine lt_trans ?_ hb
      rw [List.getLast_eq_getElem]
      exact h.get hi (by omega) (by omega)
  | false =>
    rw [← Bool.not_eq_true]
    intro ha
    rw [(List.all_eq_true.1 ha) _ (List.getLast_mem hl)] at hb
    cases hb
end Go.Proofs.Ytlhijbgdccejbaa

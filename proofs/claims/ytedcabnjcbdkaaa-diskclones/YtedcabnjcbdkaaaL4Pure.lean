/-
  Lists of entries by rising keys, whatever their values: put, del, has key by key; as entries of a map as it is read; a list's entries with other values.
-/
import Derived.Test.YtedcabnjcbdkaaaD4More
import Derived.Maps.OwnSet
import Derived.Maps.Ext
namespace Go.Proofs.Ytedcabnjcbdkaaa
open Go.RowKit Go.Shelf Go.Sort
open Go.Lib hiding intOf
variable {V U : Type}

theorem rise_cons {x : ByteArray × V} {r : List (ByteArray × V)} : Rise (x :: r) ↔ (∀ e ∈ r, lt x.1 e.1 = true) ∧ Rise r := List.pairwise_cons
theorem has_cons_lt {y : ByteArray × V} {es : List (ByteArray × V)} {k : ByteArray} (h : lt y.1 k = true) : has (y :: es) k = has es k := by
  have hp : pos (y :: es) k = pos es k + 1 := by simp [pos, h]
  simp [has, hp]
theorem pos_cons_lt {y : ByteArray × V} {es : List (ByteArray × V)} {k : ByteArray} (h : lt y.1 k = true) : pos (y :: es) k = pos es k + 1 := by simp [pos, h]
theorem pos_cons_ge {y : ByteArray × V} {es : List (ByteArray × V)} {k : ByteArray} (h : lt y.1 k = false) : pos (y :: es) k = 0 := by simp [pos, h]
theorem has_cons_eq {y : ByteArray × V} {es : List (ByteArray × V)} : has (y :: es) y.1 = true := by
  have hp : pos (y :: es) y.1 = 0 := pos_cons_ge (lt_irrefl _)
  simp [has, hp]
theorem has_cons_gt {y : ByteArray × V} {es : List (ByteArray × V)} {k : ByteArray} (h : lt k y.1 = true) : has (y :: es) k = false := by
  have hp : pos (y :: es) k = 0 := pos_cons_ge (lt_asymm h)
  have hne : y.1 ≠ k := by rintro rfl; rw [lt_irrefl] at h; cases h
  simp only [has, hp, List.getElem?_cons_zero, beq_eq_false_iff_ne]
  intro e
  exact hne (key_ext (by simpa [Lib.toList_data] using e))
theorem put_nil (k : ByteArray) (v : V) : put [] k v = [(k, v)] := by simp [put, has, pos]
theorem put_cons_lt {y : ByteArray × V} {es : List (ByteArray × V)} {k : ByteArray} {v : V} (h : lt y.1 k = true) : put (y :: es) k v = y :: put es k v := by
  simp only [put, has_cons_lt h, pos_cons_lt h]
  split <;> simp
theorem put_cons_eq {y : ByteArray × V} {es : List (ByteArray × V)} {v : V} : put (y :: es) y.1 v = (y.1, v) :: es := by
  simp [put, has_cons_eq, pos_cons_ge (es := es) (lt_irrefl y.1)]
theorem put_cons_gt {y : ByteArray × V} {es : List (ByteArray × V)} {k : ByteArray} {v : V} (h : lt k y.1 = true) : put (y :: es) k v = (k, v) :: y :: es := by
  simp [put, has_cons_gt h, pos_cons_ge (es := es) (lt_asymm h)]
theorem del_cons_lt {y : ByteArray × V} {es : List (ByteArray × V)} {k : ByteArray} (h : lt y.1 k = true) : del (y :: es) k = y :: del es k := by
  simp only [del, has_cons_lt h, pos_cons_lt h]
  split <;> simp
theorem del_cons_eq {y : ByteArray × V} {es : List (ByteArray × V)} : del (y :: es) y.1 = es := by
  simp [del, has_cons_eq, pos_cons_ge (es := es) (lt_irrefl y.1)]
theorem del_cons_gt {y : ByteArray × V} {es : List (ByteArray × V)} {k : ByteArray} (h : lt k y.1 = true) : del (y :: es) k = y :: es := by
  simp [del, has_cons_gt h]
/-- of two keys one is less, or they are one -/
theorem lt_three (a b : ByteArray) : lt a b = true ∨ a = b ∨ lt b a = true := by
  cases h : lt a b with
  | true => exact .inl rfl
  | false =>
    cases h' : lt b a with
    | true => exact .inr (.inr rfl)
    | false => exact .inr (.inl (lt_total h h'))
theorem rise_ne {x : ByteArray × V} {r : List (ByteArray × V)} (h : Rise (x :: r)) {e : ByteArray × V} (he : e ∈ r) : e.1 ≠ x.1 := by
  intro e1
  have := (rise_cons.1 h).1 e he
  rw [e1, lt_irrefl] at this
  cases this
theorem mem_put {es : List (ByteArray × V)} (hs : Rise es) (k : ByteArray) (v : V) (e : ByteArray × V) : e ∈ put es k v ↔ e = (k, v) ∨ (e ∈ es ∧ e.1 ≠ k) := by
  induction es with
  | nil => simp [put_nil]
  | cons y r ih =>
    rcases lt_three y.1 k with h | h | h
    · have hne : y.1 ≠ k := by rintro rfl; rw [lt_irrefl] at h; cases h
      rw [put_cons_lt h, List.mem_cons, ih hs.tail, List.mem_cons]
      constructor
      · rintro (rfl | h1 | ⟨h1, h2⟩)
        · exact .inr ⟨.inl rfl, hne⟩
        · exact .inl h1
        · exact .inr ⟨.inr h1, h2⟩
      · rintro (h1 | ⟨rfl | h1, h2⟩)
        · exact .inr (.inl h1)
        · exact .inl rfl
        · exact .inr (.inr ⟨h1, h2⟩)
    · subst h
      rw [put_cons_eq, List.mem_cons, List.mem_cons]
      constructor
      · rintro (h1 | h1)
        · exact .inl h1
        · exact .inr ⟨.inr h1, rise_ne hs h1⟩
      · rintro (h1 | ⟨rfl | h1, h2⟩)
        · exact .inl h1
        · exact absurd rfl h2
        · exact .inr h1
    · rw [put_cons_gt h, List.mem_cons]
      constructor
      · rintro (h1 | h1)
        · exact .inl h1
        · refine .inr ⟨h1, ?_⟩
          rintro rfl
          rcases List.mem_cons.1 h1 with rfl | h1
          · rw [lt_irrefl] at h; cases h
          · have := (rise_cons.1 hs).1 e h1
            rw [lt_asymm h] at this; cases this
      · rintro (h1 | ⟨h1, _⟩)
        · exact .inl h1
        · exact .inr h1
theorem mem_del {es : List (ByteArray × V)} (hs : Rise es) (k : ByteArray) (e : ByteArray × V) : e ∈ del es k ↔ e ∈ es ∧ e.1 ≠ k := by
  induction es with
  | nil => simp [del, has]
  | cons y r ih =>
    rcases lt_three y.1 k with h | h | h
    · have hne : y.1 ≠ k := by rintro rfl; rw [lt_irrefl] at h; cases h
      rw [del_cons_lt h, List.mem_cons, ih hs.tail, List.mem_cons]
      constructor
      · rintro (rfl | ⟨h1, h2⟩)
        · exact ⟨.inl rfl, hne⟩
        · exact ⟨.inr h1, h2⟩
      · rintro ⟨rfl | h1, h2⟩
        · exact .inl rfl
        · exact .inr ⟨h1, h2⟩
    · subst h
      rw [del_cons_eq, List.mem_cons]
      constructor
      · intro h1; exact ⟨.inr h1, rise_ne hs h1⟩
      · rintro ⟨rfl | h1, h2⟩
        · exact absurd rfl h2
        · exact h1
    · rw [del_cons_gt h]
      constructor
      · intro h1
        refine ⟨h1, ?_⟩
        rintro rfl
        rcases List.mem_cons.1 h1 with rfl | h1
        · rw [lt_irrefl] at h; cases h
        · have := (rise_cons.1 hs).1 e h1
          rw [lt_asymm h] at this; cases this
      · exact fun h1 => h1.1
/-- the key is there: its entry -/
theorem has_mem {es : List (ByteArray × V)} {k : ByteArray} (h : has es k = true) : ∃ v, (k, v) ∈ es := by
  obtain ⟨hp, hk⟩ := has_lt h
  have h1 : es[pos es k] ∈ es := List.getElem_mem hp
  generalize es[pos es k] = x at *
  exact ⟨x.2, by rw [← hk]; exact h1⟩
theorem mem_has {es : List (ByteArray × V)} (hs : Rise es) {e : ByteArray × V} (h : e ∈ es) : has es e.1 = true := by
  induction es with
  | nil => cases h
  | cons y r ih =>
    rcases List.mem_cons.1 h with rfl | h
    · exact has_cons_eq
    · rw [has_cons_lt ((rise_cons.1 hs).1 e h)]
      exact ih hs.tail h
theorem has_iff {es : List (ByteArray × V)} (hs : Rise es) (k : ByteArray) : has es k = true ↔ ∃ v, (k, v) ∈ es := ⟨has_mem, fun ⟨_, h⟩ => mem_has hs h⟩
theorem rise_inj {es : List (ByteArray × V)} (hs : Rise es) {a b : ByteArray × V} (ha : a ∈ es) (hb : b ∈ es) (h : a.1 = b.1) : a = b := by
  induction es with
  | nil => cases ha
  | cons y r ih =>
    rcases List.mem_cons.1 ha with ha' | ha' <;> rcases List.mem_cons.1 hb with hb' | hb'
    · rw [ha', hb']
    · subst ha'; exact absurd h.symm (rise_ne hs hb')
    · subst hb'; exact absurd h (rise_ne hs ha')
    · exact ih hs.tail ha' hb'
theorem put_same {es : List (ByteArray × V)} {k : ByteArray} {v : V} (hs : Rise es) (h : (k, v) ∈ es) : put es k v = es := by
  induction es with
  | nil => cases h
  | cons y r ih =>
    rcases List.mem_cons.1 h with rfl | h
    · exact put_cons_eq
    · rw [put_cons_lt ((rise_cons.1 hs).1 _ h), ih hs.tail h]
/-- a key that is there: its place -/
theorem put_at {es : List (ByteArray × V)} (hs : Rise es) {i : Nat} (hi : i < es.length) (v : V) : put es es[i].1 v = es.set i (es[i].1, v) := by
  induction es generalizing i with
  | nil => simp at hi
  | cons y r ih =>
    cases i with
    | zero => exact put_cons_eq
    | succ j =>
      have hj : j < r.length := by simpa using hi
      simp only [List.getElem_cons_succ, List.set_cons_succ]
      rw [put_cons_lt ((rise_cons.1 hs).1 _ (List.getElem_mem hj)), ih hs.tail hj]
theorem del_at {es : List (ByteArray × V)} (hs : Rise es) {i : Nat} (hi : i < es.length) : del es es[i].1 = es.eraseIdx i := by
  induction es generalizing i with
  | nil => simp at hi
  | cons y r ih =>
    cases i with
    | zero => exact del_cons_eq
    | succ j =>
      have hj : j < r.length := by simpa using hi
      simp only [List.getElem_cons_succ, List.eraseIdx_cons_succ]
      rw [del_cons_lt ((rise_cons.1 hs).1 _ (List.getElem_mem hj)), ih hs.tail hj]
/-- where a name stands, by the entries -/
theorem fidx_has {fs : List Fil} (hs : Rise fs) (k : ByteArray) : fidx fs k = if has fs k then some (pos fs k) else none := by
  induction fs with
  | nil => simp [fidx, has]
  | cons y r ih =>
    have ih := ih hs.tail
    unfold fidx at ih ⊢
    rw [List.findIdx?_cons]
    rcases lt_three y.1 k with h | h | h
    · have hne : (y.1.toList == k.toList) = false := by
        rw [beq_eq_false_iff_ne]; intro e
        have : y.1 = k := key_ext (by simpa [Lib.toList_data] using e)
        subst this; rw [lt_irrefl] at h; cases h
      rw [has_cons_lt h, pos_cons_lt h, hne, ih]
      cases has r k <;> simp
    · subst h
      rw [has_cons_eq, pos_cons_ge (lt_irrefl _)]
      simp
    · have hne : (y.1.toList == k.toList) = false := by
        rw [beq_eq_false_iff_ne]; intro e
        have : y.1 = k := key_ext (by simpa [Lib.toList_data] using e)
        subst this; rw [lt_irrefl] at h; cases h
      have hr : has r k = false := by
        cases hh : has r k with
        | false => rfl
        | true =>
          obtain ⟨v, hv⟩ := has_mem hh
          have := (rise_cons.1 hs).1 _ hv
          rw [lt_asymm h] at this; cases this
      rw [has_cons_gt h, hne, ih, hr]
      simp

/-- the same entries with other values -/
def vals (φ : V → U) (es : List (ByteArray × V)) : List (ByteArray × U) := es.map fun e => (e.1, φ e.2)
theorem vals_cons (φ : V → U) (e : ByteArray × V) (es : List (ByteArray × V)) : vals φ (e :: es) = (e.1, φ e.2) :: vals φ es := rfl
theorem vals_len (φ : V → U) (es : List (ByteArray × V)) : (vals φ es).length = es.length := by simp [vals]
theorem vals_has (φ : V → U) (es : List (ByteArray × V)) (k : ByteArray) : has (vals φ es) k = has es k ∧ pos (vals φ es) k = pos es k := by
  induction es with
  | nil => exact ⟨rfl, rfl⟩
  | cons y r ih =>
    rw [vals_cons]
    rcases lt_three y.1 k with h | h | h
    · rw [has_cons_lt h, has_cons_lt (y := (y.1, φ y.2)) h, pos_cons_lt h, pos_cons_lt (y := (y.1, φ y.2)) h, ih.1, ih.2]; exact ⟨rfl, rfl⟩
    · subst h
      exact ⟨(has_cons_eq (y := (y.1, φ y.2))).trans has_cons_eq.symm, (pos_cons_ge (y := (y.1, φ y.2)) (lt_irrefl _)).trans (pos_cons_ge (lt_irrefl _)).symm⟩
    · rw [has_cons_gt h, has_cons_gt (y := (y.1, φ y.2)) h, pos_cons_ge (lt_asymm h), pos_cons_ge (y := (y.1, φ y.2)) (lt_asymm h)]; exact ⟨rfl, rfl⟩
theorem vals_put (φ : V → U) (es : List (ByteArray × V)) (k : ByteArray) (v : V) : vals φ (put es k v) = put (vals φ es) k (φ v) := by
  induction es with
  | nil => simp [put_nil, vals]
  | cons y r ih =>
    rcases lt_three y.1 k with h | h | h
    · rw [put_cons_lt h, vals_cons, vals_cons, put_cons_lt (y := (y.1, φ y.2)) h, ih]
    · subst h
      rw [put_cons_eq, vals_cons, vals_cons, put_cons_eq (y := (y.1, φ y.2))]
    · rw [put_cons_gt h, vals_cons, vals_cons, put_cons_gt (y := (y.1, φ y.2)) h]
theorem vals_del (φ : V → U) (es : List (ByteArray × V)) (k : ByteArray) : vals φ (del es k) = del (vals φ es) k := by
  induction es with
  | nil => rfl
  | cons y r ih =>
    rcases lt_three y.1 k with h | h | h
    · rw [del_cons_lt h, vals_cons, vals_cons, del_cons_lt (y := (y.1, φ y.2)) h, ih]
    · subst h
      rw [del_cons_eq, vals_cons, del_cons_eq (y := (y.1, φ y.2))]
    · rw [del_cons_gt h, vals_cons, del_cons_gt (y := (y.1, φ y.2)) h]
theorem vals_rise (φ : V → U) (es : List (ByteArray × V)) : Rise (vals φ es) ↔ Rise es := by
  unfold Rise vals
  rw [List.pairwise_map]

/-- the entries of a map as it is read -/
def ents (φ : V → DataW Unit) (es : List (ByteArray × V)) : List (Lit × DataW Unit) := es.map fun e => (.string e.1.data.toList, φ e.2)
theorem ents_cons (φ : V → DataW Unit) (e : ByteArray × V) (es : List (ByteArray × V)) : ents φ (e :: es) = (.string e.1.data.toList, φ e.2) :: ents φ es := rfl
theorem ents_len (φ : V → DataW Unit) (es : List (ByteArray × V)) : (ents φ es).length = es.length := by simp [ents]
theorem same_str (a k : ByteArray) : (Lit.string a.data.toList).sameKey (.string k.data.toList) = true ↔ a = k := by
  simp only [Lit.sameKey, beq_iff_eq]
  exact ⟨key_ext, fun h => by rw [h]⟩
theorem same_no {a k : ByteArray} (h : a ≠ k) : (Lit.string a.data.toList).sameKey (.string k.data.toList) = false := by
  rw [← Bool.not_eq_true, same_str]; exact h
theorem before_lt : ∀ (a b : List UInt8), bytesBefore a b = decide (a < b)
  | [], [] => by simp [bytesBefore]
  | [], _ :: _ => by simp [bytesBefore]
  | _ :: _, [] => by simp [bytesBefore]
  | x :: r, y :: s => by
    rw [bytesBefore, before_lt r s]
    have e : (x == y) = decide (x = y) := by
      by_cases h : x = y <;> simp [h]
    rw [e]
    simp [List.cons_lt_cons_iff]
theorem before_str (a b : ByteArray) : (Lit.string a.data.toList).before (.string b.data.toList) = lt a b := by
  simp only [Lit.before, before_lt]
  cases h : lt a b with
  | true => simpa using (lt_iff a b).1 h
  | false =>
    rw [decide_eq_false_iff_not]
    intro h'
    rw [(lt_iff a b).2 h'] at h; cases h
theorem ents_keep (φ : V → DataW Unit) (es : List (ByteArray × V)) (k : ByteArray) (h : ∀ e ∈ es, e.1 ≠ k) : (ents φ es).filter (fun p => !p.1.sameKey (.string k.data.toList)) = ents φ es := by
  rw [List.filter_eq_self]
  intro p hp
  obtain ⟨e, he, rfl⟩ := List.mem_map.1 hp
  simp [same_no (h e he)]
theorem above_ne {y : ByteArray × V} {r : List (ByteArray × V)} {k : ByteArray} (hs : Rise (y :: r)) (h : lt k y.1 = true) : ∀ e ∈ y :: r, e.1 ≠ k := by
  intro e he e1
  subst e1
  rcases List.mem_cons.1 he with rfl | he
  · rw [lt_irrefl] at h; cases h
  · have := (rise_cons.1 hs).1 e he
    rw [lt_asymm h] at this; cases this
theorem ents_put (φ : V → DataW Unit) {es : List (ByteArray × V)} (hs : Rise es) (k : ByteArray) (v : V) : (DataW.map (ents φ es)).put (.string k.data.toList) (φ v) = .map (ents φ (put es k v)) := by
  show DataW.map (DataW.insert (.string k.data.toList, φ v) ((ents φ es).filter fun p => !p.1.sameKey (.string k.data.toList))) = _
  congr 1
  induction es with
  | nil => simp [ents, put_nil, DataW.insert]
  | cons y r ih =>
    have ih := ih hs.tail
    rcases lt_three y.1 k with h | h | h
    · have hne : y.1 ≠ k := by rintro rfl; rw [lt_irrefl] at h; cases h
      rw [put_cons_lt h, ents_cons, ents_cons, List.filter_cons, same_no hne]
      simp only [Bool.not_false, if_true]
      rw [DataW.insert, before_str, lt_asymm h]
      simp only [Bool.false_eq_true, if_false]
      rw [ih]
    · subst h
      rw [put_cons_eq, ents_cons, ents_cons, List.filter_cons, (same_str y.1 y.1).2 rfl]
      simp only [Bool.not_true, Bool.false_eq_true, if_false]
      rw [ents_keep φ r y.1 (fun e he => rise_ne hs he)]
      cases r with
      | nil => rfl
      | cons z s => rw [ents_cons, DataW.insert, before_str, (rise_cons.1 hs).1 z (by simp)]; rfl
    · rw [put_cons_gt h, ents_keep φ (y :: r) k (above_ne hs h), ents_cons, DataW.insert, before_str, h]
      rfl
theorem ents_del (φ : V → DataW Unit) {es : List (ByteArray × V)} (hs : Rise es) (k : ByteArray) : (DataW.map (ents φ es)).del (.string k.data.toList) = .map (ents φ (del es k)) := by
  show DataW.map ((ents φ es).filter fun p => !p.1.sameKey (.string k.data.toList)) = _
  congr 1
  induction es with
  | nil => rfl
  | cons y r ih =>
    have ih := ih hs.tail
    rcases lt_three y.1 k with h | h | h
    · have hne : y.1 ≠ k := by rintro rfl; rw [lt_irrefl] at h; cases h
      rw [del_cons_lt h, ents_cons, ents_cons, List.filter_cons, same_no hne]
      simp only [Bool.not_false, if_true]
      rw [ih]
    · subst h
      rw [del_cons_eq, ents_cons, List.filter_cons, (same_str y.1 y.1).2 rfl]
      simp only [Bool.not_true, Bool.false_eq_true, if_false]
      exact ents_keep φ r y.1 (fun e he => rise_ne hs he)
    · rw [del_cons_gt h]
      exact ents_keep φ (y :: r) k (above_ne hs h)
theorem ents_has (φ : V → DataW Unit) {es : List (ByteArray × V)} (hs : Rise es) (k : ByteArray) : Maps.has (DataW.map (ents φ es)) (.string k.data.toList) = has es k := by
  rw [Maps.has_eq]
  cases h : has es k with
  | true =>
    obtain ⟨v, hv⟩ := has_mem h
    rw [List.any_eq_true]
    exact ⟨_, List.mem_map.2 ⟨_, hv, rfl⟩, (same_str k k).2 rfl⟩
  | false =>
    rw [List.any_eq_false]
    intro p hp
    obtain ⟨e, he, rfl⟩ := List.mem_map.1 hp
    intro h1
    have := (same_str _ _).1 h1
    subst this
    rw [mem_has hs he] at h; cases h
theorem ents_at (φ : V → DataW Unit) {es : List (ByteArray × V)} (hs : Rise es) {k : ByteArray} {v : V} (h : (k, v) ∈ es) (z : DataW Unit) : (DataW.map (ents φ es)).atKey (.string k.data.toList) z = φ v := by
  unfold DataW.atKey
  simp only
  have : (ents φ es).find? (fun p => p.1.sameKey (.string k.data.toList)) = some (.string k.data.toList, φ v) := by
    induction es with
    | nil => cases h
    | cons y r ih =>
      rw [ents_cons, List.find?_cons]
      rcases List.mem_cons.1 h with rfl | h
      · rw [(same_str k k).2 rfl]
      · rw [same_no (fun e => rise_ne hs h e.symm)]
        exact ih hs.tail h
  rw [this]
theorem ents_no (φ : V → DataW Unit) {es : List (ByteArray × V)} (hs : Rise es) {k : ByteArray} (h : has es k = false) (z : DataW Unit) : (DataW.map (ents φ es)).atKey (.string k.data.toList) z = z := by
  unfold DataW.atKey
  simp only
  have : (ents φ es).find? (fun p => p.1.sameKey (.string k.data.toList)) = none := by
    rw [List.find?_eq_none]
    intro p hp
    obtain ⟨e, he, rfl⟩ := List.mem_map.1 hp
    intro h1
    have := (same_str _ _).1 h1
    subst this
    rw [mem_has hs he] at h; cases h
  rw [this]
end Go.Proofs.Ytedcabnjcbdkaaa

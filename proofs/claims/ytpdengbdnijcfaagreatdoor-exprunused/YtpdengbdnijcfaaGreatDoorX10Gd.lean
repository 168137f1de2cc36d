/-
  What reading parts leaves, as plain facts.
-/
import Derived.Test.YtpdengbdnijcfaaGreatDoorX10Pure
namespace Go.Proofs.YtpdengbdnijcfaaGreatDoor.x10

/-- a reader as it may be -/
structure Gd (s : List UInt8) (st : Rs) : Prop where
  b : st.beh ≤ s.length
  p : st.parts.length ≤ 100
  n : st.nest ≤ 20
theorem tok_le {b : Nat} {l : List UInt8} {t : Tk} {n : Nat} (h : tok b l = .ok (t, n)) : n ≤ l.length := by
  unfold tok at h
  split at h
  · cases h; simp
  · rename_i c r
    have tw : ∀ p : UInt8 → Bool, ((c :: r).takeWhile p).length ≤ (c :: r).length := fun p => (List.takeWhile_prefix p).length_le
    split at h
    · simp only at h
      split at h
      · cases h; exact tw kD
      · cases h
    · split at h
      · simp only at h
        split at h
        · cases h; exact tw kW
        · cases h
      · split at h
        · simp only at h
          split at h
          · cases h; exact Nat.sub_le _ _
          · cases h
        · split at h
          · rename_i m hm
            cases h
            unfold mkOf at hm
            have := List.find?_some hm
            exact (List.isPrefixOf_iff_prefix.1 this).length_le
          · cases h
theorem spn_le' (p : UInt8 → Bool) (l : List UInt8) : spn p l ≤ l.length := (List.takeWhile_prefix p).length_le
theorem nxt_ok {s : List UInt8} {st st' : Rs} (hg : Gd s st) (h : nxt s st = .ok st') : Gd s st' ∧ st'.nest = st.nest ∧ st'.parts = st.parts := by
  unfold nxt at h
  simp only at h
  split at h
  · rename_i t n ht
    have h1 := tok_le ht
    have h2 := spn_le' kB (s.drop st.beh)
    have h3 := hg.b
    rw [List.length_drop] at h1 h2
    cases h
    exact ⟨⟨by simp only; omega, hg.p, hg.n⟩, rfl, rfl⟩
  · cases h
  · cases h
theorem putP_ok {s : List UInt8} {p : P10} {st st' : Rs} (hg : Gd s st) (h : putP p st = .ok st') : Gd s st' ∧ st'.nest = st.nest ∧ st'.parts.length = st.parts.length + 1 := by
  unfold putP at h
  split at h
  · cases h
  · rename_i hn
    cases h
    have := hg.p
    exact ⟨⟨hg.b, by simp only; rw [List.length_append, List.length_singleton]; omega, hg.n⟩, rfl, by simp⟩
theorem bind_ok {α β : Type} {x : Ot α} {f : α → Ot β} {y : β} (h : x.bind f = .ok y) : ∃ a, x = .ok a ∧ f a = .ok y := by
  cases x with
  | ok a => exact ⟨a, rfl, h⟩
  | no e a => cases h
  | out => cases h
/-- what reading something leaves: the reader as it may be, as deep as before, so many parts more at least -/
def Gr (s : List UInt8) (k : Nat) (st st' : Rs) : Prop := Gd s st' ∧ st'.nest = st.nest ∧ st.parts.length + k ≤ st'.parts.length
theorem Gr.trans {s : List UInt8} {j k : Nat} {a b c : Rs} (h : Gr s j a b) (h2 : Gr s k b c) : Gr s (j + k) a c := ⟨h2.1, h2.2.1.trans h.2.1, by have := h.2.2; have := h2.2.2; omega⟩
theorem Gr.less {s : List UInt8} {j k : Nat} {a b : Rs} (h : Gr s j a b) (hk : k ≤ j) : Gr s k a b := ⟨h.1, h.2.1, by have := h.2.2; omega⟩
theorem nxt_gr {s : List UInt8} {st st' : Rs} (hg : Gd s st) (h : nxt s st = .ok st') : Gr s 0 st st' := by
  obtain ⟨h1, h2, h3⟩ := nxt_ok hg h
  exact ⟨h1, h2, by rw [h3]; omega⟩
theorem put_gr {s : List UInt8} {p : P10} {st st' : Rs} (hg : Gd s st) (h : putP p st = .ok st') : Gr s 1 st st' := by
  obtain ⟨h1, h2, h3⟩ := putP_ok hg h
  exact ⟨h1, h2, by omega⟩
theorem leaf_gr {s : List UInt8} {op : Int} {v : V9} {st st' : Rs} (hg : Gd s st) (h : leaf s op v st = .ok st') : Gr s 1 st st' := by
  obtain ⟨a, h1, h2⟩ := bind_ok h
  have g1 := nxt_gr hg h1
  exact (g1.trans (put_gr g1.1 h2)).less (by omega)
theorem must_gr {s m : List UInt8} {st st' : Rs} (hg : Gd s st) (h : must s m st = .ok st') : Gr s 0 st st' := by
  unfold must at h
  split at h
  · exact nxt_gr hg h
  · cases h
theorem gr_all (s : List UInt8) : ∀ n, (∀ lv st st', Gd s st → opds s n lv st = .ok st' → Gr s 1 st st') ∧ (∀ lv a st st', Gd s st → more s n lv a st = .ok st' → Gr s 0 st st') ∧ (∀ st st', Gd s st → opd s n st = .ok st' → Gr s 1 st st') ∧ (∀ w st st', Gd s st → aftW s n w st = .ok st' → Gr s 1 st st') ∧ (∀ m st st', Gd s st → aftM s n m st = .ok st' → Gr s 1 st st') ∧ ∀ st st', Gd s st → inBr s n st = .ok st' → Gr s 1 st st' := by
  intro n
  induction n with
  | zero => exact ⟨fun _ _ _ _ h => (by cases h), fun _ _ _ _ _ h => (by cases h), fun _ _ _ h => (by cases h), fun _ _ _ _ h => (by cases h), fun _ _ _ _ h => (by cases h), fun _ _ _ h => (by cases h)⟩
  | succ n ih =>
    obtain ⟨i1, i2, i3, i4, i5, i6⟩ := ih
    refine ⟨fun lv st st' hg h => ?_, fun lv a st st' hg h => ?_, fun st st' hg h => ?_, fun w st st' hg h => ?_, fun m st st' hg h => ?_, fun st st' hg h => ?_⟩
    · rw [opds] at h
      obtain ⟨a, h1, h2⟩ := bind_ok h
      have g1 := i3 _ _ hg h1
      exact g1.trans (i2 _ _ _ _ g1.1 h2)
    · rw [more] at h
      try simp only at h
      split at h
      · cases h; exact ⟨hg, rfl, Nat.le_refl _⟩
      · obtain ⟨a1, h1, h2⟩ := bind_ok h
        obtain ⟨a2, h3, h4⟩ := bind_ok h2
        obtain ⟨a3, h5, h6⟩ := bind_ok h4
        have g1 := nxt_gr hg h1
        have g2 := i1 _ _ _ g1.1 h3
        have g3 := put_gr g2.1 h5
        exact (((g1.trans g2).trans g3).trans (i2 _ _ _ _ g3.1 h6)).less (by omega)
    · rw [opd] at h
      split at h
      · cases h
      · rename_i hn20
        simp only at h
        obtain ⟨a, h1, h2⟩ := bind_ok h
        have hgn := hg.n
        have hg1 : Gd s { st with nest := st.nest + 1 } := ⟨hg.b, hg.p, by simp only; omega⟩
        have g1 : Gr s 1 { st with nest := st.nest + 1 } a := by
          split at h1
          · exact leaf_gr hg1 h1
          · split at h1
            · exact i4 _ _ _ hg1 h1
            · split at h1
              · exact i5 _ _ _ hg1 h1
              · cases h1
        cases h2
        exact ⟨⟨g1.1.b, g1.1.p, by have := g1.1.n; simp only; omega⟩, by have := g1.2.1; simp only at this ⊢; omega, g1.2.2⟩
    · rw [aftW] at h
      split at h
      · cases h
      · split at h
        · exact leaf_gr hg h
        · split at h
          · obtain ⟨a1, h1, h2⟩ := bind_ok h
            obtain ⟨a2, h3, h4⟩ := bind_ok h2
            have g1 := nxt_gr hg h1
            have g2 := i3 _ _ g1.1 h3
            exact ((g1.trans g2).trans (put_gr g2.1 h4)).less (by omega)
          · split at h
            · obtain ⟨a1, h1, h2⟩ := bind_ok h
              obtain ⟨a2, h3, h4⟩ := bind_ok h2
              have g1 := nxt_gr hg h1
              have g2 := i6 _ _ g1.1 h3
              exact ((g1.trans g2).trans (put_gr g2.1 h4)).less (by omega)
            · exact leaf_gr hg h
    · rw [aftM] at h
      split at h
      · exact i6 _ _ hg h
      · split at h
        · obtain ⟨a1, h1, h2⟩ := bind_ok h
          obtain ⟨a2, h3, h4⟩ := bind_ok h2
          have g1 := nxt_gr hg h1
          have g2 := i3 _ _ g1.1 h3
          exact ((g1.trans g2).trans (put_gr g2.1 h4)).less (by omega)
        · cases h
    · rw [inBr] at h
      obtain ⟨a1, h1, h2⟩ := bind_ok h
      obtain ⟨a2, h3, h4⟩ := bind_ok h2
      have g1 := must_gr hg h1
      have g2 := i1 _ _ _ g1.1 h3
      exact ((g1.trans g2).trans (must_gr g2.1 h4)).less (by omega)
end Go.Proofs.YtpdengbdnijcfaaGreatDoor.x10

/-
  The values that a text's parts have are small, as plain facts.
-/
import Derived.Test.YtpdengbdnijcfaaGreatDoorX10Fue
import Derived.Test.YtpdengbdnijcfaaGreatDoorV9May
namespace Go.Proofs.YtpdengbdnijcfaaGreatDoor.x10
open Go.RowKit Go.Shelf Go.Sort
open Go.Lib hiding intOf

/-- a small value -/
def Pk (v : V9) : Prop := Vk v ∧ v.2.2.length ≤ 512
/-- a reader whose values are small -/
structure Bd (st : Rs) : Prop where
  v : Pk st.now.v
  s : st.now.s.length ≤ 512
  p : ∀ p ∈ st.parts, Pk p.2.2.2
theorem pk_v0 : Pk v0 := ⟨⟨⟨by decide, by decide⟩, ⟨by decide, by decide⟩, by decide⟩, by decide⟩
theorem pk_tru (b : Bool) : Pk (truV b) := by cases b <;> exact ⟨⟨⟨by decide, by decide⟩, ⟨by decide, by decide⟩, by decide⟩, by decide⟩
theorem pk_txt {w : List UInt8} (h : w.length ≤ 512) : Pk (3, 0, w) := ⟨⟨⟨by show (-9223372036854775808 : Int) ≤ 3; omega, by show (3 : Int) ≤ 9223372036854775807; omega⟩, ⟨by show (-9223372036854775808 : Int) ≤ 0; omega, by show (0 : Int) ≤ 9223372036854775807; omega⟩, by show w.length ≤ _; omega⟩, h⟩
theorem txs_len : ∀ (n : Nat) (acc l : List UInt8), (txs n acc l).1.length ≤ acc.length + n
  | 0, acc, l => Nat.le_refl _
  | n + 1, acc, l => by
    unfold txs
    split
    · simp only; omega
    · have := txs_len n (acc ++ [(rdB1 l).1]) (l.drop (rdB1 l).2)
      rw [List.length_append, List.length_singleton] at this
      omega
theorem tok_bd {b : Nat} {l : List UInt8} {t : Tk} {n : Nat} (hl : l.length ≤ 512) (h : tok b l = .ok (t, n)) : Pk t.v ∧ t.s.length ≤ 512 := by
  unfold tok at h
  split at h
  · cases h; exact ⟨pk_v0, Nat.zero_le _⟩
  · rename_i c r
    have tw : ∀ p : UInt8 → Bool, ((c :: r).takeWhile p).length ≤ (c :: r).length := fun p => (List.takeWhile_prefix p).length_le
    split at h
    · simp only at h
      split at h
      · rename_i hn
        cases h
        refine ⟨⟨⟨⟨by show (-9223372036854775808 : Int) ≤ 1; omega, by show (1 : Int) ≤ 9223372036854775807; omega⟩, ⟨?_, ?_⟩, Nat.zero_le _⟩, Nat.zero_le _⟩, Nat.zero_le _⟩
        · show (-9223372036854775808 : Int) ≤ (numD _ : Int)
          omega
        · show (numD _ : Int) ≤ 9223372036854775807
          have := hn.1
          omega
      · cases h
    · split at h
      · simp only at h
        split at h
        · cases h; exact ⟨pk_v0, Nat.le_trans (tw kW) hl⟩
        · cases h
      · split at h
        · simp only at h
          split at h
          · cases h
            refine ⟨pk_txt ?_, Nat.zero_le _⟩
            have := txs_len (c :: r).length [] ((c :: r).drop 1)
            rw [List.length_nil] at this
            omega
          · cases h
        · split at h
          · rename_i m hm
            cases h
            unfold mkOf at hm
            have := List.find?_some hm
            exact ⟨pk_v0, Nat.le_trans (List.isPrefixOf_iff_prefix.1 this).length_le hl⟩
          · cases h
variable {s : List UInt8}
theorem nxt_bd (hs : s.length ≤ 512) {st st' : Rs} (hg : Bd st) (h : nxt s st = .ok st') : Bd st' := by
  unfold nxt at h
  simp only at h
  split at h
  · rename_i t n ht
    have h1 := tok_bd (by rw [List.length_drop]; omega) ht
    cases h
    exact ⟨h1.1, h1.2, hg.p⟩
  · cases h
  · cases h
theorem put_bd {p : P10} {st st' : Rs} (hp : Pk p.2.2.2) (hg : Bd st) (h : putP p st = .ok st') : Bd st' := by
  unfold putP at h
  split at h
  · cases h
  · cases h
    refine ⟨hg.v, hg.s, fun q hq => ?_⟩
    rcases List.mem_append.1 hq with hq | hq
    · exact hg.p q hq
    · rw [List.mem_singleton] at hq; subst hq; exact hp
theorem leaf_bd (hs : s.length ≤ 512) {op : Int} {v : V9} {st st' : Rs} (hv : Pk v) (hg : Bd st) (h : leaf s op v st = .ok st') : Bd st' := by
  obtain ⟨a, h1, h2⟩ := bind_ok h
  exact put_bd hv (nxt_bd hs hg h1) h2
theorem must_bd (hs : s.length ≤ 512) {m : List UInt8} {st st' : Rs} (hg : Bd st) (h : must s m st = .ok st') : Bd st' := by
  unfold must at h
  split at h
  · exact nxt_bd hs hg h
  · cases h
theorem bd_all (hs : s.length ≤ 512) : ∀ n, (∀ lv st st', Bd st → opds s n lv st = .ok st' → Bd st') ∧ (∀ lv a st st', Bd st → more s n lv a st = .ok st' → Bd st') ∧ (∀ st st', Bd st → opd s n st = .ok st' → Bd st') ∧ (∀ w st st', w.length ≤ 512 → Bd st → aftW s n w st = .ok st' → Bd st') ∧ (∀ m st st', Bd st → aftM s n m st = .ok st' → Bd st') ∧ ∀ st st', Bd st → inBr s n st = .ok st' → Bd st' := by
  intro n
  induction n with
  | zero => exact ⟨fun _ _ _ _ h => (by cases h), fun _ _ _ _ _ h => (by cases h), fun _ _ _ h => (by cases h), fun _ _ _ _ _ h => (by cases h), fun _ _ _ _ h => (by cases h), fun _ _ _ h => (by cases h)⟩
  | succ n ih =>
    obtain ⟨i1, i2, i3, i4, i5, i6⟩ := ih
    refine ⟨fun lv st st' hg h => ?_, fun lv a st st' hg h => ?_, fun st st' hg h => ?_, fun w st st' hw hg h => ?_, fun m st st' hg h => ?_, fun st st' hg h => ?_⟩
    · rw [opds] at h
      obtain ⟨a, h1, h2⟩ := bind_ok h
      exact i2 _ _ _ _ (i3 _ _ hg h1) h2
    · rw [more] at h
      try simp only at h
      split at h
      · cases h; exact hg
      · obtain ⟨a1, h1, h2⟩ := bind_ok h
        obtain ⟨a2, h3, h4⟩ := bind_ok h2
        obtain ⟨a3, h5, h6⟩ := bind_ok h4
        exact i2 _ _ _ _ (put_bd pk_v0 (i1 _ _ _ (nxt_bd hs hg h1) h3) h5) h6
    · rw [opd] at h
      split at h
      · cases h
      · simp only at h
        obtain ⟨a, h1, h2⟩ := bind_ok h
        have hg1 : Bd { st with nest := st.nest + 1 } := ⟨hg.v, hg.s, hg.p⟩
        have g1 : Bd a := by
          split at h1
          · exact leaf_bd hs hg.v hg1 h1
          · split at h1
            · exact i4 _ _ _ hg.s hg1 h1
            · split at h1
              · exact i5 _ _ _ hg1 h1
              · cases h1
        cases h2
        exact ⟨g1.v, g1.s, g1.p⟩
    · rw [aftW] at h
      split at h
      · cases h
      · split at h
        · exact leaf_bd hs (pk_tru _) hg h
        · split at h
          · obtain ⟨a1, h1, h2⟩ := bind_ok h
            obtain ⟨a2, h3, h4⟩ := bind_ok h2
            exact put_bd pk_v0 (i3 _ _ (nxt_bd hs hg h1) h3) h4
          · split at h
            · obtain ⟨a1, h1, h2⟩ := bind_ok h
              obtain ⟨a2, h3, h4⟩ := bind_ok h2
              exact put_bd pk_v0 (i6 _ _ (nxt_bd hs hg h1) h3) h4
            · exact leaf_bd hs (pk_txt hw) hg h
    · rw [aftM] at h
      split at h
      · exact i6 _ _ hg h
      · split at h
        · obtain ⟨a1, h1, h2⟩ := bind_ok h
          obtain ⟨a2, h3, h4⟩ := bind_ok h2
          exact put_bd pk_v0 (i3 _ _ (nxt_bd hs hg h1) h3) h4
        · cases h
    · rw [inBr] at h
      obtain ⟨a1, h1, h2⟩ := bind_ok h
      obtain ⟨a2, h3, h4⟩ := bind_ok h2
      exact must_bd hs (i1 _ _ _ (must_bd hs hg h1) h3) h4
theorem st0_gd (s : List UInt8) : Gd s ⟨⟨0, 0, [], v0⟩, 0, 0, []⟩ := ⟨Nat.zero_le _, Nat.zero_le _, Nat.zero_le _⟩
/-- what Parse leaves: at most a hundred parts, their values small -/
theorem prs_bd {n : Nat} {l : List P10} {e a : Int} (h : prs n s = some (l, e, a)) : l.length ≤ 100 ∧ ∀ p ∈ l, Pk p.2.2.2 := by
  unfold prs at h
  split at h
  · cases h; exact ⟨Nat.zero_le _, fun p hp => by cases hp⟩
  · rename_i hs
    have hs' : s.length ≤ 512 := by omega
    split at h
    · rename_i x hx
      cases h
      unfold whol at hx
      obtain ⟨a1, h1, h2⟩ := bind_ok hx
      obtain ⟨a2, h3, h4⟩ := bind_ok h2
      have g1 := nxt_bd hs' ⟨pk_v0, Nat.zero_le _, fun p hp => by cases hp⟩ h1
      have g2 := (bd_all hs' n).1 _ _ _ g1 h3
      have k1 := (nxt_ok (st0_gd s) h1).1
      have k2 := ((gr_all s n).1 _ _ _ k1 h3).1
      split at h4
      · cases h4; exact ⟨k2.p, g2.p⟩
      · cases h4
    · cases h; exact ⟨Nat.zero_le _, fun p hp => by cases hp⟩
    · cases h
end Go.Proofs.YtpdengbdnijcfaaGreatDoor.x10

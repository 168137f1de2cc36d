/-
  Of every text the reader comes to an end.
-/
import Derived.Test.YtpbfdaijnndilaaGreatDoorGLeaf
namespace Go.Proofs.YtpbfdaijnndilaaGreatDoor.x10

theorem rdB1_le (l : List UInt8) : (rdB1 l).2 ≤ l.length := by
  unfold rdB1
  split
  · simp
  · simp
  · split
    · split <;> simp
    · simp
  · split <;> simp
  · simp
theorem txs_le : ∀ (n : Nat) (acc l : List UInt8), (txs n acc l).2.length ≤ l.length
  | 0, acc, l => by simp [txs]
  | n + 1, acc, l => by
    rw [txs]
    split
    · exact Nat.le_refl _
    · have := txs_le n (acc ++ [(rdB1 l).1]) (l.drop (rdB1 l).2)
      rw [List.length_drop] at this
      omega
theorem kA_kW {c : UInt8} (h : kA c = true) : kW c = true := by unfold kW; rw [h]; rfl
theorem tw_pos {p : UInt8 → Bool} {c : UInt8} {r : List UInt8} (h : p c = true) : 1 ≤ ((c :: r).takeWhile p).length := by rw [List.takeWhile_cons, if_pos h]; simp
theorem mks_pos : ∀ m ∈ mks, 1 ≤ m.length := by decide
/-- a token: none is left, or it takes a byte at least -/
theorem tok_pos {b : Nat} {l : List UInt8} {t : Tk} {n : Nat} (h : tok b l = .ok (t, n)) : (t.kind = 0 ∧ t.s = []) ∨ (t.kind ≠ 0 ∧ l ≠ [] ∧ 1 ≤ n) := by
  unfold tok at h
  split at h
  · cases h; exact .inl ⟨rfl, rfl⟩
  · rename_i c r
    right
    split at h
    · rename_i hd
      simp only at h
      split at h
      · cases h; exact ⟨by simp, by simp, tw_pos hd⟩
      · cases h
    · split at h
      · rename_i ha
        simp only at h
        split at h
        · cases h; exact ⟨by simp, by simp, tw_pos (kA_kW ha)⟩
        · cases h
      · split at h
        · simp only at h
          split at h
          · rename_i q hq
            have := txs_le (c :: r).length [] ((c :: r).drop 1)
            rw [hq] at this
            cases h
            exact ⟨by simp, by simp, by simp at this ⊢; omega⟩
          · cases h
        · split at h
          · rename_i m hm
            cases h
            exact ⟨by simp, by simp, mks_pos m (List.mem_of_find?_eq_some hm)⟩
          · cases h
theorem tok_outF (b : Nat) (l : List UInt8) : tok b l ≠ .out := by
  intro h
  unfold tok at h
  split at h
  · cases h
  · split at h
    · simp only at h; split at h <;> cases h
    · split at h
      · simp only at h; split at h <;> cases h
      · split at h
        · simp only at h; split at h <;> cases h
        · split at h <;> cases h
theorem nxt_outF (s : List UInt8) (st : Rs) : nxt s st ≠ .out := by
  intro h
  unfold nxt at h
  simp only at h
  split at h
  · cases h
  · cases h
  · rename_i hh; exact tok_outF _ _ hh
/-- how much is left -/
def mu (s : List UInt8) (st : Rs) : Nat := 2 * (s.length - st.beh) + (if st.now.kind = 0 then 0 else 1)
def Iv (st : Rs) : Prop := st.now.s ≠ [] → st.now.kind ≠ 0
theorem nxt_mu {s : List UInt8} {st st' : Rs} (h : nxt s st = .ok st') : mu s st' ≤ 2 * (s.length - st.beh) ∧ Iv st' := by
  unfold nxt at h
  simp only at h
  split at h
  · rename_i t n ht
    cases h
    rcases tok_pos ht with ⟨h1, h2⟩ | ⟨h1, h2, h3⟩
    · exact ⟨by unfold mu; simp only; rw [if_pos h1]; omega, fun h => absurd h2 h⟩
    · refine ⟨?_, fun _ => h1⟩
      unfold mu
      simp only
      rw [if_neg h1]
      have : st.beh + spn kB (s.drop st.beh) < s.length := by
        have := List.length_pos_iff.2 h2
        rw [List.length_drop] at this
        omega
      omega
  · cases h
  · cases h
theorem nxt_dec {s : List UInt8} {st st' : Rs} (hk : st.now.kind ≠ 0) (h : nxt s st = .ok st') : mu s st' + 1 ≤ mu s st ∧ Iv st' := by
  obtain ⟨h1, h2⟩ := nxt_mu h
  refine ⟨?_, h2⟩
  unfold mu at h1 ⊢
  rw [if_neg hk]
  omega
theorem put_mu {s : List UInt8} {p : P10} {st st' : Rs} (h : putP p st = .ok st') : mu s st' = mu s st ∧ (Iv st → Iv st') := by
  unfold putP at h
  split at h
  · cases h
  · cases h; exact ⟨rfl, fun h => h⟩
theorem put_outF (p : P10) (st : Rs) : putP p st ≠ .out := by
  intro h
  unfold putP at h
  split at h <;> cases h
theorem bind_out {α β : Type} {x : Ot α} {f : α → Ot β} (hx : x ≠ .out) (hf : ∀ a, x = .ok a → f a ≠ .out) : x.bind f ≠ .out := by
  cases x with
  | ok a => exact hf a rfl
  | no e a => exact fun h => by cases h
  | out => exact absurd rfl hx
theorem leaf_out (s : List UInt8) (op : Int) (v : V9) (st : Rs) : leaf s op v st ≠ .out := bind_out (nxt_outF s st) (fun _ _ => put_outF _ _)
theorem leaf_mu {s : List UInt8} {op : Int} {v : V9} {st st' : Rs} (hk : st.now.kind ≠ 0) (h : leaf s op v st = .ok st') : Iv st' ∧ mu s st' + 1 ≤ mu s st := by
  obtain ⟨a, h1, h2⟩ := bind_ok h
  obtain ⟨g1, g2⟩ := nxt_dec hk h1
  obtain ⟨g3, g4⟩ := put_mu (s := s) h2
  exact ⟨g4 g2, by omega⟩
theorem must_out (s m : List UInt8) (st : Rs) : must s m st ≠ .out := by
  unfold must
  split
  · exact nxt_outF _ _
  · exact fun h => by cases h
theorem must_mu {s m : List UInt8} {st st' : Rs} (hi : Iv st) (hm : m ≠ []) (h : must s m st = .ok st') : Iv st' ∧ mu s st' + 1 ≤ mu s st := by
  unfold must at h
  split at h
  · rename_i he
    obtain ⟨g1, g2⟩ := nxt_dec (hi (by rw [he]; exact hm)) h
    exact ⟨g2, g1⟩
  · cases h
theorem twoH_nil : twoH [] = 0 := by decide
/-- what is known of a call -/
def Fu (s : List UInt8) (c d n : Nat) (st : Rs) (r : Ot Rs) : Prop := (4 * mu s st + c ≤ n → r ≠ .out) ∧ ∀ st', r = .ok st' → Iv st' ∧ mu s st' + d ≤ mu s st
theorem fu_all (s : List UInt8) : ∀ n, (∀ lv st, Iv st → Fu s 4 1 n st (opds s n lv st)) ∧ (∀ lv a st, Iv st → Fu s 1 0 n st (more s n lv a st)) ∧ (∀ st, Iv st → Fu s 3 1 n st (opd s n st)) ∧ (∀ w st, st.now.kind ≠ 0 → Fu s 2 1 n st (aftW s n w st)) ∧ (∀ m st, Iv st → st.now.kind ≠ 0 → Fu s 2 1 n st (aftM s n m st)) ∧ ∀ st, Iv st → Fu s 1 1 n st (inBr s n st) := by
  intro n
  induction n with
  | zero => exact ⟨fun _ _ _ => ⟨fun h => by omega, fun _ h => (by cases h)⟩, fun _ _ _ _ => ⟨fun h => by omega, fun _ h => (by cases h)⟩, fun _ _ => ⟨fun h => by omega, fun _ h => (by cases h)⟩, fun _ _ _ => ⟨fun h => by omega, fun _ h => (by cases h)⟩, fun _ _ _ _ => ⟨fun h => by omega, fun _ h => (by cases h)⟩, fun _ _ => ⟨fun h => by omega, fun _ h => (by cases h)⟩⟩
  | succ n ih =>
    obtain ⟨i1, i2, i3, i4, i5, i6⟩ := ih
    refine ⟨fun lv st hi => ?_, fun lv a st hi => ?_, fun st hi => ?_, fun w st hk => ?_, fun m st hi hk => ?_, fun st hi => ?_⟩
    · rw [opds]
      refine ⟨fun h => bind_out ((i3 st hi).1 (by omega)) fun a ha => ?_, fun st' h => ?_⟩
      · obtain ⟨g1, g2⟩ := (i3 st hi).2 a ha
        exact (i2 _ _ a g1).1 (by omega)
      · obtain ⟨a, h1, h2⟩ := bind_ok h
        obtain ⟨g1, g2⟩ := (i3 st hi).2 a h1
        obtain ⟨g3, g4⟩ := (i2 _ _ a g1).2 st' h2
        exact ⟨g3, by omega⟩
    · rw [more]
      try simp only
      split
      · exact ⟨fun _ h => (by cases h), fun st' h => by cases h; exact ⟨hi, by omega⟩⟩
      · rename_i hop
        have hk : st.now.kind ≠ 0 := hi (fun e => hop (.inl (by rw [e]; exact twoH_nil)))
        refine ⟨fun h => bind_out (nxt_outF s st) fun a ha => ?_, fun st' h => ?_⟩
        · obtain ⟨g1, g2⟩ := nxt_dec hk ha
          refine bind_out ((i1 _ a g2).1 (by omega)) fun b hb => bind_out (put_outF _ _) fun c hc => ?_
          obtain ⟨g3, g4⟩ := (i1 _ a g2).2 b hb
          obtain ⟨g5, g6⟩ := put_mu (s := s) hc
          exact (i2 _ _ c (g6 g3)).1 (by omega)
        · obtain ⟨a, h1, h2⟩ := bind_ok h
          obtain ⟨b, h3, h4⟩ := bind_ok h2
          obtain ⟨c, h5, h6⟩ := bind_ok h4
          obtain ⟨g1, g2⟩ := nxt_dec hk h1
          obtain ⟨g3, g4⟩ := (i1 _ a g2).2 b h3
          obtain ⟨g5, g6⟩ := put_mu (s := s) h5
          obtain ⟨g7, g8⟩ := (i2 _ _ c (g6 g3)).2 st' h6
          exact ⟨g7, by omega⟩
    · rw [opd]
      split
      · exact ⟨fun _ h => (by cases h), fun st' h => (by cases h)⟩
      · simp only
        have key : ∀ st2, mu s { st2 with nest := st2.nest - 1 } = mu s st2 := fun _ => rfl
        have k1 : mu s { st with nest := st.nest + 1 } = mu s st := rfl
        split
        · rename_i hk
          have hk' : ({ st with nest := st.nest + 1 } : Rs).now.kind ≠ 0 := by show st.now.kind ≠ 0; omega
          refine ⟨fun h => bind_out (leaf_out _ _ _ _) fun a ha h => (by cases h), fun st' h => ?_⟩
          obtain ⟨a, h1, h2⟩ := bind_ok h
          cases h2
          obtain ⟨g1, g2⟩ := leaf_mu hk' h1
          exact ⟨g1, by rw [key]; omega⟩
        · split
          · rename_i hk
            have hk' : ({ st with nest := st.nest + 1 } : Rs).now.kind ≠ 0 := by show st.now.kind ≠ 0; omega
            refine ⟨fun h => bind_out ((i4 _ _ hk').1 (by omega)) fun a ha h => (by cases h), fun st' h => ?_⟩
            obtain ⟨a, h1, h2⟩ := bind_ok h
            cases h2
            obtain ⟨g1, g2⟩ := (i4 _ _ hk').2 a h1
            exact ⟨g1, by rw [key]; omega⟩
          · split
            · rename_i hk
              have hk' : ({ st with nest := st.nest + 1 } : Rs).now.kind ≠ 0 := by show st.now.kind ≠ 0; omega
              have hi' : Iv { st with nest := st.nest + 1 } := hi
              refine ⟨fun h => bind_out ((i5 _ _ hi' hk').1 (by omega)) fun a ha h => (by cases h), fun st' h => ?_⟩
              obtain ⟨a, h1, h2⟩ := bind_ok h
              cases h2
              obtain ⟨g1, g2⟩ := (i5 _ _ hi' hk').2 a h1
              exact ⟨g1, by rw [key]; omega⟩
            · exact ⟨fun _ h => (by cases h), fun st' h => (by cases h)⟩
    · rw [aftW]
      split
      · exact ⟨fun _ h => (by cases h), fun st' h => (by cases h)⟩
      · split
        · exact ⟨fun _ => leaf_out _ _ _ _, fun st' h => leaf_mu hk h⟩
        · split
          · refine ⟨fun h => bind_out (nxt_outF s st) fun a ha => ?_, fun st' h => ?_⟩
            · obtain ⟨g1, g2⟩ := nxt_dec hk ha
              exact bind_out ((i3 a g2).1 (by omega)) fun b hb => put_outF _ _
            · obtain ⟨a, h1, h2⟩ := bind_ok h
              obtain ⟨b, h3, h4⟩ := bind_ok h2
              obtain ⟨g1, g2⟩ := nxt_dec hk h1
              obtain ⟨g3, g4⟩ := (i3 a g2).2 b h3
              obtain ⟨g5, g6⟩ := put_mu (s := s) h4
              exact ⟨g6 g3, by omega⟩
          · split
            · refine ⟨fun h => bind_out (nxt_outF s st) fun a ha => ?_, fun st' h => ?_⟩
              · obtain ⟨g1, g2⟩ := nxt_dec hk ha
                exact bind_out ((i6 a g2).1 (by omega)) fun b hb => put_outF _ _
              · obtain ⟨a, h1, h2⟩ := bind_ok h
                obtain ⟨b, h3, h4⟩ := bind_ok h2
                obtain ⟨g1, g2⟩ := nxt_dec hk h1
                obtain ⟨g3, g4⟩ := (i6 a g2).2 b h3
                obtain ⟨g5, g6⟩ := put_mu (s := s) h4
                exact ⟨g6 g3, by omega⟩
            · exact ⟨fun _ => leaf_out _ _ _ _, fun st' h => leaf_mu hk h⟩
    · rw [aftM]
      split
      · exact ⟨fun h => (i6 st hi).1 (by omega), (i6 st hi).2⟩
      · split
        · refine ⟨fun h => bind_out (nxt_outF s st) fun a ha => ?_, fun st' h => ?_⟩
          · obtain ⟨g1, g2⟩ := nxt_dec hk ha
            exact bind_out ((i3 a g2).1 (by omega)) fun b hb => put_outF _ _
          · obtain ⟨a, h1, h2⟩ := bind_ok h
            obtain ⟨b, h3, h4⟩ := bind_ok h2
            obtain ⟨g1, g2⟩ := nxt_dec hk h1
            obtain ⟨g3, g4⟩ := (i3 a g2).2 b h3
            obtain ⟨g5, g6⟩ := put_mu (s := s) h4
            exact ⟨g6 g3, by omega⟩
        · exact ⟨fun _ h => (by cases h), fun st' h => (by cases h)⟩
    · rw [inBr]
      refine ⟨fun h => bind_out (must_out _ _ _) fun a ha => ?_, fun st' h => ?_⟩
      · obtain ⟨g1, g2⟩ := must_mu hi (by simp) ha
        exact bind_out ((i1 _ a g1).1 (by omega)) fun b hb => must_out _ _ _
      · obtain ⟨a, h1, h2⟩ := bind_ok h
        obtain ⟨b, h3, h4⟩ := bind_ok h2
        obtain ⟨g1, g2⟩ := must_mu hi (by simp) h1
        obtain ⟨g3, g4⟩ := (i1 _ a g1).2 b h3
        obtain ⟨g5, g6⟩ := must_mu g3 (by simp) h4
        exact ⟨g5, by omega⟩
/-- what is read of a text, with fuel enough -/
theorem prs_some (s : List UInt8) {n : Nat} (hn : 4100 ≤ n) : ∃ r, prs n s = some r := by
  unfold prs
  split
  · exact ⟨_, rfl⟩
  · rename_i hs
    have : whol s n ≠ .out := by
      unfold whol
      refine bind_out (nxt_outF _ _) fun a ha => ?_
      obtain ⟨h1, h2⟩ := nxt_mu ha
      refine bind_out (((fu_all s n).1 1 a h2).1 ?_) fun b _ => ?_
      · simp only at h1
        omega
      · split <;> exact fun h => by cases h
    split
    · exact ⟨_, rfl⟩
    · exact ⟨_, rfl⟩
    · rename_i h; exact absurd h this
end Go.Proofs.YtpbfdaijnndilaaGreatDoor.x10

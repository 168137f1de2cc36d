/-
  Package expr: what is read as one part.
-/
import Derived.Test.YtpbfdaijnndilaaGreatDoorX10Pure
import Derived.Test.YtpbfdaijnndilaaGreatDoorX10Nx2
namespace Go.Proofs.YtpbfdaijnndilaaGreatDoor.x10

/-- a reader as it may be -/
structure Gd (s : List UInt8) (st : Rs) : Prop where
  b : st.beh ≤ s.length
  p : st.parts.length ≤ 100
  n : st.nest ≤ 20
theorem tok_le {b : Nat} {l : List UInt8} {t : Tk} {n : Nat} (h : tok b l = .ok (t, n)) : n ≤ l.length := by
  unfold tok at h
  split at h
  · cases h; simp
  · rename_i c r
    have tw : ∀ p : UInt8 → Bool, ((c :: r).takeWhile p).length ≤ (c :: r).length := fun p => (List.takeWhile_prefix p).length_le
    split at h
    · simp only at h
      split at h
      · cases h; exact tw kD
      · cases h
    · split at h
      · simp only at h
        split at h
        · cases h; exact tw kW
        · cases h
      · split at h
        · simp only at h
          split at h
          · cases h; exact Nat.sub_le _ _
          · cases h
        · split at h
          · rename_i m hm
            cases h
            unfold mkOf at hm
            have := List.find?_some hm
            exact (List.isPrefixOf_iff_prefix.1 this).length_le
          · cases h
theorem spn_le' (p : UInt8 → Bool) (l : List UInt8) : spn p l ≤ l.length := (List.takeWhile_prefix p).length_le
theorem nxt_ok {s : List UInt8} {st st' : Rs} (hg : Gd s st) (h : nxt s st = .ok st') : Gd s st' ∧ st'.nest = st.nest ∧ st'.parts = st.parts := by
  unfold nxt at h
  simp only at h
  split at h
  · rename_i t n ht
    have h1 := tok_le ht
    have h2 := spn_le' kB (s.drop st.beh)
    have h3 := hg.b
    rw [List.length_drop] at h1 h2
    cases h
    exact ⟨⟨by simp only; omega, hg.p, hg.n⟩, rfl, rfl⟩
  · cases h
  · cases h
theorem putP_ok {s : List UInt8} {p : P10} {st st' : Rs} (hg : Gd s st) (h : putP p st = .ok st') : Gd s st' ∧ st'.nest = st.nest ∧ st'.parts.length = st.parts.length + 1 := by
  unfold putP at h
  split at h
  · cases h
  · rename_i hn
    cases h
    have := hg.p
    exact ⟨⟨hg.b, by simp only; rw [List.length_append, List.length_singleton]; omega, hg.n⟩, rfl, by simp⟩
theorem bind_ok {α β : Type} {x : Ot α} {f : α → Ot β} {y : β} (h : x.bind f = .ok y) : ∃ a, x = .ok a ∧ f a = .ok y := by
  cases x with
  | ok a => exact ⟨a, rfl, h⟩
  | no e a => cases h
  | out => cases h
/-- what reading something leaves: the reader as it may be, as deep as before, so many parts more at least -/
def Gr (s : List UInt8) (k : Nat) (st st' : Rs) : Prop := Gd s st' ∧ st'.nest = st.nest ∧ st.parts.length + k ≤ st'.parts.length
theorem Gr.trans {s : List UInt8} {j k : Nat} {a b c : Rs} (h : Gr s j a b) (h2 : Gr s k b c) : Gr s (j + k) a c := ⟨h2.1, h2.2.1.trans h.2.1, by have := h.2.2; have := h2.2.2; omega⟩
theorem Gr.less {s : List UInt8} {j k : Nat} {a b : Rs} (h : Gr s j a b) (hk : k ≤ j) : Gr s k a b := ⟨h.1, h.2.1, by have := h.2.2; omega⟩
theorem nxt_gr {s : List UInt8} {st st' : Rs} (hg : Gd s st) (h : nxt s st = .ok st') : Gr s 0 st st' := by
  obtain ⟨h1, h2, h3⟩ := nxt_ok hg h
  exact ⟨h1, h2, by rw [h3]; omega⟩
theorem put_gr {s : List UInt8} {p : P10} {st st' : Rs} (hg : Gd s st) (h : putP p st = .ok st') : Gr s 1 st st' := by
  obtain ⟨h1, h2, h3⟩ := putP_ok hg h
  exact ⟨h1, h2, by omega⟩
theorem leaf_gr {s : List UInt8} {op : Int} {v : V9} {st st' : Rs} (hg : Gd s st) (h : leaf s op v st = .ok st') : Gr s 1 st st' := by
  obtain ⟨a, h1, h2⟩ := bind_ok h
  have g1 := nxt_gr hg h1
  exact (g1.trans (put_gr g1.1 h2)).less (by omega)
theorem must_gr {s m : List UInt8} {st st' : Rs} (hg : Gd s st) (h : must s m st = .ok st') : Gr s 0 st st' := by
  unfold must at h
  split at h
  · exact nxt_gr hg h
  · cases h
theorem gr_all (s : List UInt8) : ∀ n, (∀ lv st st', Gd s st → opds s n lv st = .ok st' → Gr s 1 st st') ∧ (∀ lv a st st', Gd s st → more s n lv a st = .ok st' → Gr s 0 st st') ∧ (∀ st st', Gd s st → opd s n st = .ok st' → Gr s 1 st st') ∧ (∀ w st st', Gd s st → aftW s n w st = .ok st' → Gr s 1 st st') ∧ (∀ m st st', Gd s st → aftM s n m st = .ok st' → Gr s 1 st st') ∧ ∀ st st', Gd s st → inBr s n st = .ok st' → Gr s 1 st st' := by
  intro n
  induction n with
  | zero => exact ⟨fun _ _ _ _ h => (by cases h), fun _ _ _ _ _ h => (by cases h), fun _ _ _ h => (by cases h), fun _ _ _ _ h => (by cases h), fun _ _ _ _ h => (by cases h), fun _ _ _ h => (by cases h)⟩
  | succ n ih =>
    obtain ⟨i1, i2, i3, i4, i5, i6⟩ := ih
    refine ⟨fun lv st st' hg h => ?_, fun lv a st st' hg h => ?_, fun st st' hg h => ?_, fun w st st' hg h => ?_, fun m st st' hg h => ?_, fun st st' hg h => ?_⟩
    · rw [opds] at h
      obtain ⟨a, h1, h2⟩ := bind_ok h
      have g1 := i3 _ _ hg h1
      exact g1.trans (i2 _ _ _ _ g1.1 h2)
    · rw [more] at h
      try simp only at h
      split at h
      · cases h; exact ⟨hg, rfl, Nat.le_refl _⟩
      · obtain ⟨a1, h1, h2⟩ := bind_ok h
        obtain ⟨a2, h3, h4⟩ := bind_ok h2
        obtain ⟨a3, h5, h6⟩ := bind_ok h4
        have g1 := nxt_gr hg h1
        have g2 := i1 _ _ _ g1.1 h3
        have g3 := put_gr g2.1 h5
        exact (((g1.trans g2).trans g3).trans (i2 _ _ _ _ g3.1 h6)).less (by omega)
    · rw [opd] at h
      split at h
      · cases h
      · rename_i hn20
        simp only at h
        obtain ⟨a, h1, h2⟩ := bind_ok h
        have hgn := hg.n
        have hg1 : Gd s { st with nest := st.nest + 1 } := ⟨hg.b, hg.p, by simp only; omega⟩
        have g1 : Gr s 1 { st with nest := st.nest + 1 } a := by
          split at h1
          · exact leaf_gr hg1 h1
          · split at h1
            · exact i4 _ _ _ hg1 h1
            · split at h1
              · exact i5 _ _ _ hg1 h1
              · cases h1
        cases h2
        exact ⟨⟨g1.1.b, g1.1.p, by have := g1.1.n; simp only; omega⟩, by have := g1.2.1; simp only at this ⊢; omega, g1.2.2⟩
    · rw [aftW] at h
      split at h
      · cases h
      · split at h
        · exact leaf_gr hg h
        · split at h
          · obtain ⟨a1, h1, h2⟩ := bind_ok h
            obtain ⟨a2, h3, h4⟩ := bind_ok h2
            have g1 := nxt_gr hg h1
            have g2 := i3 _ _ g1.1 h3
            exact ((g1.trans g2).trans (put_gr g2.1 h4)).less (by omega)
          · split at h
            · obtain ⟨a1, h1, h2⟩ := bind_ok h
              obtain ⟨a2, h3, h4⟩ := bind_ok h2
              have g1 := nxt_gr hg h1
              have g2 := i6 _ _ g1.1 h3
              exact ((g1.trans g2).trans (put_gr g2.1 h4)).less (by omega)
            · exact leaf_gr hg h
    · rw [aftM] at h
      split at h
      · exact i6 _ _ hg h
      · split at h
        · obtain ⟨a1, h1, h2⟩ := bind_ok h
          obtain ⟨a2, h3, h4⟩ := bind_ok h2
          have g1 := nxt_gr hg h1
          have g2 := i3 _ _ g1.1 h3
          exact ((g1.trans g2).trans (put_gr g2.1 h4)).less (by omega)
        · cases h
    · rw [inBr] at h
      obtain ⟨a1, h1, h2⟩ := bind_ok h
      obtain ⟨a2, h3, h4⟩ := bind_ok h2
      have g1 := must_gr hg h1
      have g2 := i1 _ _ _ g1.1 h3
      exact ((g1.trans g2).trans (must_gr g2.1 h4)).less (by omega)
end Go.Proofs.YtpbfdaijnndilaaGreatDoor.x10
namespace Go.Proofs.YtpbfdaijnndilaaGreatDoor.x10
open Go.RowKit Go.Shelf Go.Sort
open Go.Lib hiding intOf

theorem Rp.liftG {w W w' : World} {B b : Nat} {s : List UInt8} {pv pv1 : Value} {r : Ot Rs} {e : Ending} (L : Lf w b pv W pv1) (h : Rp W B b s pv1 r e w') : Rp w B b s pv r e w' := by
  have hz := L.ch.size
  unfold Rp at h ⊢
  split
  · obtain ⟨h1, pv', h2, h3⟩ := h
    exact ⟨h1, pv', h2, L.trans h3⟩
  · refine ⟨h.1, joinG L.ch h.2 (fun x hx e => ?_)⟩
    rcases e with e | e
    · exact .inl e
    · rcases L.nw x e with e | e
      · exact .inr e
      · omega
  · trivial
theorem tok_out {b : Nat} {l : List UInt8} : tok b l ≠ .out := by
  unfold tok
  split
  · simp
  · split
    · simp only; split <;> simp
    · split
      · simp only; split <;> simp
      · split
        · simp only; split <;> simp
        · split <;> simp
theorem nxt_out {s : List UInt8} {st : Rs} : nxt s st ≠ .out := by
  unfold nxt
  simp only
  split
  · simp
  · simp
  · rename_i h; exact absurd h tok_out
theorem put_out {p : P10} {st : Rs} : putP p st ≠ .out := by unfold putP; split <;> simp
theorem Rm.gx2 {w w' : World} {B b : Nat} {s : List UInt8} {st : Rs} {pv pv' : Value} (h : Rm w B b s st pv) (hg : Gx B w) (L : Lf w b pv w' pv') : Gx B w' := hg.below (h.gx L.ch)
/-- an ending of a call that went well -/
theorem Rp.good {w w' : World} {B b : Nat} {s : List UInt8} {pv : Value} {r : Ot Rs} {st' : Rs} {e : Ending} (h : Rp w B b s pv r e w') (hr : r = .ok st') : e = .returned (.tuple #[]) ∧ ∃ pv', Rm w' B b s st' pv' ∧ Lf w b pv w' pv' := by
  subst hr; exact h
theorem Rp.bad {w w' : World} {B b : Nat} {s : List UInt8} {pv : Value} {r : Ot Rs} {er a : Int} {e : Ending} (h : Rp w B b s pv r e w') (hr : r = .no er a) : e = .panicked (wrg er a) ∧ Ch (Fx b pv) w w' := by
  subst hr; exact h
def vA' (v : V9) : Value := .agg #[.int .i64 v.1, .int .i64 v.2.1, .string (S v.2.2)]

set_option maxHeartbeats 1000000 in
set_option maxRecDepth 100000 in
theorem leaf_any {w : World} {B b : Nat} {s : List UInt8} {st : Rs} {pv : Value} (h : Rm w B b s st pv) (hg : Gx B w) (hs : s.length ≤ 512) (hd : Gd s st) (op : Int) (v : V9) : Calls Tryz.prog 122 #[.pointer (some ⟨b, 0, none⟩), .int .i64 op, vA' v] w (Rp w B b s pv (leaf s op v st)) := by
  obtain ⟨v1, v2, v3⟩ := v
  have hbl := h.ob.lt
  obtain ⟨W1, hW1⟩ : ∃ W1, w.alloc (.cells #[.int .i64 v1, .int .i64 v2, .string (S v3)] 48) = W1 := ⟨_, rfl⟩
  have hb1 : Below w.heap.size w W1 := by rw [← hW1]; exact (Below.refl _ w).alloc (Nat.le_refl _) _
  have hcx : ∀ i, W1.cell? ⟨w.heap.size, i, none⟩ = (#[.int .i64 v1, .int .i64 v2, .string (S v3)] : Array Value)[i]? := fun i => by rw [← hW1]; exact World.cell?_alloc_new _ _ _ _
  have hzz : w.heap.size < W1.heap.size := by rw [← hW1]; simp
  have R1 := h.below hb1
  have L1 := Lf.of_below b pv hb1
  have hg1 := h.gx2 hg L1
  have CN := next_any R1 hg1 hs hd.b
  have HWE : Hid (_ = W1) := hW1
  have hvo : ∀ x, pv.ownBlock = some x → x < w.heap.size := fun x hx => by
    obtain ⟨_, cur, h1⟩ := row_obj h.row hx
    exact (Array.getElem?_eq_some_iff.1 h1).1
  unfold vA'
  simp only
  rcases hq : nxt s st with st1 | ⟨er, ea⟩ | _
  · have hgd := (nxt_ok hd hq).1
    have HQ : Hid (∀ e w', Rp W1 B b s pv (nxt s st) e w' → e = .returned (.tuple #[]) ∧ ∃ pv', Hid (Rm w' B b s st1 pv' ∧ Lf w b pv w' pv') ∧ (w'.cell? ⟨w.heap.size, 0, none⟩ = some (.int .i64 v1) ∧ w'.cell? ⟨w.heap.size, 1, none⟩ = some (.int .i64 v2) ∧ w'.cell? ⟨w.heap.size, 2, none⟩ = some (.string (S v3))) ∧ w.heap.size < w'.heap.size) := fun e w' hR => by
      obtain ⟨rfl, pv', k1, k2⟩ := hR.good hq
      have hne : ¬ Fx b pv w.heap.size := fun e => by
        rcases e with e | e
        · omega
        · have := hvo _ e; omega
      have hc : ∀ i, w'.cell? ⟨w.heap.size, i, none⟩ = W1.cell? ⟨w.heap.size, i, none⟩ := fun i => World.cell?_of_block (k2.ch.block _ hzz hne)
      exact ⟨rfl, pv', ⟨k1, L1.trans k2⟩, ⟨(hc 0).trans (hcx 0), (hc 1).trans (hcx 1), (hc 2).trans (hcx 2)⟩, by have := k2.ch.size; omega⟩
    have HPU : Hid (∀ W pv', Rm W B b s st1 pv' → Calls Tryz.prog 102 #[.pointer (some ⟨b, 0, none⟩), .agg #[.int .i64 op, .int .i64 (-1), .int .i64 (-1), .int .i64 v1, .int .i64 v2, .string (S v3)]] W (Rp W B b s pv' (putP (op, -1, -1, v1, v2, v3) st1))) := fun W pv' k => put_any k hgd.p (op, -1, -1, v1, v2, v3)
    have HEQ : Hid (leaf s op (v1, v2, v3) st = putP (op, -1, -1, v1, v2, v3) st1) := by show _ = _; unfold leaf; rw [hq]; rfl
    clear hq h hg R1 L1 hg1 hcx hd hb1 hW1
    rcases hq2 : putP (op, -1, -1, v1, v2, v3) st1 with st2 | ⟨er, ea⟩ | _
    · have HQ2 : Hid (∀ W pv' e w', Lf w b pv W pv' → Rp W B b s pv' (putP (op, -1, -1, v1, v2, v3) st1) e w' → e = .returned (.tuple #[]) ∧ Hid (Rp w B b s pv (leaf s op (v1, v2, v3) st) (.returned (.tuple #[])) w')) := fun W pv' e w' L hR => by
        have h1 := Rp.liftG L hR
        obtain ⟨rfl, -⟩ := hR.good hq2
        rw [HEQ.out]
        exact ⟨rfl, h1⟩
      clear hq2 HEQ
      go_enter Tryz.func122, Tryz.ntmps122
      go_wp2_with (first
        | (go_at_call 47; rw [HWE.out]; refine CN.mono ?_; rintro e w2 hR; obtain ⟨he, pv2, HR2, ⟨g0, g1, g2⟩, g3⟩ := HQ.out e w2 hR; subst he; have CP := HPU.out w2 pv2 HR2.out.1; clear hR CN)
        | (go_at_call 102; refine CP.mono ?_; rintro e w3 hR; obtain ⟨he, HX⟩ := HQ2.out _ _ e w3 HR2.out.2 hR; subst he; clear hR CP))
      first | go_end0 | refine bodyPost_ret (results_none rfl _ _ _) rfl ?_
      exact HX.out
    · have HQ2 : Hid (∀ W pv' e w', Lf w b pv W pv' → Rp W B b s pv' (putP (op, -1, -1, v1, v2, v3) st1) e w' → e = .panicked (wrg er ea) ∧ Hid (Rp w B b s pv (leaf s op (v1, v2, v3) st) (.panicked (wrg er ea)) w')) := fun W pv' e w' L hR => by
        have h1 := Rp.liftG L hR
        obtain ⟨rfl, -⟩ := hR.bad hq2
        rw [HEQ.out]
        exact ⟨rfl, h1⟩
      clear hq2 HEQ
      go_enter Tryz.func122, Tryz.ntmps122
      go_wp2_with (first
        | (go_at_call 47; rw [HWE.out]; refine CN.mono ?_; rintro e w2 hR; obtain ⟨he, pv2, HR2, ⟨g0, g1, g2⟩, g3⟩ := HQ.out e w2 hR; subst he; have CP := HPU.out w2 pv2 HR2.out.1; clear hR CN)
        | (go_at_call 102; refine CP.mono ?_; rintro e w3 hR; obtain ⟨he, HX⟩ := HQ2.out _ _ e w3 HR2.out.2 hR; subst he; clear hR CP))
      exact ⟨rfl, HX.out⟩
    · exact absurd hq2 put_out
  · have HQ : Hid (∀ e w', Rp W1 B b s pv (nxt s st) e w' → e = .panicked (wrg er ea) ∧ Hid (Rp w B b s pv (leaf s op (v1, v2, v3) st) (.panicked (wrg er ea)) w')) := fun e w' hR => by
      have h1 := Rp.liftG L1 hR
      obtain ⟨rfl, -⟩ := hR.bad hq
      refine ⟨rfl, ?_⟩
      show Rp _ _ _ _ _ _ _ _
      unfold leaf
      rw [hq] at h1 ⊢
      exact h1
    clear hq h hg R1 L1 hg1 hcx hd hb1 hW1
    go_enter Tryz.func122, Tryz.ntmps122
    go_wp2_with (go_at_call 47; rw [HWE.out]; refine CN.mono ?_; rintro e w2 hR; obtain ⟨he, HX⟩ := HQ.out e w2 hR; subst he; clear hR CN)
    exact ⟨rfl, HX.out⟩
  · exact absurd hq nxt_out
end Go.Proofs.YtpbfdaijnndilaaGreatDoor.x10

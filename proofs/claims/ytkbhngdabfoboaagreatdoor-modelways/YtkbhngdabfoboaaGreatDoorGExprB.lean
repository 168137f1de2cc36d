/-
  Package expr: the reader, call by call; Parse.
-/
import Derived.Test.YtkbhngdabfoboaaGreatDoorX10Pure
import Derived.Test.YtkbhngdabfoboaaGreatDoorGExprA
import Derived.Defers
import Derived.Recover
import Derived.Laws.Pointers
import Derived.BigQuiet
namespace Go.Proofs.YtkbhngdabfoboaaGreatDoor.x10

/-- a reader as it may be -/
structure Gd (s : List UInt8) (st : Rs) : Prop where
  b : st.beh ≤ s.length
  p : st.parts.length ≤ 100
  n : st.nest ≤ 20
theorem tok_le {b : Nat} {l : List UInt8} {t : Tk} {n : Nat} (h : tok b l = .ok (t, n)) : n ≤ l.length := by
  unfold tok at h
  split at h
  · cases h; simp
  · rename_i c r
    have tw : ∀ p : UInt8 → Bool, ((c :: r).takeWhile p).length ≤ (c :: r).length := fun p => (List.takeWhile_prefix p).length_le
    split at h
    · simp only at h
      split at h
      · cases h; exact tw kD
      · cases h
    · split at h
      · simp only at h
        split at h
        · cases h; exact tw kW
        · cases h
      · split at h
        · simp only at h
          split at h
          · cases h; exact Nat.sub_le _ _
          · cases h
        · split at h
          · rename_i m hm
            cases h
            unfold mkOf at hm
            have := List.find?_some hm
            exact (List.isPrefixOf_iff_prefix.1 this).length_le
          · cases h
theorem spn_le' (p : UInt8 → Bool) (l : List UInt8) : spn p l ≤ l.length := (List.takeWhile_prefix p).length_le
theorem nxt_ok {s : List UInt8} {st st' : Rs} (hg : Gd s st) (h : nxt s st = .ok st') : Gd s st' ∧ st'.nest = st.nest ∧ st'.parts = st.parts := by
  unfold nxt at h
  simp only at h
  split at h
  · rename_i t n ht
    have h1 := tok_le ht
    have h2 := spn_le' kB (s.drop st.beh)
    have h3 := hg.b
    rw [List.length_drop] at h1 h2
    cases h
    exact ⟨⟨by simp only; omega, hg.p, hg.n⟩, rfl, rfl⟩
  · cases h
  · cases h
theorem putP_ok {s : List UInt8} {p : P10} {st st' : Rs} (hg : Gd s st) (h : putP p st = .ok st') : Gd s st' ∧ st'.nest = st.nest ∧ st'.parts.length = st.parts.length + 1 := by
  unfold putP at h
  split at h
  · cases h
  · rename_i hn
    cases h
    have := hg.p
    exact ⟨⟨hg.b, by simp only; rw [List.length_append, List.length_singleton]; omega, hg.n⟩, rfl, by simp⟩
theorem bind_ok {α β : Type} {x : Ot α} {f : α → Ot β} {y : β} (h : x.bind f = .ok y) : ∃ a, x = .ok a ∧ f a = .ok y := by
  cases x with
  | ok a => exact ⟨a, rfl, h⟩
  | no e a => cases h
  | out => cases h
/-- what reading something leaves: the reader as it may be, as deep as before, so many parts more at least -/
def Gr (s : List UInt8) (k : Nat) (st st' : Rs) : Prop := Gd s st' ∧ st'.nest = st.nest ∧ st.parts.length + k ≤ st'.parts.length
theorem Gr.trans {s : List UInt8} {j k : Nat} {a b c : Rs} (h : Gr s j a b) (h2 : Gr s k b c) : Gr s (j + k) a c := ⟨h2.1, h2.2.1.trans h.2.1, by have := h.2.2; have := h2.2.2; omega⟩
theorem Gr.less {s : List UInt8} {j k : Nat} {a b : Rs} (h : Gr s j a b) (hk : k ≤ j) : Gr s k a b := ⟨h.1, h.2.1, by have := h.2.2; omega⟩
theorem nxt_gr {s : List UInt8} {st st' : Rs} (hg : Gd s st) (h : nxt s st = .ok st') : Gr s 0 st st' := by
  obtain ⟨h1, h2, h3⟩ := nxt_ok hg h
  exact ⟨h1, h2, by rw [h3]; omega⟩
theorem put_gr {s : List UInt8} {p : P10} {st st' : Rs} (hg : Gd s st) (h : putP p st = .ok st') : Gr s 1 st st' := by
  obtain ⟨h1, h2, h3⟩ := putP_ok hg h
  exact ⟨h1, h2, by omega⟩
theorem leaf_gr {s : List UInt8} {op : Int} {v : V9} {st st' : Rs} (hg : Gd s st) (h : leaf s op v st = .ok st') : Gr s 1 st st' := by
  obtain ⟨a, h1, h2⟩ := bind_ok h
  have g1 := nxt_gr hg h1
  exact (g1.trans (put_gr g1.1 h2)).less (by omega)
theorem must_gr {s m : List UInt8} {st st' : Rs} (hg : Gd s st) (h : must s m st = .ok st') : Gr s 0 st st' := by
  unfold must at h
  split at h
  · exact nxt_gr hg h
  · cases h
theorem gr_all (s : List UInt8) : ∀ n, (∀ lv st st', Gd s st → opds s n lv st = .ok st' → Gr s 1 st st') ∧ (∀ lv a st st', Gd s st → more s n lv a st = .ok st' → Gr s 0 st st') ∧ (∀ st st', Gd s st → opd s n st = .ok st' → Gr s 1 st st') ∧ (∀ w st st', Gd s st → aftW s n w st = .ok st' → Gr s 1 st st') ∧ (∀ m st st', Gd s st → aftM s n m st = .ok st' → Gr s 1 st st') ∧ ∀ st st', Gd s st → inBr s n st = .ok st' → Gr s 1 st st' := by
  intro n
  induction n with
  | zero => exact ⟨fun _ _ _ _ h => (by cases h), fun _ _ _ _ _ h => (by cases h), fun _ _ _ h => (by cases h), fun _ _ _ _ h => (by cases h), fun _ _ _ _ h => (by cases h), fun _ _ _ h => (by cases h)⟩
  | succ n ih =>
    obtain ⟨i1, i2, i3, i4, i5, i6⟩ := ih
    refine ⟨fun lv st st' hg h => ?_, fun lv a st st' hg h => ?_, fun st st' hg h => ?_, fun w st st' hg h => ?_, fun m st st' hg h => ?_, fun st st' hg h => ?_⟩
    · rw [opds] at h
      obtain ⟨a, h1, h2⟩ := bind_ok h
      have g1 := i3 _ _ hg h1
      exact g1.trans (i2 _ _ _ _ g1.1 h2)
    · rw [more] at h
      try simp only at h
      split at h
      · cases h; exact ⟨hg, rfl, Nat.le_refl _⟩
      · obtain ⟨a1, h1, h2⟩ := bind_ok h
        obtain ⟨a2, h3, h4⟩ := bind_ok h2
        obtain ⟨a3, h5, h6⟩ := bind_ok h4
        have g1 := nxt_gr hg h1
        have g2 := i1 _ _ _ g1.1 h3
        have g3 := put_gr g2.1 h5
        exact (((g1.trans g2).trans g3).trans (i2 _ _ _ _ g3.1 h6)).less (by omega)
    · rw [opd] at h
      split at h
      · cases h
      · rename_i hn20
        simp only at h
        obtain ⟨a, h1, h2⟩ := bind_ok h
        have hgn := hg.n
        have hg1 : Gd s { st with nest := st.nest + 1 } := ⟨hg.b, hg.p, by simp only; omega⟩
        have g1 : Gr s 1 { st with nest := st.nest + 1 } a := by
          split at h1
          · exact leaf_gr hg1 h1
          · split at h1
            · exact i4 _ _ _ hg1 h1
            · split at h1
              · exact i5 _ _ _ hg1 h1
              · cases h1
        cases h2
        exact ⟨⟨g1.1.b, g1.1.p, by have := g1.1.n; simp only; omega⟩, by have := g1.2.1; simp only at this ⊢; omega, g1.2.2⟩
    · rw [aftW] at h
      split at h
      · cases h
      · split at h
        · exact leaf_gr hg h
        · split at h
          · obtain ⟨a1, h1, h2⟩ := bind_ok h
            obtain ⟨a2, h3, h4⟩ := bind_ok h2
            have g1 := nxt_gr hg h1
            have g2 := i3 _ _ g1.1 h3
            exact ((g1.trans g2).trans (put_gr g2.1 h4)).less (by omega)
          · split at h
            · obtain ⟨a1, h1, h2⟩ := bind_ok h
              obtain ⟨a2, h3, h4⟩ := bind_ok h2
              have g1 := nxt_gr hg h1
              have g2 := i6 _ _ g1.1 h3
              exact ((g1.trans g2).trans (put_gr g2.1 h4)).less (by omega)
            · exact leaf_gr hg h
    · rw [aftM] at h
      split at h
      · exact i6 _ _ hg h
      · split at h
        · obtain ⟨a1, h1, h2⟩ := bind_ok h
          obtain ⟨a2, h3, h4⟩ := bind_ok h2
          have g1 := nxt_gr hg h1
          have g2 := i3 _ _ g1.1 h3
          exact ((g1.trans g2).trans (put_gr g2.1 h4)).less (by omega)
        · cases h
    · rw [inBr] at h
      obtain ⟨a1, h1, h2⟩ := bind_ok h
      obtain ⟨a2, h3, h4⟩ := bind_ok h2
      have g1 := must_gr hg h1
      have g2 := i1 _ _ _ g1.1 h3
      exact ((g1.trans g2).trans (must_gr g2.1 h4)).less (by omega)
end Go.Proofs.YtkbhngdabfoboaaGreatDoor.x10
namespace Go.Proofs.YtkbhngdabfoboaaGreatDoor.x10
open Go.RowKit Go.Shelf Go.Sort
open Go.Lib hiding intOf

theorem Rp.liftG {w W w' : World} {B b : Nat} {s : List UInt8} {pv pv1 : Value} {r : Ot Rs} {e : Ending} (L : Lf w b pv W pv1) (h : Rp W B b s pv1 r e w') : Rp w B b s pv r e w' := by
  have hz := L.ch.size
  unfold Rp at h ⊢
  split
  · obtain ⟨h1, pv', h2, h3⟩ := h
    exact ⟨h1, pv', h2, L.trans h3⟩
  · refine ⟨h.1, joinG L.ch h.2 (fun x hx e => ?_)⟩
    rcases e with e | e
    · exact .inl e
    · rcases L.nw x e with e | e
      · exact .inr e
      · omega
  · trivial
theorem tok_out {b : Nat} {l : List UInt8} : tok b l ≠ .out := by
  unfold tok
  split
  · simp
  · split
    · simp only; split <;> simp
    · split
      · simp only; split <;> simp
      · split
        · simp only; split <;> simp
        · split <;> simp
theorem nxt_out {s : List UInt8} {st : Rs} : nxt s st ≠ .out := by
  unfold nxt
  simp only
  split
  · simp
  · simp
  · rename_i h; exact absurd h tok_out
theorem put_out {p : P10} {st : Rs} : putP p st ≠ .out := by unfold putP; split <;> simp
theorem Rm.gx2 {w w' : World} {B b : Nat} {s : List UInt8} {st : Rs} {pv pv' : Value} (h : Rm w B b s st pv) (hg : Gx B w) (L : Lf w b pv w' pv') : Gx B w' := hg.below (h.gx L.ch)
/-- an ending of a call that went well -/
theorem Rp.good {w w' : World} {B b : Nat} {s : List UInt8} {pv : Value} {r : Ot Rs} {st' : Rs} {e : Ending} (h : Rp w B b s pv r e w') (hr : r = .ok st') : e = .returned (.tuple #[]) ∧ ∃ pv', Rm w' B b s st' pv' ∧ Lf w b pv w' pv' := by
  subst hr; exact h
theorem Rp.bad {w w' : World} {B b : Nat} {s : List UInt8} {pv : Value} {r : Ot Rs} {er a : Int} {e : Ending} (h : Rp w B b s pv r e w') (hr : r = .no er a) : e = .panicked (wrg er a) ∧ Ch (Fx b pv) w w' := by
  subst hr; exact h
def vA' (v : V9) : Value := .agg #[.int .i64 v.1, .int .i64 v.2.1, .string (S v.2.2)]

set_option maxHeartbeats 1000000 in
set_option maxRecDepth 100000 in
theorem leaf_any {w : World} {B b : Nat} {s : List UInt8} {st : Rs} {pv : Value} (h : Rm w B b s st pv) (hg : Gx B w) (hs : s.length ≤ 512) (hd : Gd s st) (op : Int) (v : V9) : Calls Tryz.prog 197 #[.pointer (some ⟨b, 0, none⟩), .int .i64 op, vA' v] w (Rp w B b s pv (leaf s op v st)) := by
  obtain ⟨v1, v2, v3⟩ := v
  have hbl := h.ob.lt
  obtain ⟨W1, hW1⟩ : ∃ W1, w.alloc (.cells #[.int .i64 v1, .int .i64 v2, .string (S v3)] 154) = W1 := ⟨_, rfl⟩
  have hb1 : Below w.heap.size w W1 := by rw [← hW1]; exact (Below.refl _ w).alloc (Nat.le_refl _) _
  have hcx : ∀ i, W1.cell? ⟨w.heap.size, i, none⟩ = (#[.int .i64 v1, .int .i64 v2, .string (S v3)] : Array Value)[i]? := fun i => by rw [← hW1]; exact World.cell?_alloc_new _ _ _ _
  have hzz : w.heap.size < W1.heap.size := by rw [← hW1]; simp
  have R1 := h.below hb1
  have L1 := Lf.of_below b pv hb1
  have hg1 := h.gx2 hg L1
  have CN := next_any R1 hg1 hs hd.b
  have HWE : Hid (_ = W1) := hW1
  have hvo : ∀ x, pv.ownBlock = some x → x < w.heap.size := fun x hx => by
    obtain ⟨_, cur, h1⟩ := row_obj h.row hx
    exact (Array.getElem?_eq_some_iff.1 h1).1
  unfold vA'
  simp only
  rcases hq : nxt s st with st1 | ⟨er, ea⟩ | _
  · have hgd := (nxt_ok hd hq).1
    have HQ : Hid (∀ e w', Rp W1 B b s pv (nxt s st) e w' → e = .returned (.tuple #[]) ∧ ∃ pv', Hid (Rm w' B b s st1 pv' ∧ Lf w b pv w' pv') ∧ (w'.cell? ⟨w.heap.size, 0, none⟩ = some (.int .i64 v1) ∧ w'.cell? ⟨w.heap.size, 1, none⟩ = some (.int .i64 v2) ∧ w'.cell? ⟨w.heap.size, 2, none⟩ = some (.string (S v3))) ∧ w.heap.size < w'.heap.size) := fun e w' hR => by
      obtain ⟨rfl, pv', k1, k2⟩ := hR.good hq
      have hne : ¬ Fx b pv w.heap.size := fun e => by
        rcases e with e | e
        · omega
        · have := hvo _ e; omega
      have hc : ∀ i, w'.cell? ⟨w.heap.size, i, none⟩ = W1.cell? ⟨w.heap.size, i, none⟩ := fun i => World.cell?_of_block (k2.ch.block _ hzz hne)
      exact ⟨rfl, pv', ⟨k1, L1.trans k2⟩, ⟨(hc 0).trans (hcx 0), (hc 1).trans (hcx 1), (hc 2).trans (hcx 2)⟩, by have := k2.ch.size; omega⟩
    have HPU : Hid (∀ W pv', Rm W B b s st1 pv' → Calls Tryz.prog 182 #[.pointer (some ⟨b, 0, none⟩), .agg #[.int .i64 op, .int .i64 (-1), .int .i64 (-1), .int .i64 v1, .int .i64 v2, .string (S v3)]] W (Rp W B b s pv' (putP (op, -1, -1, v1, v2, v3) st1))) := fun W pv' k => put_any k hgd.p (op, -1, -1, v1, v2, v3)
    have HEQ : Hid (leaf s op (v1, v2, v3) st = putP (op, -1, -1, v1, v2, v3) st1) := by show _ = _; unfold leaf; rw [hq]; rfl
    clear hq h hg R1 L1 hg1 hcx hd hb1 hW1
    rcases hq2 : putP (op, -1, -1, v1, v2, v3) st1 with st2 | ⟨er, ea⟩ | _
    · have HQ2 : Hid (∀ W pv' e w', Lf w b pv W pv' → Rp W B b s pv' (putP (op, -1, -1, v1, v2, v3) st1) e w' → e = .returned (.tuple #[]) ∧ Hid (Rp w B b s pv (leaf s op (v1, v2, v3) st) (.returned (.tuple #[])) w')) := fun W pv' e w' L hR => by
        have h1 := Rp.liftG L hR
        obtain ⟨rfl, -⟩ := hR.good hq2
        rw [HEQ.out]
        exact ⟨rfl, h1⟩
      clear hq2 HEQ
      go_enter Tryz.func197, Tryz.ntmps197
      go_wp2_with (first
        | (go_at_call 161; rw [HWE.out]; refine CN.mono ?_; rintro e w2 hR; obtain ⟨he, pv2, HR2, ⟨g0, g1, g2⟩, g3⟩ := HQ.out e w2 hR; subst he; have CP := HPU.out w2 pv2 HR2.out.1; clear hR CN)
        | (go_at_call 182; refine CP.mono ?_; rintro e w3 hR; obtain ⟨he, HX⟩ := HQ2.out _ _ e w3 HR2.out.2 hR; subst he; clear hR CP))
      first | go_end0 | refine bodyPost_ret (results_none rfl _ _ _) rfl ?_
      exact HX.out
    · have HQ2 : Hid (∀ W pv' e w', Lf w b pv W pv' → Rp W B b s pv' (putP (op, -1, -1, v1, v2, v3) st1) e w' → e = .panicked (wrg er ea) ∧ Hid (Rp w B b s pv (leaf s op (v1, v2, v3) st) (.panicked (wrg er ea)) w')) := fun W pv' e w' L hR => by
        have h1 := Rp.liftG L hR
        obtain ⟨rfl, -⟩ := hR.bad hq2
        rw [HEQ.out]
        exact ⟨rfl, h1⟩
      clear hq2 HEQ
      go_enter Tryz.func197, Tryz.ntmps197
      go_wp2_with (first
        | (go_at_call 161; rw [HWE.out]; refine CN.mono ?_; rintro e w2 hR; obtain ⟨he, pv2, HR2, ⟨g0, g1, g2⟩, g3⟩ := HQ.out e w2 hR; subst he; have CP := HPU.out w2 pv2 HR2.out.1; clear hR CN)
        | (go_at_call 182; refine CP.mono ?_; rintro e w3 hR; obtain ⟨he, HX⟩ := HQ2.out _ _ e w3 HR2.out.2 hR; subst he; clear hR CP))
      exact ⟨rfl, HX.out⟩
    · exact absurd hq2 put_out
  · have HQ : Hid (∀ e w', Rp W1 B b s pv (nxt s st) e w' → e = .panicked (wrg er ea) ∧ Hid (Rp w B b s pv (leaf s op (v1, v2, v3) st) (.panicked (wrg er ea)) w')) := fun e w' hR => by
      have h1 := Rp.liftG L1 hR
      obtain ⟨rfl, -⟩ := hR.bad hq
      refine ⟨rfl, ?_⟩
      show Rp _ _ _ _ _ _ _ _
      unfold leaf
      rw [hq] at h1 ⊢
      exact h1
    clear hq h hg R1 L1 hg1 hcx hd hb1 hW1
    go_enter Tryz.func197, Tryz.ntmps197
    go_wp2_with (go_at_call 161; rw [HWE.out]; refine CN.mono ?_; rintro e w2 hR; obtain ⟨he, HX⟩ := HQ.out e w2 hR; subst he; clear hR CN)
    exact ⟨rfl, HX.out⟩
  · exact absurd hq nxt_out
end Go.Proofs.YtkbhngdabfoboaaGreatDoor.x10
namespace Go.Proofs.YtkbhngdabfoboaaGreatDoor.x10
open Go.RowKit Go.Shelf Go.Sort
open Go.Lib hiding intOf

set_option maxHeartbeats 1000000 in
set_option maxRecDepth 100000 in
theorem must_any {w : World} {B b : Nat} {s : List UInt8} {st : Rs} {pv : Value} (h : Rm w B b s st pv) (hg : Gx B w) (hs : s.length ≤ 512) (hd : Gd s st) (m : List UInt8) : Calls Tryz.prog 217 #[.pointer (some ⟨b, 0, none⟩), .string (S m)] w (Rp w B b s pv (must s m st)) := by
  have hbl := h.ob.lt
  have c3 : w.cell? ⟨b, 3, none⟩ = some (.string (S st.now.s)) := h.ob.c 3
  have CN := next_any h hg hs hd.b
  have CF := refuse_any h
  by_cases hm : st.now.s = m
  · have HEQ : Hid (must s m st = nxt s st) := if_pos hm
    have hne : ((S st.now.s).toList == (S m).toList) = true := by rw [hm]; simp
    clear h hg hd
    generalize st.now.s = ns at *
    subst hm
    rcases hq : nxt s st with st1 | ⟨er, ea⟩ | _
    · have HQ : Hid (∀ e w', Rp w B b s pv (nxt s st) e w' → e = .returned (.tuple #[]) ∧ Hid (Rp w B b s pv (must s ns st) (.returned (.tuple #[])) w')) := fun e w' hR => by
        have h1 := hR
        obtain ⟨rfl, -⟩ := hR.good hq
        rw [HEQ.out]
        exact ⟨rfl, h1⟩
      clear hq HEQ
      go_enter Tryz.func217, Tryz.ntmps217
      go_wp2_with (go_at_call 161; refine CN.mono ?_; rintro e w2 hR; obtain ⟨he, HX⟩ := HQ.out e w2 hR; subst he; clear hR CN)
      first | go_end0 | refine bodyPost_ret (results_none rfl _ _ _) rfl ?_
      exact HX.out
    · have HQ : Hid (∀ e w', Rp w B b s pv (nxt s st) e w' → e = .panicked (wrg er ea) ∧ Hid (Rp w B b s pv (must s ns st) (.panicked (wrg er ea)) w')) := fun e w' hR => by
        have h1 := hR
        obtain ⟨rfl, -⟩ := hR.bad hq
        rw [HEQ.out]
        exact ⟨rfl, h1⟩
      clear hq HEQ
      go_enter Tryz.func217, Tryz.ntmps217
      go_wp2_with (go_at_call 161; refine CN.mono ?_; rintro e w2 hR; obtain ⟨he, HX⟩ := HQ.out e w2 hR; subst he; clear hR CN)
      exact ⟨rfl, HX.out⟩
    · exact absurd hq nxt_out
  · have HEQ : Hid (must s m st = .no 10 st.now.at') := if_neg hm
    have hne : ((S st.now.s).toList == (S m).toList) = false := by rw [S_toList, S_toList, beq_eq_false_iff_ne]; exact hm
    clear h hg hd CN hm
    go_enter Tryz.func217, Tryz.ntmps217
    go_wp2_with (go_at_call 163; refine CF.mono ?_; rintro e w2 ⟨rfl, hw2⟩; rw [hw2]; clear hw2)
    rw [HEQ.out]
    exact ⟨rfl, rfl, Ch.refl _ _⟩

theorem sgs_txt (k : Nat) (h : k < 19) : sgsV[k * 2]? = some (.string (S (sgs[k]?.getD ([], 0)).1)) ∧ sgsV[k * 2 + 1]? = some (.int .i64 (lvl k)) := by
  have key : ∀ k : Fin 19, sgsV[k.val * 2]? = some (.string (S (sgs[k.val]?.getD ([], 0)).1)) ∧ sgsV[k.val * 2 + 1]? = some (.int .i64 (lvl k.val)) := by
    intro k
    match k with
    | ⟨0, _⟩ => exact ⟨rfl, rfl⟩
    | ⟨1, _⟩ => exact ⟨rfl, rfl⟩
    | ⟨2, _⟩ => exact ⟨rfl, rfl⟩
    | ⟨3, _⟩ => exact ⟨rfl, rfl⟩
    | ⟨4, _⟩ => exact ⟨rfl, rfl⟩
    | ⟨5, _⟩ => exact ⟨rfl, rfl⟩
    | ⟨6, _⟩ => exact ⟨rfl, rfl⟩
    | ⟨7, _⟩ => exact ⟨rfl, rfl⟩
    | ⟨8, _⟩ => exact ⟨rfl, rfl⟩
    | ⟨9, _⟩ => exact ⟨rfl, rfl⟩
    | ⟨10, _⟩ => exact ⟨rfl, rfl⟩
    | ⟨11, _⟩ => exact ⟨rfl, rfl⟩
    | ⟨12, _⟩ => exact ⟨rfl, rfl⟩
    | ⟨13, _⟩ => exact ⟨rfl, rfl⟩
    | ⟨14, _⟩ => exact ⟨rfl, rfl⟩
    | ⟨15, _⟩ => exact ⟨rfl, rfl⟩
    | ⟨16, _⟩ => exact ⟨rfl, rfl⟩
    | ⟨17, _⟩ => exact ⟨rfl, rfl⟩
    | ⟨18, _⟩ => exact ⟨rfl, rfl⟩
    | ⟨n + 19, h⟩ => exact absurd h (by omega)
  exact key ⟨k, h⟩
theorem sg_cell {B : Nat} {w : World} (hg : Gx B w) (k : Nat) (h : k < 19) : w.cell? ⟨1, k * 2, none⟩ = some (.string (S (sgs[k]?.getD ([], 0)).1)) ∧ w.cell? ⟨1, k * 2 + 1, none⟩ = some (.int .i64 (lvl k)) := by
  have hv := (hg w (Below.refl _ _)).1
  have h1 := fun off => World.var?_cell (g := 1) (P := Tryz.prog) (by kernel_rfl) hv off
  obtain ⟨q1, q2⟩ := sgs_txt k h
  exact ⟨(h1 _).trans q1, (h1 _).trans q2⟩

set_option maxHeartbeats 1000000 in
set_option maxRecDepth 100000 in
theorem two_any {B : Nat} {w : World} (hg : Gx B w) (t : List UInt8) : Calls Tryz.prog 181 #[.string (S t)] w fun e w' => e = .returned (.int .i64 (twoH t : Int)) ∧ w' = w := by
  have HG : Hid (∀ k, k < 19 → _) := fun k h => sg_cell hg k h
  clear hg
  go_enter Tryz.func181, Tryz.ntmps181
  go_wp2
  go_loopw [3] (fun v3 wr => ∃ i : Nat, v3 = .int .i64 ((6 + i : Nat) : Int) ∧ i ≤ 13 ∧ wr = w ∧ Hid (∀ j (hj : j < (List.range 13).length), j < i → ((sgs[6 + (List.range 13)[j]]?.getD ([], 0)).1 == t) = false)) (fun v3 _ => 19 - (intOf v3).toNat)
  case atStart => exact ⟨0, rfl, Nat.zero_le _, rfl, fun j _ hj => by omega⟩
  case round =>
    obtain ⟨i, rfl, hi, rfl, HI⟩ := hrel
    obtain ⟨k, hk⟩ : ∃ k, 6 + i = k := ⟨_, rfl⟩
    rw [hk]
    by_cases hi13 : i < 13
    · have hk18 : (k : Int) ≤ 18 := by omega
      have hk0 : (0 : Int) ≤ (k : Int) := by omega
      have hk19 : (k : Int) < 19 := by omega
      have hkn : k < 19 := by omega
      obtain ⟨q1, -⟩ := HG.out k hkn
      obtain ⟨u, hu⟩ : ∃ u, (sgs[k]?.getD ([], 0)).1 = u := ⟨_, rfl⟩
      rw [hu] at q1
      have hir : i < (List.range 13).length := by simpa using hi13
      have HFS := find_some (p := fun i => (sgs[6 + i]?.getD ([], 0)).1 == t) hir HI.out
      simp only [List.getElem_range] at HFS
      rw [hk, hu] at HFS
      cases q : u == t with
      | true =>
        have HE : Hid (twoH t = k) := by
          show _ = _
          unfold twoH
          rw [HFS q]
          exact hk
        have q' : ((S u).toList == (S t).toList) = true := by rw [S_toList, S_toList]; exact q
        clear HFS q hu
        go_wp2
        go_ret
        rw [HE.out]
        exact ⟨rfl, rfl⟩
      | false =>
        have HN : Hid (∀ j (hj : j < (List.range 13).length), j < i + 1 → ((sgs[6 + (List.range 13)[j]]?.getD ([], 0)).1 == t) = false) := fun j hj hji => by
          rcases Nat.lt_succ_iff_lt_or_eq.1 hji with h1 | rfl
          · exact HI.out j hj h1
          · simp only [List.getElem_range]
            rw [hk, hu]
            exact q
        have q' : ((S u).toList == (S t).toList) = false := by rw [S_toList, S_toList]; exact q
        clear HFS q hu
        go_wp2
        go_roundw
        case rel => exact ⟨i + 1, by rw [show 6 + (i + 1) = k + 1 by omega]; simp, by omega, by first | rfl | trivial, HN⟩
        case measure => simp [intOf]; omega
    · have hk18 : ¬ (k : Int) ≤ 18 := by omega
      have HE : Hid (twoH t = 0) := by
        show _ = _
        unfold twoH
        rw [find_none (i := i) (by simp; omega) HI.out]
      go_wp2
      go_ret
      rw [HE.out]
      exact ⟨rfl, rfl⟩
end Go.Proofs.YtkbhngdabfoboaaGreatDoor.x10
namespace Go.Proofs.YtkbhngdabfoboaaGreatDoor.x10
open Go.RowKit Go.Shelf Go.Sort
open Go.Lib hiding intOf

/-- what is known of a reader at a place in a call -/
structure At (w : World) (B b : Nat) (s : List UInt8) (pv : Value) (w1 : World) (st1 : Rs) (pv1 : Value) : Prop where
  rm : Rm w1 B b s st1 pv1
  lf : Lf w b pv w1 pv1
  gd : Gd s st1
  gx : Gx B w1
theorem At.step {w w1 w2 : World} {B b : Nat} {s : List UInt8} {pv pv1 pv2 : Value} {st1 st2 : Rs} (h : At w B b s pv w1 st1 pv1) (k : Rm w2 B b s st2 pv2) (l : Lf w1 b pv1 w2 pv2) (g : Gd s st2) : At w B b s pv w2 st2 pv2 :=
  ⟨k, h.lf.trans l, g, h.rm.gx2 h.gx l⟩
theorem At.same {w w1 w2 : World} {B b : Nat} {s : List UInt8} {pv pv1 : Value} {st1 : Rs} (h : At w B b s pv w1 st1 pv1) (hw : w2 = w1) : At w B b s pv w2 st1 pv1 := hw ▸ h
/-- a call's end, seen from further back -/
theorem At.ok {w w1 w' : World} {B b : Nat} {s : List UInt8} {pv pv1 : Value} {st1 st2 : Rs} {r : Ot Rs} {e : Ending} (h : At w B b s pv w1 st1 pv1) (hR : Rp w1 B b s pv1 r e w') (hr : r = .ok st2) (hg : Gd s st2) : e = .returned (.tuple #[]) ∧ ∃ pv2, Hid (At w B b s pv w' st2 pv2) := by
  obtain ⟨rfl, pv2, k1, k2⟩ := hR.good hr
  exact ⟨rfl, pv2, h.step k1 k2 hg⟩
theorem At.no {w w1 w' : World} {B b : Nat} {s : List UInt8} {pv pv1 : Value} {st1 : Rs} {r q : Ot Rs} {er ea : Int} {e : Ending} (h : At w B b s pv w1 st1 pv1) (hR : Rp w1 B b s pv1 r e w') (hr : r = .no er ea) (hq : q = .no er ea) : e = .panicked (wrg er ea) ∧ Hid (Rp w B b s pv q (.panicked (wrg er ea)) w') := by
  have h1 := Rp.liftG h.lf hR
  obtain ⟨rfl, -⟩ := hR.bad hr
  rw [hr] at h1
  rw [hq]
  exact ⟨rfl, h1⟩
theorem At.fin {w w1 : World} {B b : Nat} {s : List UInt8} {pv pv1 : Value} {st1 : Rs} {q : Ot Rs} (h : At w B b s pv w1 st1 pv1) (hq : q = .ok st1) : Rp w B b s pv q (.returned (.tuple #[])) w1 := by
  rw [hq]
  exact ⟨rfl, pv1, h.rm, h.lf⟩
def plen (w : World) (b : Nat) : Nat := match w.cell? ⟨b, 9, none⟩ with
  | some (.slice _ n _) => n
  | _ => 0
theorem plen_at {w : World} {B b : Nat} {s : List UInt8} {st : Rs} {pv : Value} (h : Rm w B b s st pv) : plen w b = st.parts.length := by
  obtain ⟨pa, pcap, rfl, -⟩ := row_slice h.row
  have c9 : w.cell? ⟨b, 9, none⟩ = some (.slice pa st.parts.length pcap) := h.ob.c 9
  unfold plen
  rw [c9]
/-- the contracts at a fuel -/
structure Al (s : List UInt8) (B b : Nat) (n : Nat) : Prop where
  opds : ∀ (lv : Int) (st : Rs) (pv : Value) (w : World), Rm w B b s st pv → Gx B w → Gd s st → x10.opds s n lv st ≠ .out → -10 ≤ lv ∧ lv ≤ 100 → Calls Tryz.prog 162 #[.pointer (some ⟨b, 0, none⟩), .int .i64 lv] w (Rp w B b s pv (x10.opds s n lv st))
  opd : ∀ (st : Rs) (pv : Value) (w : World), Rm w B b s st pv → Gx B w → Gd s st → x10.opd s n st ≠ .out → Calls Tryz.prog 179 #[.pointer (some ⟨b, 0, none⟩)] w (Rp w B b s pv (x10.opd s n st))
  aftW : ∀ (wd : List UInt8) (st : Rs) (pv : Value) (w : World), Rm w B b s st pv → Gx B w → Gd s st → x10.aftW s n wd st ≠ .out → Calls Tryz.prog 198 #[.pointer (some ⟨b, 0, none⟩), .string (S wd)] w (Rp w B b s pv (x10.aftW s n wd st))
  aftM : ∀ (wd : List UInt8) (st : Rs) (pv : Value) (w : World), Rm w B b s st pv → Gx B w → Gd s st → x10.aftM s n wd st ≠ .out → Calls Tryz.prog 199 #[.pointer (some ⟨b, 0, none⟩), .string (S wd)] w (Rp w B b s pv (x10.aftM s n wd st))
  inBr : ∀ (st : Rs) (pv : Value) (w : World), Rm w B b s st pv → Gx B w → Gd s st → x10.inBr s n st ≠ .out → Calls Tryz.prog 209 #[.pointer (some ⟨b, 0, none⟩)] w (Rp w B b s pv (x10.inBr s n st))
theorem Al.zero (s : List UInt8) (B b : Nat) : Al s B b 0 := ⟨fun _ _ _ _ _ _ _ h => absurd rfl h, fun _ _ _ _ _ _ h => absurd rfl h, fun _ _ _ _ _ _ _ h => absurd rfl h, fun _ _ _ _ _ _ _ h => absurd rfl h, fun _ _ _ _ _ _ h => absurd rfl h⟩
theorem bind_eq {α β : Type} {x : Ot α} {f : α → Ot β} {a : α} (h : x = .ok a) : x.bind f = f a := by rw [h]; rfl
theorem bind_no {α β : Type} {x : Ot α} {f : α → Ot β} {e a : Int} (h : x = .no e a) : x.bind f = .no e a := by rw [h]; rfl
theorem bind_outs {α β : Type} {x : Ot α} {f : α → Ot β} (h : x = .out) : x.bind f = .out := by rw [h]; rfl

variable {s : List UInt8} {B b : Nat}
set_option maxHeartbeats 1000000 in
set_option maxRecDepth 100000 in
theorem inBr_step (hs : s.length ≤ 512) {n : Nat} (ih : Al s B b n) (st : Rs) (pv : Value) (w : World) (h : Rm w B b s st pv) (hg : Gx B w) (hd : Gd s st) (hno : inBr s (n + 1) st ≠ .out) : Calls Tryz.prog 209 #[.pointer (some ⟨b, 0, none⟩)] w (Rp w B b s pv (inBr s (n + 1) st)) := by
  have H0 : Hid (At w B b s pv w st pv) := ⟨h, Lf.refl _ _ _, hd, hg⟩
  have hbl := h.ob.lt
  have CA := must_any h hg hs hd [40]
  have HE : Hid (inBr s (n + 1) st = (must s [40] st).bind fun st => (opds s n 1 st).bind fun st => must s [41] st) := by show _ = _; rw [inBr]
  clear h hg
  rcases q1 : must s [40] st with st1 | ⟨er, ea⟩ | _
  · have g1 := must_gr hd q1
    have HE1 : Hid (inBr s (n + 1) st = (opds s n 1 st1).bind fun st => must s [41] st) := HE.out.trans (bind_eq q1)
    rcases q2 : opds s n 1 st1 with st2 | ⟨er, ea⟩ | _
    · have g2 := (gr_all s n).1 _ _ _ g1.1 q2
      have HE2 : Hid (inBr s (n + 1) st = must s [41] st2) := HE1.out.trans (bind_eq q2)
      have HO : Hid (∀ w1 pv1, At w B b s pv w1 st1 pv1 → Calls Tryz.prog 162 #[.pointer (some ⟨b, 0, none⟩), .int .i64 1] w1 (Rp w1 B b s pv1 (opds s n 1 st1))) := fun w1 pv1 k => ih.opds 1 st1 pv1 w1 k.rm k.gx k.gd (by rw [q2]; simp) ⟨by omega, by omega⟩
      have HM : Hid (∀ w2 pv2, At w B b s pv w2 st2 pv2 → Calls Tryz.prog 217 #[.pointer (some ⟨b, 0, none⟩), .string ⟨#[41]⟩] w2 (Rp w2 B b s pv2 (must s [41] st2))) := fun w2 pv2 k => must_any k.rm k.gx hs k.gd [41]
      have HQ1 : Hid (∀ e w', Rp w B b s pv (must s [40] st) e w' → _) := fun e w' hR => H0.out.ok hR q1 g1.1
      have HQ2 : Hid (∀ w1 pv1 e w', At w B b s pv w1 st1 pv1 → Rp w1 B b s pv1 (opds s n 1 st1) e w' → _) := fun w1 pv1 e w' k hR => k.ok hR q2 g2.1
      clear q1 q2 HE HE1 ih hno
      rcases q3 : must s [41] st2 with st3 | ⟨er, ea⟩ | _
      · have g3 := must_gr g2.1 q3
        have HQ3 : Hid (∀ w2 pv2 e w', At w B b s pv w2 st2 pv2 → Rp w2 B b s pv2 (must s [41] st2) e w' → e = .returned (.tuple #[]) ∧ Hid (Rp w B b s pv (inBr s (n + 1) st) (.returned (.tuple #[])) w')) := fun w2 pv2 e w' k hR => by
          obtain ⟨rfl, pv3, k3⟩ := k.ok hR q3 g3.1
          exact ⟨rfl, k3.out.fin (HE2.out.trans q3)⟩
        clear q3 HE2 H0 hd g1 g2 g3
        go_enter Tryz.func209, Tryz.ntmps209
        go_wp2_with (first
          | (go_at_call_of 217 (Value.string ⟨#[40]⟩); refine CA.mono ?_; rintro e w1 hR; obtain ⟨he, pv1, K1⟩ := HQ1.out e w1 hR; subst he; have CO := HO.out w1 pv1 K1.out; clear hR CA)
          | (go_at_call 162; refine CO.mono ?_; rintro e w2 hR; obtain ⟨he, pv2, K2⟩ := HQ2.out w1 pv1 e w2 K1.out hR; subst he; have CM := HM.out w2 pv2 K2.out; clear hR CO)
          | (go_at_call 217; refine CM.mono ?_; rintro e w3 hR; obtain ⟨he, HX⟩ := HQ3.out w2 pv2 e w3 K2.out hR; subst he; clear hR CM))
        first | go_end0 | refine bodyPost_ret (results_none rfl _ _ _) rfl ?_
        exact HX.out
      · have HQ3 : Hid (∀ w2 pv2 e w', At w B b s pv w2 st2 pv2 → Rp w2 B b s pv2 (must s [41] st2) e w' → _) := fun w2 pv2 e w' k hR => k.no hR q3 (HE2.out.trans q3)
        clear q3 HE2 H0 hd g1 g2
        go_enter Tryz.func209, Tryz.ntmps209
        go_wp2_with (first
          | (go_at_call_of 217 (Value.string ⟨#[40]⟩); refine CA.mono ?_; rintro e w1 hR; obtain ⟨he, pv1, K1⟩ := HQ1.out e w1 hR; subst he; have CO := HO.out w1 pv1 K1.out; clear hR CA)
          | (go_at_call 162; refine CO.mono ?_; rintro e w2 hR; obtain ⟨he, pv2, K2⟩ := HQ2.out w1 pv1 e w2 K1.out hR; subst he; have CM := HM.out w2 pv2 K2.out; clear hR CO)
          | (go_at_call 217; refine CM.mono ?_; rintro e w3 hR; obtain ⟨he, HX⟩ := HQ3.out w2 pv2 e w3 K2.out hR; subst he; clear hR CM))
        exact ⟨rfl, HX.out⟩
      · exact absurd q3 (by unfold must; split; exact nxt_out; simp)
    · have HO : Hid (∀ w1 pv1, At w B b s pv w1 st1 pv1 → Calls Tryz.prog 162 #[.pointer (some ⟨b, 0, none⟩), .int .i64 1] w1 (Rp w1 B b s pv1 (opds s n 1 st1))) := fun w1 pv1 k => ih.opds 1 st1 pv1 w1 k.rm k.gx k.gd (by rw [q2]; simp) ⟨by omega, by omega⟩
      have HQ1 : Hid (∀ e w', Rp w B b s pv (must s [40] st) e w' → _) := fun e w' hR => H0.out.ok hR q1 g1.1
      have HQ2 : Hid (∀ w1 pv1 e w', At w B b s pv w1 st1 pv1 → Rp w1 B b s pv1 (opds s n 1 st1) e w' → _) := fun w1 pv1 e w' k hR => k.no hR q2 (HE1.out.trans (bind_no q2))
      clear q1 q2 HE HE1 ih hno H0 hd g1
      go_enter Tryz.func209, Tryz.ntmps209
      go_wp2_with (first
        | (go_at_call_of 217 (Value.string ⟨#[40]⟩); refine CA.mono ?_; rintro e w1 hR; obtain ⟨he, pv1, K1⟩ := HQ1.out e w1 hR; subst he; have CO := HO.out w1 pv1 K1.out; clear hR CA)
        | (go_at_call 162; refine CO.mono ?_; rintro e w2 hR; obtain ⟨he, HX⟩ := HQ2.out w1 pv1 e w2 K1.out hR; subst he; clear hR CO))
      exact ⟨rfl, HX.out⟩
    · exact absurd (HE1.out.trans (bind_outs q2)) hno
  · have HQ1 : Hid (∀ e w', Rp w B b s pv (must s [40] st) e w' → _) := fun e w' hR => H0.out.no hR q1 (HE.out.trans (bind_no q1))
    clear q1 HE ih hno H0 hd
    go_enter Tryz.func209, Tryz.ntmps209
    go_wp2_with (go_at_call 217; refine CA.mono ?_; rintro e w1 hR; obtain ⟨he, HX⟩ := HQ1.out e w1 hR; subst he; clear hR CA)
    exact ⟨rfl, HX.out⟩
  · exact absurd q1 (by unfold must; split; exact nxt_out; simp)
end Go.Proofs.YtkbhngdabfoboaaGreatDoor.x10
namespace Go.Proofs.YtkbhngdabfoboaaGreatDoor.x10
open Go.RowKit Go.Shelf Go.Sort
open Go.Lib hiding intOf

variable {s : List UInt8} {B b : Nat}

theorem cmpL (w l : List UInt8) : ((S w).toList == l) = (w == l) := by rw [S_toList]
set_option maxHeartbeats 1000000 in
set_option maxRecDepth 100000 in
theorem aftM_step (hs : s.length ≤ 512) {n : Nat} (ih : Al s B b n) (m : List UInt8) (st : Rs) (pv : Value) (w : World) (h : Rm w B b s st pv) (hg : Gx B w) (hd : Gd s st) (hno : aftM s (n + 1) m st ≠ .out) : Calls Tryz.prog 199 #[.pointer (some ⟨b, 0, none⟩), .string (S m)] w (Rp w B b s pv (aftM s (n + 1) m st)) := by
  have H0 : Hid (At w B b s pv w st pv) := ⟨h, Lf.refl _ _ _, hd, hg⟩
  have hbl := h.ob.lt
  have e1 := cmpL m [40]
  have e2 := cmpL m [45]
  have CF := refuse_any h
  have HE0 : Hid (aftM s (n + 1) m st = if m = [40] then inBr s n st else if m = [45] then (nxt s st).bind fun st => (opd s n st).bind fun st => putP (3, lasP st, -1, v0) st else .no 10 st.now.at') := by show _ = _; rw [aftM]
  clear h hg
  by_cases m1 : m = [40]
  · rw [beq_iff_eq.2 m1] at e1
    have HE : Hid (aftM s (n + 1) m st = inBr s n st) := HE0.out.trans (if_pos m1)
    clear m1 HE0 e2 CF
    have CA := ih.inBr st pv w H0.out.rm H0.out.gx hd (by rw [← HE.out]; exact hno)
    rcases q1 : inBr s n st with st1 | ⟨er, ea⟩ | _
    · have HQ1 : Hid (∀ e w', Rp w B b s pv (inBr s n st) e w' → e = .returned (.tuple #[]) ∧ Hid (Rp w B b s pv (aftM s (n + 1) m st) (.returned (.tuple #[])) w')) := fun e w' hR => by
        have h1 := hR
        obtain ⟨rfl, -⟩ := hR.good q1
        rw [HE.out]
        exact ⟨rfl, h1⟩
      clear q1 HE ih hno H0 hd 
      go_enter Tryz.func199, Tryz.ntmps199
      go_wp2_with (first
        | (go_at_call 209; refine CA.mono ?_; rintro e w1 hR; obtain ⟨he, HX⟩ := HQ1.out e w1 hR; subst he; clear hR CA))
      first | go_end0 | refine bodyPost_ret (results_none rfl _ _ _) rfl ?_
      exact HX.out
    · have HQ1 : Hid (∀ e w', Rp w B b s pv (inBr s n st) e w' → e = .panicked (wrg er ea) ∧ Hid (Rp w B b s pv (aftM s (n + 1) m st) (.panicked (wrg er ea)) w')) := fun e w' hR => by
        have h1 := hR
        obtain ⟨rfl, -⟩ := hR.bad q1
        rw [HE.out]
        exact ⟨rfl, h1⟩
      clear q1 HE ih hno H0 hd 
      go_enter Tryz.func199, Tryz.ntmps199
      go_wp2_with (first
        | (go_at_call 209; refine CA.mono ?_; rintro e w1 hR; obtain ⟨he, HX⟩ := HQ1.out e w1 hR; subst he; clear hR CA))
      exact ⟨rfl, HX.out⟩
    · exact absurd (HE.out.trans q1) hno
  · rw [beq_eq_false_iff_ne.2 m1] at e1
    by_cases m2 : m = [45]
    · rw [beq_iff_eq.2 m2] at e2
      have HE : Hid (aftM s (n + 1) m st = (nxt s st).bind fun st => (opd s n st).bind fun st => putP (3, lasP st, -1, v0) st) := HE0.out.trans ((if_neg m1).trans (if_pos m2))
      clear m1 m2 HE0 CF
      have CA := next_any H0.out.rm H0.out.gx hs hd.b
      rcases q1 : nxt s st with st1 | ⟨er, ea⟩ | _
      · have g1 := nxt_gr hd q1
        have HE1 : Hid (aftM s (n + 1) m st = (opd s n st1).bind fun st => putP (3, lasP st, -1, v0) st) := HE.out.trans (bind_eq q1)
        rcases q2 : opd s n st1 with st2 | ⟨er, ea⟩ | _
        · have g2 := (gr_all s n).2.2.1 _ _ g1.1 q2
          have HE2 : Hid (aftM s (n + 1) m st = putP (3, lasP st2, -1, v0) st2) := HE1.out.trans (bind_eq q2)
          have HO : Hid (∀ w1 pv1, At w B b s pv w1 st1 pv1 → Calls Tryz.prog 179 #[.pointer (some ⟨b, 0, none⟩)] w1 (Rp w1 B b s pv1 (opd s n st1))) := fun w1 pv1 k => ih.opd st1 pv1 w1 k.rm k.gx k.gd (by rw [q2]; simp)
          have HL : Hid (∀ w2 pv2, At w B b s pv w2 st2 pv2 → Calls Tryz.prog 180 #[.pointer (some ⟨b, 0, none⟩)] w2 fun e w' => e = .returned (.int .i64 (lasP st2)) ∧ w' = w2) := fun w2 pv2 k => last_any k.rm k.gd.p
          have HM : Hid (∀ w2 pv2, At w B b s pv w2 st2 pv2 → Calls Tryz.prog 182 #[.pointer (some ⟨b, 0, none⟩), .agg #[.int .i64 3, .int .i64 (lasP st2), .int .i64 (-1), .int .i64 0, .int .i64 0, .string ⟨#[]⟩]] w2 (Rp w2 B b s pv2 (putP (3, lasP st2, -1, v0) st2))) := fun w2 pv2 k => put_any k.rm k.gd.p (3, lasP st2, -1, v0)
          have HQ1 : Hid (∀ e w', Rp w B b s pv (nxt s st) e w' → _) := fun e w' hR => H0.out.ok hR q1 g1.1
          have HQ2 : Hid (∀ w1 pv1 e w', At w B b s pv w1 st1 pv1 → Rp w1 B b s pv1 (opd s n st1) e w' → _) := fun w1 pv1 e w' k hR => k.ok hR q2 g2.1
          clear q1 q2 HE HE1 ih hno
          rcases q3 : putP (3, lasP st2, -1, v0) st2 with st3 | ⟨er, ea⟩ | _
          · have g3 := put_gr g2.1 q3
            have HQ3 : Hid (∀ w2 pv2 e w', At w B b s pv w2 st2 pv2 → Rp w2 B b s pv2 (putP (3, lasP st2, -1, v0) st2) e w' → e = .returned (.tuple #[]) ∧ Hid (Rp w B b s pv (aftM s (n + 1) m st) (.returned (.tuple #[])) w')) := fun w2 pv2 e w' k hR => by
              obtain ⟨rfl, pv3, k3⟩ := k.ok hR q3 g3.1
              exact ⟨rfl, k3.out.fin (HE2.out.trans q3)⟩
            generalize lasP st2 = la at *
            clear q3 HE2 H0 hd g1 g2 g3 
            go_enter Tryz.func199, Tryz.ntmps199
            go_wp2_with (first
              | (go_at_call 161; refine CA.mono ?_; rintro e w1 hR; obtain ⟨he, pv1, K1⟩ := HQ1.out e w1 hR; subst he; have CO := HO.out w1 pv1 K1.out; clear hR CA)
              | (go_at_call 179; refine CO.mono ?_; rintro e w2 hR; obtain ⟨he, pv2, K2⟩ := HQ2.out w1 pv1 e w2 K1.out hR; subst he; have CL := HL.out w2 pv2 K2.out; have CM := HM.out w2 pv2 K2.out; clear hR CO)
              | (go_at_call 180; refine CL.mono ?_; rintro e w3 ⟨rfl, hw3⟩; rw [hw3]; clear hw3 CL)
              | (go_at_call 182; refine CM.mono ?_; rintro e w4 hR; obtain ⟨he, HX⟩ := HQ3.out w2 pv2 e w4 K2.out hR; subst he; clear hR CM))
            first | go_end0 | refine bodyPost_ret (results_none rfl _ _ _) rfl ?_
            exact HX.out
          · have HQ3 : Hid (∀ w2 pv2 e w', At w B b s pv w2 st2 pv2 → Rp w2 B b s pv2 (putP (3, lasP st2, -1, v0) st2) e w' → _) := fun w2 pv2 e w' k hR => k.no hR q3 (HE2.out.trans q3)
            generalize lasP st2 = la at *
            clear q3 HE2 H0 hd g1 g2 
            go_enter Tryz.func199, Tryz.ntmps199
            go_wp2_with (first
              | (go_at_call 161; refine CA.mono ?_; rintro e w1 hR; obtain ⟨he, pv1, K1⟩ := HQ1.out e w1 hR; subst he; have CO := HO.out w1 pv1 K1.out; clear hR CA)
              | (go_at_call 179; refine CO.mono ?_; rintro e w2 hR; obtain ⟨he, pv2, K2⟩ := HQ2.out w1 pv1 e w2 K1.out hR; subst he; have CL := HL.out w2 pv2 K2.out; have CM := HM.out w2 pv2 K2.out; clear hR CO)
              | (go_at_call 180; refine CL.mono ?_; rintro e w3 ⟨rfl, hw3⟩; rw [hw3]; clear hw3 CL)
              | (go_at_call 182; refine CM.mono ?_; rintro e w4 hR; obtain ⟨he, HX⟩ := HQ3.out w2 pv2 e w4 K2.out hR; subst he; clear hR CM))
            exact ⟨rfl, HX.out⟩
          · exact absurd q3 put_out
        · have HO : Hid (∀ w1 pv1, At w B b s pv w1 st1 pv1 → Calls Tryz.prog 179 #[.pointer (some ⟨b, 0, none⟩)] w1 (Rp w1 B b s pv1 (opd s n st1))) := fun w1 pv1 k => ih.opd st1 pv1 w1 k.rm k.gx k.gd (by rw [q2]; simp)
          have HQ1 : Hid (∀ e w', Rp w B b s pv (nxt s st) e w' → _) := fun e w' hR => H0.out.ok hR q1 g1.1
          have HQ2 : Hid (∀ w1 pv1 e w', At w B b s pv w1 st1 pv1 → Rp w1 B b s pv1 (opd s n st1) e w' → _) := fun w1 pv1 e w' k hR => k.no hR q2 (HE1.out.trans (bind_no q2))
          clear q1 q2 HE HE1 ih hno H0 hd g1 
          go_enter Tryz.func199, Tryz.ntmps199
          go_wp2_with (first
            | (go_at_call 161; refine CA.mono ?_; rintro e w1 hR; obtain ⟨he, pv1, K1⟩ := HQ1.out e w1 hR; subst he; have CO := HO.out w1 pv1 K1.out; clear hR CA)
            | (go_at_call 179; refine CO.mono ?_; rintro e w2 hR; obtain ⟨he, HX⟩ := HQ2.out w1 pv1 e w2 K1.out hR; subst he; clear hR CO))
          exact ⟨rfl, HX.out⟩
        · exact absurd (HE1.out.trans (bind_outs q2)) hno
      · have HQ1 : Hid (∀ e w', Rp w B b s pv (nxt s st) e w' → _) := fun e w' hR => H0.out.no hR q1 (HE.out.trans (bind_no q1))
        clear q1 HE ih hno H0 hd 
        go_enter Tryz.func199, Tryz.ntmps199
        go_wp2_with (first
          | (go_at_call 161; refine CA.mono ?_; rintro e w1 hR; obtain ⟨he, HX⟩ := HQ1.out e w1 hR; subst he; clear hR CA))
        exact ⟨rfl, HX.out⟩
      · exact absurd q1 nxt_out
    · rw [beq_eq_false_iff_ne.2 m2] at e2
      have HE : Hid (aftM s (n + 1) m st = .no 10 st.now.at') := HE0.out.trans ((if_neg m1).trans (if_neg m2))
      clear m1 m2 HE0 ih hno H0 hd
      go_enter Tryz.func199, Tryz.ntmps199
      go_wp2_with (go_at_call 163; refine CF.mono ?_; rintro e w2 ⟨rfl, hw2⟩; rw [hw2]; clear hw2)
      rw [HE.out]
      exact ⟨rfl, rfl, Ch.refl _ _⟩

set_option maxHeartbeats 2000000 in
set_option maxRecDepth 100000 in
theorem aftW_step (hs : s.length ≤ 512) {n : Nat} (ih : Al s B b n) (m : List UInt8) (st : Rs) (pv : Value) (w : World) (h : Rm w B b s st pv) (hg : Gx B w) (hd : Gd s st) (hno : aftW s (n + 1) m st ≠ .out) : Calls Tryz.prog 198 #[.pointer (some ⟨b, 0, none⟩), .string (S m)] w (Rp w B b s pv (aftW s (n + 1) m st)) := by
  have H0 : Hid (At w B b s pv w st pv) := ⟨h, Lf.refl _ _ _, hd, hg⟩
  have hbl := h.ob.lt
  have e1 := cmpL m [97, 110, 100]
  have e2 := cmpL m [111, 114]
  have e3 := cmpL m [116, 114, 117, 101]
  have e4 := cmpL m [102, 97, 108, 115, 101]
  have e5 := cmpL m [110, 111, 116]
  have e6 := cmpL m [108, 101, 110]
  have CF := refuse_any h
  have HE0 : Hid (aftW s (n + 1) m st = if m = [97, 110, 100] ∨ m = [111, 114] then .no 10 st.now.at' else if m = [116, 114, 117, 101] ∨ m = [102, 97, 108, 115, 101] then leaf s 1 (truV (m == [116, 114, 117, 101])) st else if m = [110, 111, 116] then (nxt s st).bind fun st => (opd s n st).bind fun st => putP (4, lasP st, -1, v0) st else if m = [108, 101, 110] then (nxt s st).bind fun st => (inBr s n st).bind fun st => putP (5, lasP st, -1, v0) st else leaf s 2 (3, 0, m) st) := by show _ = _; rw [aftW]
  clear h hg
  by_cases m1 : m = [97, 110, 100] ∨ m = [111, 114]
  · have HE : Hid (aftW s (n + 1) m st = .no 10 st.now.at') := HE0.out.trans (if_pos m1)
    have hc : (m == [97, 110, 100]) = true ∨ ((m == [97, 110, 100]) = false ∧ (m == [111, 114]) = true) := by
      rcases m1 with rfl | rfl
      · exact .inl rfl
      · exact .inr ⟨rfl, rfl⟩
    clear m1 HE0 ih hno H0 hd e3 e4 e5 e6
    rcases hc with hc | ⟨hc, hc2⟩
    · rw [hc] at e1
      clear hc
      go_enter Tryz.func198, Tryz.ntmps198
      go_wp2_with (go_at_call 163; refine CF.mono ?_; rintro e w2 ⟨rfl, hw2⟩; rw [hw2]; clear hw2)
      rw [HE.out]
      exact ⟨rfl, rfl, Ch.refl _ _⟩
    · rw [hc] at e1
      rw [hc2] at e2
      clear hc hc2
      go_enter Tryz.func198, Tryz.ntmps198
      go_wp2_with (go_at_call 163; refine CF.mono ?_; rintro e w2 ⟨rfl, hw2⟩; rw [hw2]; clear hw2)
      rw [HE.out]
      exact ⟨rfl, rfl, Ch.refl _ _⟩
  · rw [beq_eq_false_iff_ne.2 (fun e => m1 (.inl e))] at e1
    rw [beq_eq_false_iff_ne.2 (fun e => m1 (.inr e))] at e2
    have HE1 : Hid _ := HE0.out.trans (if_neg m1)
    clear m1 HE0 CF
    by_cases m2 : m = [116, 114, 117, 101] ∨ m = [102, 97, 108, 115, 101]
    · have HE : Hid (aftW s (n + 1) m st = leaf s 1 (truV (m == [116, 114, 117, 101])) st) := HE1.out.trans (if_pos m2)
      clear HE1 e5 e6
      have HT : Hid (∀ x : Bool, _) := fun x => truth_v x
      have hc : ((m == [116, 114, 117, 101]) = true) ∨ ((m == [116, 114, 117, 101]) = false ∧ (m == [102, 97, 108, 115, 101]) = true) := by
        rcases m2 with rfl | rfl
        · exact .inl rfl
        · exact .inr ⟨rfl, rfl⟩
      clear m2
      rcases hc with hc | ⟨hc, hc2⟩
      · rw [hc] at e3 HE
        have CT := HT.out true
        have HLE : Hid (∀ w1, Below w.heap.size w w1 → Calls Tryz.prog 197 #[.pointer (some ⟨b, 0, none⟩), .int .i64 1, .agg #[.int .i64 2, .int .i64 1, .string ⟨#[]⟩]] w1 (Rp w1 B b s pv (leaf s 1 (truV true) st))) := fun w1 hb => leaf_any (H0.out.rm.below hb) (H0.out.rm.gx2 H0.out.gx (Lf.of_below b pv hb)) hs hd 1 (truV true)
        clear hc HT
        simp only [if_true] at CT
        rcases q1 : leaf s 1 (truV true) st with st1 | ⟨er, ea⟩ | _
        · have HQ1 : Hid (∀ w1 e w', Below w.heap.size w w1 → Rp w1 B b s pv (leaf s 1 (truV true) st) e w' → e = .returned (.tuple #[]) ∧ Hid (Rp w B b s pv (aftW s (n + 1) m st) (.returned (.tuple #[])) w')) := fun w1 e w' hb hR => by
            have h1 := Rp.liftG (Lf.of_below b pv hb) hR
            obtain ⟨rfl, -⟩ := hR.good q1
            rw [HE.out]
            exact ⟨rfl, h1⟩
          clear q1 HE ih hno H0 hd
          go_enter Tryz.func198, Tryz.ntmps198
          go_wp2_with (first
            | (go_at_call 208; refine (CT _).mono ?_; rintro e w1 ⟨rfl, b1⟩; (have B1 : Hid (Below w.heap.size w w1) := b1); have CA := HLE.out w1 b1; clear b1 CT)
            | (go_at_call 197; refine CA.mono ?_; rintro e w2 hR; obtain ⟨he, HX⟩ := HQ1.out w1 e w2 B1.out hR; subst he; clear hR CA))
          first | go_end0 | refine bodyPost_ret (results_none rfl _ _ _) rfl ?_
          exact HX.out
        · have HQ1 : Hid (∀ w1 e w', Below w.heap.size w w1 → Rp w1 B b s pv (leaf s 1 (truV true) st) e w' → e = .panicked (wrg er ea) ∧ Hid (Rp w B b s pv (aftW s (n + 1) m st) (.panicked (wrg er ea)) w')) := fun w1 e w' hb hR => by
            have h1 := Rp.liftG (Lf.of_below b pv hb) hR
            obtain ⟨rfl, -⟩ := hR.bad q1
            rw [HE.out]
            exact ⟨rfl, h1⟩
          clear q1 HE ih hno H0 hd
          go_enter Tryz.func198, Tryz.ntmps198
          go_wp2_with (first
            | (go_at_call 208; refine (CT _).mono ?_; rintro e w1 ⟨rfl, b1⟩; (have B1 : Hid (Below w.heap.size w w1) := b1); have CA := HLE.out w1 b1; clear b1 CT)
            | (go_at_call 197; refine CA.mono ?_; rintro e w2 hR; obtain ⟨he, HX⟩ := HQ1.out w1 e w2 B1.out hR; subst he; clear hR CA))
          exact ⟨rfl, HX.out⟩
        · exact absurd (HE.out.trans q1) hno
      · rw [hc] at e3 HE
        rw [hc2] at e4
        have CT := HT.out false
        have HLE : Hid (∀ w1, Below w.heap.size w w1 → Calls Tryz.prog 197 #[.pointer (some ⟨b, 0, none⟩), .int .i64 1, .agg #[.int .i64 2, .int .i64 0, .string ⟨#[]⟩]] w1 (Rp w1 B b s pv (leaf s 1 (truV false) st))) := fun w1 hb => leaf_any (H0.out.rm.below hb) (H0.out.rm.gx2 H0.out.gx (Lf.of_below b pv hb)) hs hd 1 (truV false)
        clear hc hc2 HT
        simp only [Bool.false_eq_true, if_false] at CT
        rcases q1 : leaf s 1 (truV false) st with st1 | ⟨er, ea⟩ | _
        · have HQ1 : Hid (∀ w1 e w', Below w.heap.size w w1 → Rp w1 B b s pv (leaf s 1 (truV false) st) e w' → e = .returned (.tuple #[]) ∧ Hid (Rp w B b s pv (aftW s (n + 1) m st) (.returned (.tuple #[])) w')) := fun w1 e w' hb hR => by
            have h1 := Rp.liftG (Lf.of_below b pv hb) hR
            obtain ⟨rfl, -⟩ := hR.good q1
            rw [HE.out]
            exact ⟨rfl, h1⟩
          clear q1 HE ih hno H0 hd
          go_enter Tryz.func198, Tryz.ntmps198
          go_wp2_with (first
            | (go_at_call 208; refine (CT _).mono ?_; rintro e w1 ⟨rfl, b1⟩; (have B1 : Hid (Below w.heap.size w w1) := b1); have CA := HLE.out w1 b1; clear b1 CT)
            | (go_at_call 197; refine CA.mono ?_; rintro e w2 hR; obtain ⟨he, HX⟩ := HQ1.out w1 e w2 B1.out hR; subst he; clear hR CA))
          first | go_end0 | refine bodyPost_ret (results_none rfl _ _ _) rfl ?_
          exact HX.out
        · have HQ1 : Hid (∀ w1 e w', Below w.heap.size w w1 → Rp w1 B b s pv (leaf s 1 (truV false) st) e w' → e = .panicked (wrg er ea) ∧ Hid (Rp w B b s pv (aftW s (n + 1) m st) (.panicked (wrg er ea)) w')) := fun w1 e w' hb hR => by
            have h1 := Rp.liftG (Lf.of_below b pv hb) hR
            obtain ⟨rfl, -⟩ := hR.bad q1
            rw [HE.out]
            exact ⟨rfl, h1⟩
          clear q1 HE ih hno H0 hd
          go_enter Tryz.func198, Tryz.ntmps198
          go_wp2_with (first
            | (go_at_call 208; refine (CT _).mono ?_; rintro e w1 ⟨rfl, b1⟩; (have B1 : Hid (Below w.heap.size w w1) := b1); have CA := HLE.out w1 b1; clear b1 CT)
            | (go_at_call 197; refine CA.mono ?_; rintro e w2 hR; obtain ⟨he, HX⟩ := HQ1.out w1 e w2 B1.out hR; subst he; clear hR CA))
          exact ⟨rfl, HX.out⟩
        · exact absurd (HE.out.trans q1) hno
    · rw [beq_eq_false_iff_ne.2 (fun e => m2 (.inl e))] at e3
      rw [beq_eq_false_iff_ne.2 (fun e => m2 (.inr e))] at e4
      have HE2 : Hid _ := HE1.out.trans (if_neg m2)
      clear m2 HE1
      by_cases m3 : m = [110, 111, 116]
      · rw [beq_iff_eq.2 m3] at e5
        have HE : Hid (aftW s (n + 1) m st = (nxt s st).bind fun st => (opd s n st).bind fun st => putP (4, lasP st, -1, v0) st) := HE2.out.trans (if_pos m3)
        clear m3 HE2 e6
        have CA := next_any H0.out.rm H0.out.gx hs hd.b
        rcases q1 : nxt s st with st1 | ⟨er, ea⟩ | _
        · have g1 := nxt_gr hd q1
          have HE1 : Hid (aftW s (n + 1) m st = (opd s n st1).bind fun st => putP (4, lasP st, -1, v0) st) := HE.out.trans (bind_eq q1)
          rcases q2 : opd s n st1 with st2 | ⟨er, ea⟩ | _
          · have g2 := (gr_all s n).2.2.1 _ _ g1.1 q2
            have HE2 : Hid (aftW s (n + 1) m st = putP (4, lasP st2, -1, v0) st2) := HE1.out.trans (bind_eq q2)
            have HO : Hid (∀ w1 pv1, At w B b s pv w1 st1 pv1 → Calls Tryz.prog 179 #[.pointer (some ⟨b, 0, none⟩)] w1 (Rp w1 B b s pv1 (opd s n st1))) := fun w1 pv1 k => ih.opd st1 pv1 w1 k.rm k.gx k.gd (by rw [q2]; simp)
            have HL : Hid (∀ w2 pv2, At w B b s pv w2 st2 pv2 → Calls Tryz.prog 180 #[.pointer (some ⟨b, 0, none⟩)] w2 fun e w' => e = .returned (.int .i64 (lasP st2)) ∧ w' = w2) := fun w2 pv2 k => last_any k.rm k.gd.p
            have HM : Hid (∀ w2 pv2, At w B b s pv w2 st2 pv2 → Calls Tryz.prog 182 #[.pointer (some ⟨b, 0, none⟩), .agg #[.int .i64 4, .int .i64 (lasP st2), .int .i64 (-1), .int .i64 0, .int .i64 0, .string ⟨#[]⟩]] w2 (Rp w2 B b s pv2 (putP (4, lasP st2, -1, v0) st2))) := fun w2 pv2 k => put_any k.rm k.gd.p (4, lasP st2, -1, v0)
            have HQ1 : Hid (∀ e w', Rp w B b s pv (nxt s st) e w' → _) := fun e w' hR => H0.out.ok hR q1 g1.1
            have HQ2 : Hid (∀ w1 pv1 e w', At w B b s pv w1 st1 pv1 → Rp w1 B b s pv1 (opd s n st1) e w' → _) := fun w1 pv1 e w' k hR => k.ok hR q2 g2.1
            clear q1 q2 HE HE1 ih hno
            rcases q3 : putP (4, lasP st2, -1, v0) st2 with st3 | ⟨er, ea⟩ | _
            · have g3 := put_gr g2.1 q3
              have HQ3 : Hid (∀ w2 pv2 e w', At w B b s pv w2 st2 pv2 → Rp w2 B b s pv2 (putP (4, lasP st2, -1, v0) st2) e w' → e = .returned (.tuple #[]) ∧ Hid (Rp w B b s pv (aftW s (n + 1) m st) (.returned (.tuple #[])) w')) := fun w2 pv2 e w' k hR => by
                obtain ⟨rfl, pv3, k3⟩ := k.ok hR q3 g3.1
                exact ⟨rfl, k3.out.fin (HE2.out.trans q3)⟩
              generalize lasP st2 = la at *
              clear q3 HE2 H0 hd g1 g2 g3 
              go_enter Tryz.func198, Tryz.ntmps198
              go_wp2_with (first
                | (go_at_call 161; refine CA.mono ?_; rintro e w1 hR; obtain ⟨he, pv1, K1⟩ := HQ1.out e w1 hR; subst he; have CO := HO.out w1 pv1 K1.out; clear hR CA)
                | (go_at_call 179; refine CO.mono ?_; rintro e w2 hR; obtain ⟨he, pv2, K2⟩ := HQ2.out w1 pv1 e w2 K1.out hR; subst he; have CL := HL.out w2 pv2 K2.out; have CM := HM.out w2 pv2 K2.out; clear hR CO)
                | (go_at_call 180; refine CL.mono ?_; rintro e w3 ⟨rfl, hw3⟩; rw [hw3]; clear hw3 CL)
                | (go_at_call 182; refine CM.mono ?_; rintro e w4 hR; obtain ⟨he, HX⟩ := HQ3.out w2 pv2 e w4 K2.out hR; subst he; clear hR CM))
              first | go_end0 | refine bodyPost_ret (results_none rfl _ _ _) rfl ?_
              exact HX.out
            · have HQ3 : Hid (∀ w2 pv2 e w', At w B b s pv w2 st2 pv2 → Rp w2 B b s pv2 (putP (4, lasP st2, -1, v0) st2) e w' → _) := fun w2 pv2 e w' k hR => k.no hR q3 (HE2.out.trans q3)
              generalize lasP st2 = la at *
              clear q3 HE2 H0 hd g1 g2 
              go_enter Tryz.func198, Tryz.ntmps198
              go_wp2_with (first
                | (go_at_call 161; refine CA.mono ?_; rintro e w1 hR; obtain ⟨he, pv1, K1⟩ := HQ1.out e w1 hR; subst he; have CO := HO.out w1 pv1 K1.out; clear hR CA)
                | (go_at_call 179; refine CO.mono ?_; rintro e w2 hR; obtain ⟨he, pv2, K2⟩ := HQ2.out w1 pv1 e w2 K1.out hR; subst he; have CL := HL.out w2 pv2 K2.out; have CM := HM.out w2 pv2 K2.out; clear hR CO)
                | (go_at_call 180; refine CL.mono ?_; rintro e w3 ⟨rfl, hw3⟩; rw [hw3]; clear hw3 CL)
                | (go_at_call 182; refine CM.mono ?_; rintro e w4 hR; obtain ⟨he, HX⟩ := HQ3.out w2 pv2 e w4 K2.out hR; subst he; clear hR CM))
              exact ⟨rfl, HX.out⟩
            · exact absurd q3 put_out
          · have HO : Hid (∀ w1 pv1, At w B b s pv w1 st1 pv1 → Calls Tryz.prog 179 #[.pointer (some ⟨b, 0, none⟩)] w1 (Rp w1 B b s pv1 (opd s n st1))) := fun w1 pv1 k => ih.opd st1 pv1 w1 k.rm k.gx k.gd (by rw [q2]; simp)
            have HQ1 : Hid (∀ e w', Rp w B b s pv (nxt s st) e w' → _) := fun e w' hR => H0.out.ok hR q1 g1.1
            have HQ2 : Hid (∀ w1 pv1 e w', At w B b s pv w1 st1 pv1 → Rp w1 B b s pv1 (opd s n st1) e w' → _) := fun w1 pv1 e w' k hR => k.no hR q2 (HE1.out.trans (bind_no q2))
            clear q1 q2 HE HE1 ih hno H0 hd g1 
            go_enter Tryz.func198, Tryz.ntmps198
            go_wp2_with (first
              | (go_at_call 161; refine CA.mono ?_; rintro e w1 hR; obtain ⟨he, pv1, K1⟩ := HQ1.out e w1 hR; subst he; have CO := HO.out w1 pv1 K1.out; clear hR CA)
              | (go_at_call 179; refine CO.mono ?_; rintro e w2 hR; obtain ⟨he, HX⟩ := HQ2.out w1 pv1 e w2 K1.out hR; subst he; clear hR CO))
            exact ⟨rfl, HX.out⟩
          · exact absurd (HE1.out.trans (bind_outs q2)) hno
        · have HQ1 : Hid (∀ e w', Rp w B b s pv (nxt s st) e w' → _) := fun e w' hR => H0.out.no hR q1 (HE.out.trans (bind_no q1))
          clear q1 HE ih hno H0 hd 
          go_enter Tryz.func198, Tryz.ntmps198
          go_wp2_with (first
            | (go_at_call 161; refine CA.mono ?_; rintro e w1 hR; obtain ⟨he, HX⟩ := HQ1.out e w1 hR; subst he; clear hR CA))
          exact ⟨rfl, HX.out⟩
        · exact absurd q1 nxt_out
      · rw [beq_eq_false_iff_ne.2 m3] at e5
        have HE3 : Hid _ := HE2.out.trans (if_neg m3)
        clear m3 HE2
        by_cases m4 : m = [108, 101, 110]
        · rw [beq_iff_eq.2 m4] at e6
          have HE : Hid (aftW s (n + 1) m st = (nxt s st).bind fun st => (inBr s n st).bind fun st => putP (5, lasP st, -1, v0) st) := HE3.out.trans (if_pos m4)
          clear m4 HE3
          have CA := next_any H0.out.rm H0.out.gx hs hd.b
          rcases q1 : nxt s st with st1 | ⟨er, ea⟩ | _
          · have g1 := nxt_gr hd q1
            have HE1 : Hid (aftW s (n + 1) m st = (inBr s n st1).bind fun st => putP (5, lasP st, -1, v0) st) := HE.out.trans (bind_eq q1)
            rcases q2 : inBr s n st1 with st2 | ⟨er, ea⟩ | _
            · have g2 := (gr_all s n).2.2.2.2.2 _ _ g1.1 q2
              have HE2 : Hid (aftW s (n + 1) m st = putP (5, lasP st2, -1, v0) st2) := HE1.out.trans (bind_eq q2)
              have HO : Hid (∀ w1 pv1, At w B b s pv w1 st1 pv1 → Calls Tryz.prog 209 #[.pointer (some ⟨b, 0, none⟩)] w1 (Rp w1 B b s pv1 (inBr s n st1))) := fun w1 pv1 k => ih.inBr st1 pv1 w1 k.rm k.gx k.gd (by rw [q2]; simp)
              have HL : Hid (∀ w2 pv2, At w B b s pv w2 st2 pv2 → Calls Tryz.prog 180 #[.pointer (some ⟨b, 0, none⟩)] w2 fun e w' => e = .returned (.int .i64 (lasP st2)) ∧ w' = w2) := fun w2 pv2 k => last_any k.rm k.gd.p
              have HM : Hid (∀ w2 pv2, At w B b s pv w2 st2 pv2 → Calls Tryz.prog 182 #[.pointer (some ⟨b, 0, none⟩), .agg #[.int .i64 5, .int .i64 (lasP st2), .int .i64 (-1), .int .i64 0, .int .i64 0, .string ⟨#[]⟩]] w2 (Rp w2 B b s pv2 (putP (5, lasP st2, -1, v0) st2))) := fun w2 pv2 k => put_any k.rm k.gd.p (5, lasP st2, -1, v0)
              have HQ1 : Hid (∀ e w', Rp w B b s pv (nxt s st) e w' → _) := fun e w' hR => H0.out.ok hR q1 g1.1
              have HQ2 : Hid (∀ w1 pv1 e w', At w B b s pv w1 st1 pv1 → Rp w1 B b s pv1 (inBr s n st1) e w' → _) := fun w1 pv1 e w' k hR => k.ok hR q2 g2.1
              clear q1 q2 HE HE1 ih hno
              rcases q3 : putP (5, lasP st2, -1, v0) st2 with st3 | ⟨er, ea⟩ | _
              · have g3 := put_gr g2.1 q3
                have HQ3 : Hid (∀ w2 pv2 e w', At w B b s pv w2 st2 pv2 → Rp w2 B b s pv2 (putP (5, lasP st2, -1, v0) st2) e w' → e = .returned (.tuple #[]) ∧ Hid (Rp w B b s pv (aftW s (n + 1) m st) (.returned (.tuple #[])) w')) := fun w2 pv2 e w' k hR => by
                  obtain ⟨rfl, pv3, k3⟩ := k.ok hR q3 g3.1
                  exact ⟨rfl, k3.out.fin (HE2.out.trans q3)⟩
                generalize lasP st2 = la at *
                clear q3 HE2 H0 hd g1 g2 g3 
                go_enter Tryz.func198, Tryz.ntmps198
                go_wp2_with (first
                  | (go_at_call 161; refine CA.mono ?_; rintro e w1 hR; obtain ⟨he, pv1, K1⟩ := HQ1.out e w1 hR; subst he; have CO := HO.out w1 pv1 K1.out; clear hR CA)
                  | (go_at_call 209; refine CO.mono ?_; rintro e w2 hR; obtain ⟨he, pv2, K2⟩ := HQ2.out w1 pv1 e w2 K1.out hR; subst he; have CL := HL.out w2 pv2 K2.out; have CM := HM.out w2 pv2 K2.out; clear hR CO)
                  | (go_at_call 180; refine CL.mono ?_; rintro e w3 ⟨rfl, hw3⟩; rw [hw3]; clear hw3 CL)
                  | (go_at_call 182; refine CM.mono ?_; rintro e w4 hR; obtain ⟨he, HX⟩ := HQ3.out w2 pv2 e w4 K2.out hR; subst he; clear hR CM))
                first | go_end0 | refine bodyPost_ret (results_none rfl _ _ _) rfl ?_
                exact HX.out
              · have HQ3 : Hid (∀ w2 pv2 e w', At w B b s pv w2 st2 pv2 → Rp w2 B b s pv2 (putP (5, lasP st2, -1, v0) st2) e w' → _) := fun w2 pv2 e w' k hR => k.no hR q3 (HE2.out.trans q3)
                generalize lasP st2 = la at *
                clear q3 HE2 H0 hd g1 g2 
                go_enter Tryz.func198, Tryz.ntmps198
                go_wp2_with (first
                  | (go_at_call 161; refine CA.mono ?_; rintro e w1 hR; obtain ⟨he, pv1, K1⟩ := HQ1.out e w1 hR; subst he; have CO := HO.out w1 pv1 K1.out; clear hR CA)
                  | (go_at_call 209; refine CO.mono ?_; rintro e w2 hR; obtain ⟨he, pv2, K2⟩ := HQ2.out w1 pv1 e w2 K1.out hR; subst he; have CL := HL.out w2 pv2 K2.out; have CM := HM.out w2 pv2 K2.out; clear hR CO)
                  | (go_at_call 180; refine CL.mono ?_; rintro e w3 ⟨rfl, hw3⟩; rw [hw3]; clear hw3 CL)
                  | (go_at_call 182; refine CM.mono ?_; rintro e w4 hR; obtain ⟨he, HX⟩ := HQ3.out w2 pv2 e w4 K2.out hR; subst he; clear hR CM))
                exact ⟨rfl, HX.out⟩
              · exact absurd q3 put_out
            · have HO : Hid (∀ w1 pv1, At w B b s pv w1 st1 pv1 → Calls Tryz.prog 209 #[.pointer (some ⟨b, 0, none⟩)] w1 (Rp w1 B b s pv1 (inBr s n st1))) := fun w1 pv1 k => ih.inBr st1 pv1 w1 k.rm k.gx k.gd (by rw [q2]; simp)
              have HQ1 : Hid (∀ e w', Rp w B b s pv (nxt s st) e w' → _) := fun e w' hR => H0.out.ok hR q1 g1.1
              have HQ2 : Hid (∀ w1 pv1 e w', At w B b s pv w1 st1 pv1 → Rp w1 B b s pv1 (inBr s n st1) e w' → _) := fun w1 pv1 e w' k hR => k.no hR q2 (HE1.out.trans (bind_no q2))
              clear q1 q2 HE HE1 ih hno H0 hd g1 
              go_enter Tryz.func198, Tryz.ntmps198
              go_wp2_with (first
                | (go_at_call 161; refine CA.mono ?_; rintro e w1 hR; obtain ⟨he, pv1, K1⟩ := HQ1.out e w1 hR; subst he; have CO := HO.out w1 pv1 K1.out; clear hR CA)
                | (go_at_call 209; refine CO.mono ?_; rintro e w2 hR; obtain ⟨he, HX⟩ := HQ2.out w1 pv1 e w2 K1.out hR; subst he; clear hR CO))
              exact ⟨rfl, HX.out⟩
            · exact absurd (HE1.out.trans (bind_outs q2)) hno
          · have HQ1 : Hid (∀ e w', Rp w B b s pv (nxt s st) e w' → _) := fun e w' hR => H0.out.no hR q1 (HE.out.trans (bind_no q1))
            clear q1 HE ih hno H0 hd 
            go_enter Tryz.func198, Tryz.ntmps198
            go_wp2_with (first
              | (go_at_call 161; refine CA.mono ?_; rintro e w1 hR; obtain ⟨he, HX⟩ := HQ1.out e w1 hR; subst he; clear hR CA))
            exact ⟨rfl, HX.out⟩
          · exact absurd q1 nxt_out
        · rw [beq_eq_false_iff_ne.2 m4] at e6
          have HE : Hid (aftW s (n + 1) m st = leaf s 2 (3, 0, m) st) := HE3.out.trans (if_neg m4)
          clear m4 HE3
          have CT := text_v m
          have HLE : Hid (∀ w1, Below w.heap.size w w1 → Calls Tryz.prog 197 #[.pointer (some ⟨b, 0, none⟩), .int .i64 2, .agg #[.int .i64 3, .int .i64 0, .string (S m)]] w1 (Rp w1 B b s pv (leaf s 2 (3, 0, m) st))) := fun w1 hb => leaf_any (H0.out.rm.below hb) (H0.out.rm.gx2 H0.out.gx (Lf.of_below b pv hb)) hs hd 2 (3, 0, m)
          rcases q1 : leaf s 2 (3, 0, m) st with st1 | ⟨er, ea⟩ | _
          · have HQ1 : Hid (∀ w1 e w', Below w.heap.size w w1 → Rp w1 B b s pv (leaf s 2 (3, 0, m) st) e w' → e = .returned (.tuple #[]) ∧ Hid (Rp w B b s pv (aftW s (n + 1) m st) (.returned (.tuple #[])) w')) := fun w1 e w' hb hR => by
              have h1 := Rp.liftG (Lf.of_below b pv hb) hR
              obtain ⟨rfl, -⟩ := hR.good q1
              rw [HE.out]
              exact ⟨rfl, h1⟩
            clear q1 HE ih hno H0 hd
            go_enter Tryz.func198, Tryz.ntmps198
            go_wp2_with (first
              | (go_at_call 195; refine (CT _).mono ?_; rintro e w1 ⟨rfl, b1⟩; (have B1 : Hid (Below w.heap.size w w1) := b1); have CA := HLE.out w1 b1; clear b1 CT)
              | (go_at_call 197; refine CA.mono ?_; rintro e w2 hR; obtain ⟨he, HX⟩ := HQ1.out w1 e w2 B1.out hR; subst he; clear hR CA))
            first | go_end0 | refine bodyPost_ret (results_none rfl _ _ _) rfl ?_
            exact HX.out
          · have HQ1 : Hid (∀ w1 e w', Below w.heap.size w w1 → Rp w1 B b s pv (leaf s 2 (3, 0, m) st) e w' → e = .panicked (wrg er ea) ∧ Hid (Rp w B b s pv (aftW s (n + 1) m st) (.panicked (wrg er ea)) w')) := fun w1 e w' hb hR => by
              have h1 := Rp.liftG (Lf.of_below b pv hb) hR
              obtain ⟨rfl, -⟩ := hR.bad q1
              rw [HE.out]
              exact ⟨rfl, h1⟩
            clear q1 HE ih hno H0 hd
            go_enter Tryz.func198, Tryz.ntmps198
            go_wp2_with (first
              | (go_at_call 195; refine (CT _).mono ?_; rintro e w1 ⟨rfl, b1⟩; (have B1 : Hid (Below w.heap.size w w1) := b1); have CA := HLE.out w1 b1; clear b1 CT)
              | (go_at_call 197; refine CA.mono ?_; rintro e w2 hR; obtain ⟨he, HX⟩ := HQ1.out w1 e w2 B1.out hR; subst he; clear hR CA))
            exact ⟨rfl, HX.out⟩
          · exact absurd (HE.out.trans q1) hno
end Go.Proofs.YtkbhngdabfoboaaGreatDoor.x10
namespace Go.Proofs.YtkbhngdabfoboaaGreatDoor.x10
open Go.RowKit Go.Shelf Go.Sort
open Go.Lib hiding intOf

variable {s : List UInt8} {B b : Nat}

theorem Rm.nestTo {w : World} {st : Rs} {pv : Value} (h : Rm w B b s st pv) {v : Value} (k : Nat) (hv : v = .int .i64 (k : Int)) : Rm (w.setCell ⟨b, 8, none⟩ v) B b s { st with nest := k } pv ∧ Lf w b pv (w.setCell ⟨b, 8, none⟩ v) pv := by
  subst hv
  have c2 : Ch (fun x => x = b) w (w.setCell ⟨b, 8, none⟩ (.int .i64 (k : Int))) := (Ch.refl _ w).setCell _ _ (fun _ => rfl)
  exact ⟨⟨h.ob.set 8 _, c2.row h.row (fun x hx e => h.ap (e ▸ hx)), h.ap, h.lo⟩, ⟨c2.mono (fun _ _ e => .inl e), fun x hx => .inl hx⟩⟩
theorem At.nestTo {w w1 : World} {pv pv1 : Value} {st1 : Rs} (h : At w B b s pv w1 st1 pv1) {v : Value} (k : Nat) (hv : v = .int .i64 (k : Int)) (hk : k ≤ 20) : At w B b s pv (w1.setCell ⟨b, 8, none⟩ v) { st1 with nest := k } pv1 := by
  obtain ⟨h1, h2⟩ := h.rm.nestTo k hv
  exact h.step h1 h2 ⟨h.gd.b, h.gd.p, hk⟩
theorem At.c8 {w w1 : World} {pv pv1 : Value} {st1 : Rs} (h : At w B b s pv w1 st1 pv1) {k : Nat} (hk : st1.nest = k + 1) : w1.cell? ⟨b, 8, none⟩ = some (.int .i64 ((k : Int) + 1)) := by
  have c8 : w1.cell? ⟨b, 8, none⟩ = some (.int .i64 (st1.nest : Int)) := h.rm.ob.c 8
  rw [c8, hk]
  simp
/-- what operand leaves, once what it begins with was read -/
theorem opd_end {w w1 w' : World} {pv pv1 : Value} {st st1 st2 : Rs} {n k j : Nat} {r : Ot Rs} {e : Ending} (H1 : At w B b s pv w1 st1 pv1) (hn : st1.nest = k + 1) (HE : opd s (n + 1) st = r.bind fun st2 => .ok { st2 with nest := st2.nest - 1 }) (hR : Rp w1 B b s pv1 r e w') (q1 : r = .ok st2) (g1 : Gr s j st1 st2) :
    e = .returned (.tuple #[]) ∧ w'.cell? ⟨b, 8, none⟩ = some (.int .i64 ((k : Int) + 1)) ∧ w'.frozen? ⟨b, 8, none⟩ = false ∧ b < w'.heap.size ∧ Hid (Rp w B b s pv (opd s (n + 1) st) (.returned (.tuple #[])) (w'.setCell ⟨b, 8, none⟩ (.int .i64 (k : Int)))) := by
  obtain ⟨rfl, pv2, K2⟩ := H1.ok hR q1 g1.1
  have h2 : st2.nest = k + 1 := g1.2.1.trans hn
  have h20 := g1.1.n
  refine ⟨rfl, K2.out.c8 h2, K2.out.rm.ob.f 8, K2.out.rm.ob.lt, (K2.out.nestTo k rfl (by omega)).fin ?_⟩
  rw [HE, q1]
  show Ot.ok _ = _
  rw [h2]
  rfl
theorem opd_bad {w w1 w' : World} {pv pv1 : Value} {st st1 : Rs} {n : Nat} {r : Ot Rs} {er ea : Int} {e : Ending} (H1 : At w B b s pv w1 st1 pv1) (HE : opd s (n + 1) st = r.bind fun st2 => .ok { st2 with nest := st2.nest - 1 }) (hR : Rp w1 B b s pv1 r e w') (q1 : r = .no er ea) :
    e = .panicked (wrg er ea) ∧ Hid (Rp w B b s pv (opd s (n + 1) st) (.panicked (wrg er ea)) w') := H1.no hR q1 (HE.trans (bind_no q1))

set_option maxHeartbeats 2000000 in
set_option maxRecDepth 100000 in
theorem opd_step (hs : s.length ≤ 512) {n : Nat} (ih : Al s B b n) (st : Rs) (pv : Value) (w : World) (h : Rm w B b s st pv) (hg : Gx B w) (hd : Gd s st) (hno : opd s (n + 1) st ≠ .out) : Calls Tryz.prog 179 #[.pointer (some ⟨b, 0, none⟩)] w (Rp w B b s pv (opd s (n + 1) st)) := by
  have H0 : Hid (At w B b s pv w st pv) := ⟨h, Lf.refl _ _ _, hd, hg⟩
  have hbl := h.ob.lt
  obtain ⟨k, hk⟩ : ∃ k, st.nest = k := ⟨_, rfl⟩
  have hk20 := hd.n
  rw [hk] at hk20
  have c1 : w.cell? ⟨b, 1, none⟩ = some (.int .i64 st.now.kind) := h.ob.c 1
  have c2 : w.cell? ⟨b, 2, none⟩ = some (.int .i64 (st.now.at' : Int)) := h.ob.c 2
  have c3 : w.cell? ⟨b, 3, none⟩ = some (.string (S st.now.s)) := h.ob.c 3
  have c4 : w.cell? ⟨b, 4, none⟩ = some (.int .i64 st.now.v.1) := h.ob.c 4
  have c5 : w.cell? ⟨b, 5, none⟩ = some (.int .i64 st.now.v.2.1) := h.ob.c 5
  have c6 : w.cell? ⟨b, 6, none⟩ = some (.string (S st.now.v.2.2)) := h.ob.c 6
  have c8 : w.cell? ⟨b, 8, none⟩ = some (.int .i64 (st.nest : Int)) := h.ob.c 8
  have f8 := h.ob.f 8
  rw [hk] at c8
  have HE0 : Hid (opd s (n + 1) st = if st.nest = 20 then .no 13 st.now.at' else (if st.now.kind = 1 ∨ st.now.kind = 2 then leaf s 1 st.now.v { st with nest := st.nest + 1 } else if st.now.kind = 3 then aftW s n st.now.s { st with nest := st.nest + 1 } else if st.now.kind = 4 then aftM s n st.now.s { st with nest := st.nest + 1 } else .no 10 st.now.at').bind fun st2 => .ok { st2 with nest := st2.nest - 1 }) := by show _ = _; rw [opd]
  by_cases k20 : k = 20
  · have HE : Hid (opd s (n + 1) st = .no 13 st.now.at') := HE0.out.trans (if_pos (hk.trans k20))
    have hb : ((k : Int) == 20) = true := by rw [k20]; rfl
    have CG := giveUp_any 13 st.now.at'
    clear HE0 ih hno H0 hd h hg k20 c1 c3 c4 c5 c6 f8 hk
    go_enter Tryz.func179, Tryz.ntmps179
    go_wp2_with (go_at_call 183; refine (CG _).mono ?_; rintro e w1 ⟨rfl, hw1⟩; rw [hw1]; clear hw1)
    rw [HE.out]
    exact ⟨rfl, rfl, Ch.refl _ _⟩
  have hb : ((k : Int) == 20) = false := by simp; omega
  have hw1 : IntKind.i64.wrap ((k : Int) + 1) = (k : Int) + 1 := by rw [IntKind.wrap_i64]; omega
  have hw2 : IntKind.i64.wrap ((k : Int) + 1 - 1) = (k : Int) := by rw [IntKind.wrap_i64]; omega
  have HE1 : Hid _ := HE0.out.trans (if_neg (fun e => k20 (hk.symm.trans e)))
  have H1 : Hid (At w B b s pv (w.setCell ⟨b, 8, none⟩ (.int .i64 ((k : Int) + 1))) { st with nest := st.nest + 1 } pv) := by
    have := H0.out.nestTo (v := .int .i64 ((k : Int) + 1)) (st.nest + 1) (by rw [hk]; simp) (by omega)
    exact this
  have hn1 : ({ st with nest := st.nest + 1 } : Rs).nest = k + 1 := by show st.nest + 1 = k + 1; rw [hk]
  have h1d := H1.out.gd
  clear HE0 h hg H0 hd k20
  by_cases k1 : st.now.kind = 1
  · have HE : Hid (opd s (n + 1) st = (leaf s 1 st.now.v { st with nest := st.nest + 1 }).bind fun st2 => .ok { st2 with nest := st2.nest - 1 }) := HE1.out.trans (by rw [if_pos (Or.inl k1)])
    have b1 : (st.now.kind == 1) = true := beq_iff_eq.2 k1
    clear HE1 k1
    have CA : Calls Tryz.prog 197 #[.pointer (some ⟨b, 0, none⟩), .int .i64 1, .agg #[.int .i64 st.now.v.1, .int .i64 st.now.v.2.1, .string (S st.now.v.2.2)]] (w.setCell ⟨b, 8, none⟩ (.int .i64 ((k : Int) + 1))) (Rp (w.setCell ⟨b, 8, none⟩ (.int .i64 ((k : Int) + 1))) B b s pv (leaf s 1 st.now.v { st with nest := st.nest + 1 })) := leaf_any H1.out.rm H1.out.gx hs h1d 1 st.now.v
    rcases q1 : leaf s 1 st.now.v { st with nest := st.nest + 1 } with st2 | ⟨er, ea⟩ | _
    · have g1 := leaf_gr h1d q1
      have HQ1 : Hid (∀ e w', Rp (w.setCell ⟨b, 8, none⟩ (.int .i64 ((k : Int) + 1))) B b s pv (leaf s 1 st.now.v { st with nest := st.nest + 1 }) e w' → _) := fun e w' hR => opd_end H1.out hn1 HE.out hR q1 g1
      clear q1 g1 HE H1 ih hno h1d hn1 hk
      go_enter Tryz.func179, Tryz.ntmps179
      go_wp2_with (go_at_call 197; refine CA.mono ?_; rintro e w2 hR; obtain ⟨he, d8, e8, hl2, HX⟩ := HQ1.out e w2 hR; subst he; clear hR CA)
      first | go_end0 | refine bodyPost_ret (results_none rfl _ _ _) rfl ?_
      exact HX.out
    · have HQ1 : Hid (∀ e w', Rp (w.setCell ⟨b, 8, none⟩ (.int .i64 ((k : Int) + 1))) B b s pv (leaf s 1 st.now.v { st with nest := st.nest + 1 }) e w' → _) := fun e w' hR => opd_bad H1.out HE.out hR q1
      clear q1 HE H1 ih hno h1d hn1 hk
      go_enter Tryz.func179, Tryz.ntmps179
      go_wp2_with (go_at_call 197; refine CA.mono ?_; rintro e w2 hR; obtain ⟨he, HX⟩ := HQ1.out e w2 hR; subst he; clear hR CA)
      exact ⟨rfl, HX.out⟩
    · exact absurd (HE.out.trans (bind_outs q1)) hno
  by_cases k2 : st.now.kind = 2
  · have HE : Hid (opd s (n + 1) st = (leaf s 1 st.now.v { st with nest := st.nest + 1 }).bind fun st2 => .ok { st2 with nest := st2.nest - 1 }) := HE1.out.trans (by rw [if_pos (Or.inr k2)])
    have b1 : (st.now.kind == 1) = false := beq_eq_false_iff_ne.2 k1
    have b2 : (st.now.kind == 2) = true := beq_iff_eq.2 k2
    clear HE1 k1 k2
    have CA : Calls Tryz.prog 197 #[.pointer (some ⟨b, 0, none⟩), .int .i64 1, .agg #[.int .i64 st.now.v.1, .int .i64 st.now.v.2.1, .string (S st.now.v.2.2)]] (w.setCell ⟨b, 8, none⟩ (.int .i64 ((k : Int) + 1))) (Rp (w.setCell ⟨b, 8, none⟩ (.int .i64 ((k : Int) + 1))) B b s pv (leaf s 1 st.now.v { st with nest := st.nest + 1 })) := leaf_any H1.out.rm H1.out.gx hs h1d 1 st.now.v
    rcases q1 : leaf s 1 st.now.v { st with nest := st.nest + 1 } with st2 | ⟨er, ea⟩ | _
    · have g1 := leaf_gr h1d q1
      have HQ1 : Hid (∀ e w', Rp (w.setCell ⟨b, 8, none⟩ (.int .i64 ((k : Int) + 1))) B b s pv (leaf s 1 st.now.v { st with nest := st.nest + 1 }) e w' → _) := fun e w' hR => opd_end H1.out hn1 HE.out hR q1 g1
      clear q1 g1 HE H1 ih hno h1d hn1 hk
      go_enter Tryz.func179, Tryz.ntmps179
      go_wp2_with (go_at_call 197; refine CA.mono ?_; rintro e w2 hR; obtain ⟨he, d8, e8, hl2, HX⟩ := HQ1.out e w2 hR; subst he; clear hR CA)
      first | go_end0 | refine bodyPost_ret (results_none rfl _ _ _) rfl ?_
      exact HX.out
    · have HQ1 : Hid (∀ e w', Rp (w.setCell ⟨b, 8, none⟩ (.int .i64 ((k : Int) + 1))) B b s pv (leaf s 1 st.now.v { st with nest := st.nest + 1 }) e w' → _) := fun e w' hR => opd_bad H1.out HE.out hR q1
      clear q1 HE H1 ih hno h1d hn1 hk
      go_enter Tryz.func179, Tryz.ntmps179
      go_wp2_with (go_at_call 197; refine CA.mono ?_; rintro e w2 hR; obtain ⟨he, HX⟩ := HQ1.out e w2 hR; subst he; clear hR CA)
      exact ⟨rfl, HX.out⟩
    · exact absurd (HE.out.trans (bind_outs q1)) hno
  have b1 : (st.now.kind == 1) = false := beq_eq_false_iff_ne.2 k1
  have b2 : (st.now.kind == 2) = false := beq_eq_false_iff_ne.2 k2
  have k12 : ¬ (st.now.kind = 1 ∨ st.now.kind = 2) := fun e => e.elim k1 k2
  clear k1 k2
  by_cases k3 : st.now.kind = 3
  · have HE : Hid (opd s (n + 1) st = (aftW s n st.now.s { st with nest := st.nest + 1 }).bind fun st2 => .ok { st2 with nest := st2.nest - 1 }) := HE1.out.trans (by rw [if_neg k12, if_pos k3])
    have b3 : (st.now.kind == 3) = true := beq_iff_eq.2 k3
    clear HE1 k3 k12
    have CA : Calls Tryz.prog 198 #[.pointer (some ⟨b, 0, none⟩), .string (S st.now.s)] (w.setCell ⟨b, 8, none⟩ (.int .i64 ((k : Int) + 1))) (Rp (w.setCell ⟨b, 8, none⟩ (.int .i64 ((k : Int) + 1))) B b s pv (aftW s n st.now.s { st with nest := st.nest + 1 })) := ih.aftW st.now.s _ pv _ H1.out.rm H1.out.gx h1d (fun e => hno (HE.out.trans (bind_outs e)))
    rcases q1 : aftW s n st.now.s { st with nest := st.nest + 1 } with st2 | ⟨er, ea⟩ | _
    · have g1 := (gr_all s n).2.2.2.1 _ _ _ h1d q1
      have HQ1 : Hid (∀ e w', Rp (w.setCell ⟨b, 8, none⟩ (.int .i64 ((k : Int) + 1))) B b s pv (aftW s n st.now.s { st with nest := st.nest + 1 }) e w' → _) := fun e w' hR => opd_end H1.out hn1 HE.out hR q1 g1
      clear q1 g1 HE H1 ih hno h1d hn1 hk
      go_enter Tryz.func179, Tryz.ntmps179
      go_wp2_with (go_at_call 198; refine CA.mono ?_; rintro e w2 hR; obtain ⟨he, d8, e8, hl2, HX⟩ := HQ1.out e w2 hR; subst he; clear hR CA)
      first | go_end0 | refine bodyPost_ret (results_none rfl _ _ _) rfl ?_
      exact HX.out
    · have HQ1 : Hid (∀ e w', Rp (w.setCell ⟨b, 8, none⟩ (.int .i64 ((k : Int) + 1))) B b s pv (aftW s n st.now.s { st with nest := st.nest + 1 }) e w' → _) := fun e w' hR => opd_bad H1.out HE.out hR q1
      clear q1 HE H1 ih hno h1d hn1 hk
      go_enter Tryz.func179, Tryz.ntmps179
      go_wp2_with (go_at_call 198; refine CA.mono ?_; rintro e w2 hR; obtain ⟨he, HX⟩ := HQ1.out e w2 hR; subst he; clear hR CA)
      exact ⟨rfl, HX.out⟩
    · exact absurd (HE.out.trans (bind_outs q1)) hno
  have b3 : (st.now.kind == 3) = false := beq_eq_false_iff_ne.2 k3
  by_cases k4 : st.now.kind = 4
  · have HE : Hid (opd s (n + 1) st = (aftM s n st.now.s { st with nest := st.nest + 1 }).bind fun st2 => .ok { st2 with nest := st2.nest - 1 }) := HE1.out.trans (by rw [if_neg k12, if_neg k3, if_pos k4])
    have b4 : (st.now.kind == 4) = true := beq_iff_eq.2 k4
    clear HE1 k3 k4 k12
    have CA : Calls Tryz.prog 199 #[.pointer (some ⟨b, 0, none⟩), .string (S st.now.s)] (w.setCell ⟨b, 8, none⟩ (.int .i64 ((k : Int) + 1))) (Rp (w.setCell ⟨b, 8, none⟩ (.int .i64 ((k : Int) + 1))) B b s pv (aftM s n st.now.s { st with nest := st.nest + 1 })) := ih.aftM st.now.s _ pv _ H1.out.rm H1.out.gx h1d (fun e => hno (HE.out.trans (bind_outs e)))
    rcases q1 : aftM s n st.now.s { st with nest := st.nest + 1 } with st2 | ⟨er, ea⟩ | _
    · have g1 := (gr_all s n).2.2.2.2.1 _ _ _ h1d q1
      have HQ1 : Hid (∀ e w', Rp (w.setCell ⟨b, 8, none⟩ (.int .i64 ((k : Int) + 1))) B b s pv (aftM s n st.now.s { st with nest := st.nest + 1 }) e w' → _) := fun e w' hR => opd_end H1.out hn1 HE.out hR q1 g1
      clear q1 g1 HE H1 ih hno h1d hn1 hk
      go_enter Tryz.func179, Tryz.ntmps179
      go_wp2_with (go_at_call 199; refine CA.mono ?_; rintro e w2 hR; obtain ⟨he, d8, e8, hl2, HX⟩ := HQ1.out e w2 hR; subst he; clear hR CA)
      first | go_end0 | refine bodyPost_ret (results_none rfl _ _ _) rfl ?_
      exact HX.out
    · have HQ1 : Hid (∀ e w', Rp (w.setCell ⟨b, 8, none⟩ (.int .i64 ((k : Int) + 1))) B b s pv (aftM s n st.now.s { st with nest := st.nest + 1 }) e w' → _) := fun e w' hR => opd_bad H1.out HE.out hR q1
      clear q1 HE H1 ih hno h1d hn1 hk
      go_enter Tryz.func179, Tryz.ntmps179
      go_wp2_with (go_at_call 199; refine CA.mono ?_; rintro e w2 hR; obtain ⟨he, HX⟩ := HQ1.out e w2 hR; subst he; clear hR CA)
      exact ⟨rfl, HX.out⟩
    · exact absurd (HE.out.trans (bind_outs q1)) hno
  have b4 : (st.now.kind == 4) = false := beq_eq_false_iff_ne.2 k4
  have HE : Hid (opd s (n + 1) st = .no 10 st.now.at') := HE1.out.trans (by rw [if_neg k12, if_neg k3, if_neg k4]; rfl)
  have CF := refuse_any H1.out.rm
  have HLF : Hid (Lf w b pv (w.setCell ⟨b, 8, none⟩ (.int .i64 ((k : Int) + 1))) pv) := H1.out.lf
  clear HE1 k3 k4 k12 H1 ih hno h1d hn1 hk
  go_enter Tryz.func179, Tryz.ntmps179
  go_wp2_with (go_at_call 163; refine CF.mono ?_; rintro e w2 ⟨rfl, hw3⟩; rw [hw3]; clear hw3)
  rw [HE.out]
  exact ⟨rfl, rfl, HLF.out.ch⟩
end Go.Proofs.YtkbhngdabfoboaaGreatDoor.x10
namespace Go.Proofs.YtkbhngdabfoboaaGreatDoor.x10
open Go.RowKit Go.Shelf Go.Sort
open Go.Lib hiding intOf

variable {s : List UInt8} {B b : Nat}
theorem twoH_lt (t : List UInt8) : twoH t < 19 := by
  unfold twoH
  split
  · rename_i i hi
    have := List.mem_of_find?_eq_some hi
    rw [List.mem_range] at this
    omega
  · omega
theorem lvl_le (k : Nat) (h : k < 19) : 0 ≤ lvl k ∧ lvl k ≤ 6 := by
  have key : ∀ i : Fin 19, 0 ≤ lvl i.1 ∧ lvl i.1 ≤ 6 := by decide
  exact key ⟨k, h⟩
theorem more_out {lv a : Int} {st : Rs} : more s 0 lv a st = .out := by rw [more]
theorem more_end {n : Nat} {lv a : Int} {st : Rs} (h : twoH st.now.s = 0 ∨ lvl (twoH st.now.s) < lv) : more s (n + 1) lv a st = .ok st := by rw [more]; exact if_pos h
theorem more_go {n : Nat} {lv a : Int} {st : Rs} (h : ¬ (twoH st.now.s = 0 ∨ lvl (twoH st.now.s) < lv)) : more s (n + 1) lv a st = (nxt s st).bind fun st1 => (opds s n (lvl (twoH st.now.s) + 1) st1).bind fun st2 => (putP ((twoH st.now.s : Nat), a, lasP st2, v0) st2).bind fun st3 => more s n lv (lasP st3) st3 := by rw [more]; exact if_neg h

set_option maxHeartbeats 2000000 in
set_option maxRecDepth 100000 in
theorem opds_step (hs : s.length ≤ 512) {n : Nat} (ih : ∀ m, m ≤ n → Al s B b m) (lv : Int) (st : Rs) (pv : Value) (w : World) (h : Rm w B b s st pv) (hg : Gx B w) (hd : Gd s st) (hno : opds s (n + 1) lv st ≠ .out) (_hlv : -10 ≤ lv ∧ lv ≤ 100) : Calls Tryz.prog 162 #[.pointer (some ⟨b, 0, none⟩), .int .i64 lv] w (Rp w B b s pv (opds s (n + 1) lv st)) := by
  have H0 : Hid (At w B b s pv w st pv) := ⟨h, Lf.refl _ _ _, hd, hg⟩
  have hbl := h.ob.lt
  have HE : Hid (opds s (n + 1) lv st = (opd s n st).bind fun st => more s n lv (lasP st) st) := by show _ = _; rw [opds]
  have CA := (ih n (Nat.le_refl _)).opd st pv w h hg hd (fun e => hno (HE.out.trans (bind_outs e)))
  obtain ⟨RES, hRES⟩ : ∃ R, opds s (n + 1) lv st = R := ⟨_, rfl⟩
  rw [hRES] at HE hno ⊢
  clear h hg hRES
  rcases q1 : opd s n st with st1 | ⟨er, ea⟩ | _
  · have g1 := (gr_all s n).2.2.1 _ _ hd q1
    have HE1 : Hid (RES = more s n lv (lasP st1) st1) := HE.out.trans (bind_eq q1)
    have HL : Hid (∀ w2 pv2, At w B b s pv w2 st1 pv2 → Calls Tryz.prog 180 #[.pointer (some ⟨b, 0, none⟩)] w2 fun e w' => e = .returned (.int .i64 (lasP st1)) ∧ w' = w2) := fun w2 pv2 k => last_any k.rm k.gd.p
    have HQ1 : Hid (∀ e w', Rp w B b s pv (opd s n st) e w' → _) := fun e w' hR => H0.out.ok hR q1 g1.1
    have HI : Hid (∀ m, m ≤ n → Al s B b m) := ih
    have HNO : Hid (RES ≠ .out) := hno
    clear ih q1 g1 HE H0 hd hno
    generalize lasP st1 = la at *
    go_enter Tryz.func162, Tryz.ntmps162
    go_wp2_with (first
      | (go_at_call 179; refine CA.mono ?_; rintro e w1 hR; obtain ⟨he, pv1, K1⟩ := HQ1.out e w1 hR; subst he; have CL := HL.out w1 pv1 K1.out; clear hR CA)
      | (go_at_call 180; refine CL.mono ?_; rintro e w3 ⟨rfl, hw3⟩; rw [hw3]; clear hw3 CL))
    go_loopw [4] (fun v4 wr => ∃ (k : Nat) (a : Int) (st2 : Rs) (pv2 : Value), k ≤ n ∧ v4 = .int .i64 a ∧ Hid (more s k lv a st2 = RES) ∧ Hid (At w B b s pv wr st2 pv2)) (fun _ wr => 200 - plen wr b)
    case atStart => exact ⟨n, la, st1, pv1, Nat.le_refl _, rfl, HE1.out.symm, K1⟩
    case round =>
      clear HL HQ1 K1 HE1
      obtain ⟨k, a, st2, pv2, hk, rfl, HM, HA⟩ := hrel
      cases k with
      | zero => exact absurd (HM.out.symm.trans more_out) HNO.out
      | succ m =>
        have hop := twoH_lt st2.now.s
        have CT := two_any HA.out.gx st2.now.s
        have c3 : wr.cell? ⟨b, 3, none⟩ = some (.string (S st2.now.s)) := HA.out.rm.ob.c 3
        have hbl2 := HA.out.rm.ob.lt
        have HGO := more_go (s := s) (n := m) (lv := lv) (a := a) (st := st2)
        have HEN := more_end (s := s) (n := m) (lv := lv) (a := a) (st := st2)
        obtain ⟨op, hop'⟩ : ∃ op, twoH st2.now.s = op := ⟨_, rfl⟩
        rw [hop'] at hop CT HGO HEN
        have hSG := (sg_cell HA.out.gx op hop).2
        have HSG : Hid (∀ w2 st3 pv3, At w B b s pv w2 st3 pv3 → w2.cell? ⟨1, op * 2 + 1, none⟩ = some (.int .i64 (lvl op))) := fun w2 st3 pv3 k => (sg_cell k.gx op hop).2
        have hL := lvl_le op hop
        obtain ⟨L, hL'⟩ : ∃ L, lvl op = L := ⟨_, rfl⟩
        rw [hL'] at hSG HSG HGO HEN hL
        clear hop' hL'
        have i1 : (0 : Int) ≤ (op : Int) := by omega
        have i2 : (op : Int) < 19 := by omega
        by_cases h0 : op = 0
        · have HX : Hid (Rp w B b s pv RES (.returned (.tuple #[])) wr) := HA.out.fin (HM.out.symm.trans (HEN (.inl h0)))
          have hb : ((op : Int) == 0) = true := by rw [h0]; rfl
          clear HGO HEN HM HA HI h0 HSG
          go_wp2_with (go_at_call 181; refine CT.mono ?_; rintro e w3 ⟨rfl, hw3⟩; rw [hw3]; clear hw3 CT)
          first | go_end0 | refine bodyPost_ret (results_none rfl _ _ _) rfl ?_
          exact HX.out
        have hb : ((op : Int) == 0) = false := by simp; omega
        by_cases hLv : L < lv
        · have HX : Hid (Rp w B b s pv RES (.returned (.tuple #[])) wr) := HA.out.fin (HM.out.symm.trans (HEN (.inr hLv)))
          clear HGO HEN HM HA HI h0 HSG
          go_wp2_with (go_at_call 181; refine CT.mono ?_; rintro e w3 ⟨rfl, hw3⟩; rw [hw3]; clear hw3 CT)
          first | go_end0 | refine bodyPost_ret (results_none rfl _ _ _) rfl ?_
          exact HX.out
        have hd2 := HA.out.gd
        have HG : Hid (RES = (nxt s st2).bind fun st3 => (opds s m (L + 1) st3).bind fun st4 => (putP ((op : Int), a, lasP st4, v0) st4).bind fun st5 => more s m lv (lasP st5) st5) := HM.out.symm.trans (HGO (fun e => e.elim h0 hLv))
        have CN := next_any HA.out.rm HA.out.gx hs hd2.b
        have hLw : IntKind.i64.wrap (L + 1) = L + 1 := by rw [IntKind.wrap_i64]; omega
        clear HGO HEN HM h0
        rcases q1 : nxt s st2 with st3 | ⟨er, ea⟩ | _
        · have g1 := nxt_gr hd2 q1
          have HG1 : Hid (RES = (opds s m (L + 1) st3).bind fun st4 => (putP ((op : Int), a, lasP st4, v0) st4).bind fun st5 => more s m lv (lasP st5) st5) := HG.out.trans (bind_eq q1)
          have HO : Hid (∀ w1 pv1, At w B b s pv w1 st3 pv1 → Calls Tryz.prog 162 #[.pointer (some ⟨b, 0, none⟩), .int .i64 (L + 1)] w1 (Rp w1 B b s pv1 (opds s m (L + 1) st3))) := fun w1 pv1 k => (HI.out m (by omega)).opds (L + 1) st3 pv1 w1 k.rm k.gx k.gd (fun e => HNO.out (HG1.out.trans (bind_outs e))) ⟨by omega, by omega⟩
          have HQ1 : Hid (∀ e w', Rp wr B b s pv2 (nxt s st2) e w' → _) := fun e w' hR => HA.out.ok hR q1 g1.1
          have hp2 := plen_at HA.out.rm
          have HHI : Hid (m + 1 ≤ n) := hk
          clear q1 HG HI HA hd2 hk
          rcases q2 : opds s m (L + 1) st3 with st4 | ⟨er, ea⟩ | _
          · have g2 := (gr_all s m).1 _ _ _ g1.1 q2
            have HG2 : Hid (RES = (putP ((op : Int), a, lasP st4, v0) st4).bind fun st5 => more s m lv (lasP st5) st5) := HG1.out.trans (bind_eq q2)
            have HL : Hid (∀ w2 pv2, At w B b s pv w2 st4 pv2 → Calls Tryz.prog 180 #[.pointer (some ⟨b, 0, none⟩)] w2 fun e w' => e = .returned (.int .i64 (lasP st4)) ∧ w' = w2) := fun w2 pv2 k => last_any k.rm k.gd.p
            have HM2 : Hid (∀ w2 pv2, At w B b s pv w2 st4 pv2 → Calls Tryz.prog 182 #[.pointer (some ⟨b, 0, none⟩), .agg #[.int .i64 (op : Int), .int .i64 a, .int .i64 (lasP st4), .int .i64 0, .int .i64 0, .string ⟨#[]⟩]] w2 (Rp w2 B b s pv2 (putP ((op : Int), a, lasP st4, v0) st4))) := fun w2 pv2 k => put_any k.rm k.gd.p ((op : Int), a, lasP st4, v0)
            have HQ2 : Hid (∀ w1 pv1 e w', At w B b s pv w1 st3 pv1 → Rp w1 B b s pv1 (opds s m (L + 1) st3) e w' → _) := fun w1 pv1 e w' k hR => k.ok hR q2 g2.1
            clear q2 HG1
            rcases q3 : putP ((op : Int), a, lasP st4, v0) st4 with st5 | ⟨er, ea⟩ | _
            · have g3 := put_gr g2.1 q3
              have HG3 : Hid (more s m lv (lasP st5) st5 = RES) := (HG2.out.trans (bind_eq q3)).symm
              have HL5 : Hid (∀ w2 pv2, At w B b s pv w2 st5 pv2 → Calls Tryz.prog 180 #[.pointer (some ⟨b, 0, none⟩)] w2 fun e w' => e = .returned (.int .i64 (lasP st5)) ∧ w' = w2) := fun w2 pv2 k => last_any k.rm k.gd.p
              have HQ3 : Hid (∀ w2 pv2 e w', At w B b s pv w2 st4 pv2 → Rp w2 B b s pv2 (putP ((op : Int), a, lasP st4, v0) st4) e w' → _) := fun w2 pv2 e w' k hR => k.ok hR q3 g3.1
              have HPL : Hid (∀ w7 pv7, At w B b s pv w7 st5 pv7 → 200 - plen w7 b < 200 - plen wr b) := fun w7 pv7 k => by
                rw [plen_at k.rm, hp2]
                have := g1.2.2; have := g2.2.2; have := g3.2.2; have := g3.1.p
                omega
              clear q3 HG2 g1 g2 g3 hp2
              generalize lasP st4 = la4 at *
              generalize lasP st5 = la5 at *
              go_wp2_with (first
                | (go_at_call 181; refine CT.mono ?_; rintro e w3 ⟨rfl, hw3⟩; rw [hw3]; clear hw3 CT)
                | (go_at_call 161; refine CN.mono ?_; rintro e w4 hR; obtain ⟨he, pv3, K3⟩ := HQ1.out e w4 hR; subst he; have hSG4 := HSG.out w4 _ pv3 K3.out; have CO := HO.out w4 pv3 K3.out; clear hR CN)
                | (go_at_call 162; refine CO.mono ?_; rintro e w5 hR; obtain ⟨he, pv4, K4⟩ := HQ2.out w4 pv3 e w5 K3.out hR; subst he; have CL := HL.out w5 pv4 K4.out; have CM := HM2.out w5 pv4 K4.out; clear hR CO)
                | (go_at_call 180; refine CL.mono ?_; rintro e w6 ⟨rfl, hw6⟩; rw [hw6]; clear hw6 CL)
                | (go_at_call 182; refine CM.mono ?_; rintro e w7 hR; obtain ⟨he, pv5, K5⟩ := HQ3.out w5 pv4 e w7 K4.out hR; subst he; have CL := HL5.out w7 pv5 K5.out; clear hR CM))
              go_roundw
              case rel => exact ⟨m, la5, st5, pv5, by have := HHI.out; omega, rfl, HG3, K5⟩
              case measure => exact HPL.out _ _ K5.out
            · have HQ3 : Hid (∀ w2 pv2 e w', At w B b s pv w2 st4 pv2 → Rp w2 B b s pv2 (putP ((op : Int), a, lasP st4, v0) st4) e w' → _) := fun w2 pv2 e w' k hR => k.no hR q3 (HG2.out.trans (bind_no q3))
              clear q3 HG2 g1 g2 hp2
              generalize lasP st4 = la4 at *
              go_wp2_with (first
                | (go_at_call 181; refine CT.mono ?_; rintro e w3 ⟨rfl, hw3⟩; rw [hw3]; clear hw3 CT)
                | (go_at_call 161; refine CN.mono ?_; rintro e w4 hR; obtain ⟨he, pv3, K3⟩ := HQ1.out e w4 hR; subst he; have hSG4 := HSG.out w4 _ pv3 K3.out; have CO := HO.out w4 pv3 K3.out; clear hR CN)
                | (go_at_call 162; refine CO.mono ?_; rintro e w5 hR; obtain ⟨he, pv4, K4⟩ := HQ2.out w4 pv3 e w5 K3.out hR; subst he; have CL := HL.out w5 pv4 K4.out; have CM := HM2.out w5 pv4 K4.out; clear hR CO)
                | (go_at_call 180; refine CL.mono ?_; rintro e w6 ⟨rfl, hw6⟩; rw [hw6]; clear hw6 CL)
                | (go_at_call 182; refine CM.mono ?_; rintro e w7 hR; obtain ⟨he, HX⟩ := HQ3.out w5 pv4 e w7 K4.out hR; subst he; clear hR CM))
              exact ⟨rfl, HX.out⟩
            · exact absurd q3 put_out
          · have HQ2 : Hid (∀ w1 pv1 e w', At w B b s pv w1 st3 pv1 → Rp w1 B b s pv1 (opds s m (L + 1) st3) e w' → _) := fun w1 pv1 e w' k hR => k.no hR q2 (HG1.out.trans (bind_no q2))
            clear q2 HG1 g1 hp2
            go_wp2_with (first
              | (go_at_call 181; refine CT.mono ?_; rintro e w3 ⟨rfl, hw3⟩; rw [hw3]; clear hw3 CT)
              | (go_at_call 161; refine CN.mono ?_; rintro e w4 hR; obtain ⟨he, pv3, K3⟩ := HQ1.out e w4 hR; subst he; have hSG4 := HSG.out w4 _ pv3 K3.out; have CO := HO.out w4 pv3 K3.out; clear hR CN)
              | (go_at_call 162; refine CO.mono ?_; rintro e w5 hR; obtain ⟨he, HX⟩ := HQ2.out w4 pv3 e w5 K3.out hR; subst he; clear hR CO))
            exact ⟨rfl, HX.out⟩
          · exact absurd (HG1.out.trans (bind_outs q2)) HNO.out
        · have HQ1 : Hid (∀ e w', Rp wr B b s pv2 (nxt s st2) e w' → _) := fun e w' hR => HA.out.no hR q1 (HG.out.trans (bind_no q1))
          clear q1 HG HI HA hd2 HSG
          go_wp2_with (first
            | (go_at_call 181; refine CT.mono ?_; rintro e w3 ⟨rfl, hw3⟩; rw [hw3]; clear hw3 CT)
            | (go_at_call 161; refine CN.mono ?_; rintro e w4 hR; obtain ⟨he, HX⟩ := HQ1.out e w4 hR; subst he; clear hR CN))
          exact ⟨rfl, HX.out⟩
        · exact absurd q1 nxt_out
  · have HQ1 : Hid (∀ e w', Rp w B b s pv (opd s n st) e w' → _) := fun e w' hR => H0.out.no hR q1 (HE.out.trans (bind_no q1))
    clear q1 HE ih hno H0 hd
    go_enter Tryz.func162, Tryz.ntmps162
    go_wp2_with (go_at_call 179; refine CA.mono ?_; rintro e w1 hR; obtain ⟨he, HX⟩ := HQ1.out e w1 hR; subst he; clear hR CA)
    exact ⟨rfl, HX.out⟩
  · exact absurd (HE.out.trans (bind_outs q1)) hno
end Go.Proofs.YtkbhngdabfoboaaGreatDoor.x10
namespace Go.Proofs.YtkbhngdabfoboaaGreatDoor.x10
open Go.RowKit Go.Shelf Go.Sort
open Go.Lib hiding intOf

variable {s : List UInt8} {B b : Nat}
/-- the reader's calls, at whatever fuel -/
theorem rec_all (hs : s.length ≤ 512) (B b : Nat) : ∀ n m, m ≤ n → Al s B b m := by
  intro n
  induction n with
  | zero => intro m hm; obtain rfl : m = 0 := by omega
            exact Al.zero s B b
  | succ n ih =>
    intro m hm
    rcases Nat.lt_or_ge m (n + 1) with h | h
    · exact ih m (by omega)
    · obtain rfl : m = n + 1 := by omega
      have i := ih n (Nat.le_refl _)
      exact ⟨fun lv st pv w a b c d e => opds_step hs ih lv st pv w a b c d e, fun st pv w a b c d => opd_step hs i st pv w a b c d, fun wd st pv w a b c d => aftW_step hs i wd st pv w a b c d, fun wd st pv w a b c d => aftM_step hs i wd st pv w a b c d, fun st pv w a b c d => inBr_step hs i st pv w a b c d⟩
def st0 : Rs := ⟨⟨0, 0, [], v0⟩, 0, 0, []⟩
/-- how whole ends -/
def Wp (w : World) (B b : Nat) (pv : Value) (r : Ot (List P10)) (e : Ending) (w' : World) : Prop := match r with
  | .ok x => ∃ pv', e = .returned pv' ∧ w'.ownsRow B 192 6 pv' x.length (pcs x) ∧ Lf w b pv w' pv'
  | .no er a => e = .panicked (wrg er a) ∧ Ch (Fx b pv) w w'
  | .out => True
theorem At.wp {w w1 : World} {pv pv1 : Value} {st1 : Rs} (h : At w B b s pv w1 st1 pv1) {q : Ot (List P10)} (hq : q = .ok st1.parts) : Wp w B b pv q (.returned pv1) w1 := by
  rw [hq]
  exact ⟨pv1, rfl, h.rm.row, h.lf⟩
theorem At.wno {w w1 : World} {pv pv1 : Value} {st1 : Rs} (h : At w B b s pv w1 st1 pv1) {q : Ot (List P10)} {er ea : Int} (hq : q = .no er ea) : Wp w B b pv q (.panicked (wrg er ea)) w1 := by
  rw [hq]
  exact ⟨rfl, h.lf.ch⟩
theorem At.wbad {w w1 w' : World} {pv pv1 : Value} {st1 : Rs} {r : Ot Rs} {q : Ot (List P10)} {er ea : Int} {e : Ending} (h : At w B b s pv w1 st1 pv1) (hR : Rp w1 B b s pv1 r e w') (hr : r = .no er ea) (hq : q = .no er ea) : e = .panicked (wrg er ea) ∧ Hid (Wp w B b pv q (.panicked (wrg er ea)) w') := by
  have h1 := Rp.liftG h.lf hR
  obtain ⟨rfl, -⟩ := hR.bad hr
  rw [hr] at h1
  rw [hq]
  exact ⟨rfl, h1⟩

set_option maxHeartbeats 2000000 in
set_option maxRecDepth 100000 in
theorem whole_any (hs : s.length ≤ 512) (n : Nat) (pv : Value) (w : World) (h : Rm w B b s st0 pv) (hg : Gx B w) (hno : whol s n ≠ .out) : Calls Tryz.prog 150 #[.pointer (some ⟨b, 0, none⟩)] w (Wp w B b pv (whol s n)) := by
  have hd : Gd s st0 := ⟨Nat.zero_le _, Nat.zero_le _, Nat.zero_le _⟩
  have H0 : Hid (At w B b s pv w st0 pv) := ⟨h, Lf.refl _ _ _, hd, hg⟩
  have hbl := h.ob.lt
  have HE : Hid (whol s n = (nxt s st0).bind fun st => (opds s n 1 st).bind fun st => if st.now.kind = 0 then .ok st.parts else .no 10 st.now.at') := rfl
  have CA := next_any h hg hs hd.b
  have HI := rec_all hs B b n n (Nat.le_refl _)
  generalize whol s n = RES at *
  clear h hg
  rcases q1 : nxt s st0 with st1 | ⟨er, ea⟩ | _
  · have g1 := nxt_gr hd q1
    have HE1 : Hid (RES = (opds s n 1 st1).bind fun st => if st.now.kind = 0 then .ok st.parts else .no 10 st.now.at') := HE.out.trans (bind_eq q1)
    have HO : Hid (∀ w1 pv1, At w B b s pv w1 st1 pv1 → Calls Tryz.prog 162 #[.pointer (some ⟨b, 0, none⟩), .int .i64 1] w1 (Rp w1 B b s pv1 (opds s n 1 st1))) := fun w1 pv1 k => HI.opds 1 st1 pv1 w1 k.rm k.gx k.gd (fun e => hno (HE1.out.trans (bind_outs e))) ⟨by omega, by omega⟩
    have HQ1 : Hid (∀ e w', Rp w B b s pv (nxt s st0) e w' → _) := fun e w' hR => H0.out.ok hR q1 g1.1
    clear q1 HE HI
    rcases q2 : opds s n 1 st1 with st2 | ⟨er, ea⟩ | _
    · have g2 := (gr_all s n).1 _ _ _ g1.1 q2
      have HE2 : Hid (RES = if st2.now.kind = 0 then .ok st2.parts else .no 10 st2.now.at') := HE1.out.trans (bind_eq q2)
      have HQ2 : Hid (∀ w1 pv1 e w', At w B b s pv w1 st1 pv1 → Rp w1 B b s pv1 (opds s n 1 st1) e w' → e = .returned (.tuple #[]) ∧ ∃ pv2, w'.cell? ⟨b, 1, none⟩ = some (.int .i64 st2.now.kind) ∧ w'.cell? ⟨b, 9, none⟩ = some pv2 ∧ b < w'.heap.size ∧ (∃ pa pl pc, pv2 = .slice pa pl pc) ∧ Hid (At w B b s pv w' st2 pv2)) := fun w1 pv1 e w' k hR => by
        obtain ⟨rfl, pv2, K2⟩ := k.ok hR q2 g2.1
        obtain ⟨pa, pcap, hpv, -⟩ := row_slice K2.out.rm.row
        exact ⟨rfl, pv2, K2.out.rm.ob.c 1, K2.out.rm.ob.c 9, K2.out.rm.ob.lt, ⟨pa, _, pcap, hpv⟩, K2⟩
      clear q2 HE1 H0 hd g1 g2 hno
      by_cases k0 : st2.now.kind = 0
      · have HX : Hid (∀ w2 pv2, At w B b s pv w2 st2 pv2 → Wp w B b pv RES (.returned pv2) w2) := fun w2 pv2 k => k.wp (HE2.out.trans (if_pos k0))
        have hb : (st2.now.kind == 0) = true := beq_iff_eq.2 k0
        clear k0 HE2
        go_enter Tryz.func150, Tryz.ntmps150
        go_wp2_with (first
          | (go_at_call 161; refine CA.mono ?_; rintro e w1 hR; obtain ⟨he, pv1, K1⟩ := HQ1.out e w1 hR; subst he; have CO := HO.out w1 pv1 K1.out; clear hR CA)
          | (go_at_call 162; refine CO.mono ?_; rintro e w2 hR; obtain ⟨he, pv2, d1, d9, hl2, ⟨pa, pl, pc, hpv⟩, K2⟩ := HQ2.out w1 pv1 e w2 K1.out hR; subst he; subst hpv; clear hR CO))
        go_ret
        exact HX.out _ _ K2.out
      · have HX : Hid (∀ w2 pv2, At w B b s pv w2 st2 pv2 → Wp w B b pv RES (.panicked (wrg 10 st2.now.at')) w2) := fun w2 pv2 k => k.wno (HE2.out.trans (if_neg k0))
        have HRF : Hid (∀ w2 pv2, At w B b s pv w2 st2 pv2 → Calls Tryz.prog 163 #[.pointer (some ⟨b, 0, none⟩)] w2 fun e w' => e = .panicked (wrg 10 st2.now.at') ∧ w' = w2) := fun w2 pv2 k => refuse_any k.rm
        have hb : (st2.now.kind == 0) = false := beq_eq_false_iff_ne.2 k0
        clear k0 HE2
        go_enter Tryz.func150, Tryz.ntmps150
        go_wp2_with (first
          | (go_at_call 161; refine CA.mono ?_; rintro e w1 hR; obtain ⟨he, pv1, K1⟩ := HQ1.out e w1 hR; subst he; have CO := HO.out w1 pv1 K1.out; clear hR CA)
          | (go_at_call 162; refine CO.mono ?_; rintro e w2 hR; obtain ⟨he, pv2, d1, d9, hl2, ⟨pa, pl, pc, hpv⟩, K2⟩ := HQ2.out w1 pv1 e w2 K1.out hR; subst he; subst hpv; have CF := HRF.out w2 _ K2.out; clear hR CO)
          | (go_at_call 163; refine CF.mono ?_; rintro e w3 ⟨rfl, hw3⟩; rw [hw3]; clear hw3 CF))
        exact ⟨rfl, HX.out _ _ K2.out⟩
    · have HQ2 : Hid (∀ w1 pv1 e w', At w B b s pv w1 st1 pv1 → Rp w1 B b s pv1 (opds s n 1 st1) e w' → _) := fun w1 pv1 e w' k hR => k.wbad hR q2 (HE1.out.trans (bind_no q2))
      clear q2 HE1 H0 hd g1 hno
      go_enter Tryz.func150, Tryz.ntmps150
      go_wp2_with (first
        | (go_at_call 161; refine CA.mono ?_; rintro e w1 hR; obtain ⟨he, pv1, K1⟩ := HQ1.out e w1 hR; subst he; have CO := HO.out w1 pv1 K1.out; clear hR CA)
        | (go_at_call 162; refine CO.mono ?_; rintro e w2 hR; obtain ⟨he, HX⟩ := HQ2.out w1 pv1 e w2 K1.out hR; subst he; clear hR CO))
      exact ⟨rfl, HX.out⟩
    · exact absurd (HE1.out.trans (bind_outs q2)) hno
  · have HQ1 : Hid (∀ e w', Rp w B b s pv (nxt s st0) e w' → _) := fun e w' hR => H0.out.wbad hR q1 (HE.out.trans (bind_no q1))
    clear q1 HE HI H0 hd hno
    go_enter Tryz.func150, Tryz.ntmps150
    go_wp2_with (go_at_call 161; refine CA.mono ?_; rintro e w1 hR; obtain ⟨he, HX⟩ := HQ1.out e w1 hR; subst he; clear hR CA)
    exact ⟨rfl, HX.out⟩
  · exact absurd q1 nxt_out
end Go.Proofs.YtkbhngdabfoboaaGreatDoor.x10
namespace Go.Proofs.YtkbhngdabfoboaaGreatDoor.x10
open Go.RowKit Go.Shelf Go.Sort
open Go.Lib hiding intOf

theorem as_wrong (v : Value) (w : World) : Sem.run Tryz.prog (Instr.typeAssert (.iface 160 v) 20 160 false) w = .ok v w := by
  simp [Instr.typeAssert, go_sem]
set_option maxHeartbeats 1000000 in
set_option maxRecDepth 100000 in
theorem catE_no (x : Nat) (er ea y z : Int) (older : List PanicEntry) (w : World) (h0 : w.cell? ⟨x, 0, none⟩ = some (.int .i64 y)) (h1 : w.cell? ⟨x, 1, none⟩ = some (.int .i64 z)) (f0 : w.frozen? ⟨x, 0, none⟩ = false) (f1 : w.frozen? ⟨x, 1, none⟩ = false) :
    CallsD Tryz.prog 160 #[.pointer (some ⟨x, 0, none⟩)] (.panicking ({ v := .iface 160 (.agg #[.int .i64 er, .int .i64 ea]), recovered := false } :: older)) w fun e u' w' =>
      e = .returned (.tuple #[]) ∧ u' = .panicking ({ v := .iface 160 (.agg #[.int .i64 er, .int .i64 ea]), recovered := true } :: older) ∧ w' = (w.setCell ⟨x, 0, none⟩ (.int .i64 er)).setCell ⟨x, 1, none⟩ (.int .i64 ea) := by
  have hta := as_wrong
  refine callsD_of_wpS Tryz.func160 rfl fun c₀ cs hu => ?_
  apply wpS_seq
  apply wpS_region
  simp [wpOpsS, go_sem, recoverD, hu, Tryz.ntmps160, Exit.thenS]
  refine wpS_of_wp ?_
  go_wp2
  simp [bodyPostS, results, Tryz.results160]
set_option maxHeartbeats 1000000 in
set_option maxRecDepth 100000 in
theorem catE_ok (x : Nat) (w : World) :
    CallsD Tryz.prog 160 #[.pointer (some ⟨x, 0, none⟩)] .returning w fun e u' w' => e = .returned (.tuple #[]) ∧ u' = .returning ∧ w' = w := by
  refine callsD_of_wpS Tryz.func160 rfl fun c₀ cs hu => ?_
  apply wpS_seq
  apply wpS_region
  simp [wpOpsS, go_sem, recoverD, hu, Tryz.ntmps160, Exit.thenS]
  refine wpS_of_wp ?_
  go_wp2
  cases c₀
  simp_all [bodyPostS, results, Tryz.results160]

variable {s : List UInt8} {B b : Nat}
/-- how attempt of whole ends -/
def Ap (w : World) (B b : Nat) (pv : Value) (r : Ot (List P10)) (e : Ending) (w' : World) : Prop := match r with
  | .ok x => ∃ pv', e = .returned (.tuple #[pv', .agg #[.int .i64 0, .int .i64 0]]) ∧ w'.ownsRow B 192 6 pv' x.length (pcs x) ∧ Ch (Fx b pv) w w'
  | .no er a => e = .returned (.tuple #[.slice none 0 0, .agg #[.int .i64 er, .int .i64 a]]) ∧ Ch (Fx b pv) w w'
  | .out => True

set_option maxHeartbeats 2000000 in
set_option maxRecDepth 100000 in
theorem attE_any (hs : s.length ≤ 512) (n : Nat) (pv : Value) (w : World) (h : Rm w B b s st0 pv) (hg : Gx B w) (hno : whol s n ≠ .out) : Calls Tryz.prog 149 #[.func (.func 150) #[.pointer (some ⟨b, 0, none⟩)] #[]] w (Ap w B b pv (whol s n)) := by
  have hmf : ∀ (fn : Fn) (first cap : Array Value) (w : World), (Instr.makeFunc fn first cap).run Tryz.prog w = .ok (.func fn first cap) w := fun _ _ _ _ => rfl
  have hbl := h.ob.lt
  obtain ⟨W1, hW1⟩ : ∃ W1, w.alloc (.cells #[.int .i64 0, .int .i64 0] 160) = W1 := ⟨_, rfl⟩
  have hb1 : Below w.heap.size w W1 := by rw [← hW1]; exact (Below.refl _ w).alloc (Nat.le_refl _) _
  have hzz : W1.heap.size = w.heap.size + 1 := by rw [← hW1]; simp
  have ho1 : W1.heap[w.heap.size]? = some (.cells #[.int .i64 0, .int .i64 0] 160 (0, 0)) := by rw [← hW1]; show (w.heap.push _)[w.heap.size]? = _; exact Array.getElem?_push_size
  have R1 := h.below hb1
  have L1 := Lf.of_below b pv hb1
  have CW := whole_any hs n pv W1 R1 (h.gx2 hg L1) hno
  have HWE : Hid (_ = W1) := hW1
  have hne : ¬ Fx b pv w.heap.size := fun e => by
    rcases e with e | e
    · omega
    · obtain ⟨_, cur, h1⟩ := row_obj h.row e
      have := (Array.getElem?_eq_some_iff.1 h1).1
      omega
  have HCE : Hid (∀ w', Ch (Fx b pv) W1 w' → w'.cell? ⟨w.heap.size, 0, none⟩ = some (.int .i64 0) ∧ w'.cell? ⟨w.heap.size, 1, none⟩ = some (.int .i64 0) ∧ w'.frozen? ⟨w.heap.size, 0, none⟩ = false ∧ w'.frozen? ⟨w.heap.size, 1, none⟩ = false ∧ w.heap.size < w'.heap.size) := fun w' hc => by
    have h2 := (hc.block w.heap.size (by omega) hne).trans ho1
    have := hc.size
    exact ⟨by simp [World.cell?, h2], by simp [World.cell?, h2], by simp [World.frozen?, h2], by simp [World.frozen?, h2], by omega⟩
  have HCH : Hid (∀ w' v1 v2, Ch (Fx b pv) W1 w' → Ch (Fx b pv) w ((w'.setCell ⟨w.heap.size, 0, none⟩ v1).setCell ⟨w.heap.size, 1, none⟩ v2)) := fun w' v1 v2 hc => by
    have c1 : Ch (Fx b pv) w w' := joinG (L1.ch) hc (fun _ _ e => e)
    exact (c1.setCell _ _ (fun e => absurd e (Nat.lt_irrefl _))).setCell _ _ (fun e => absurd e (Nat.lt_irrefl _))
  have HNO : Hid (whol s n ≠ .out) := hno
  clear hb1 ho1 R1 L1 hW1 hg hno
  rcases q : whol s n with x | ⟨er, ea⟩ | _
  · have HQ : Hid (∀ e w', Wp W1 B b pv (whol s n) e w' → ∃ pv', e = .returned pv' ∧ Hid (w'.ownsRow B 192 6 pv' x.length (pcs x) ∧ Lf W1 b pv w' pv')) := fun e w' hR => by
      rw [q] at hR
      exact hR
    have HSL : Hid (∀ (w' : World) (pv' : Value), w'.ownsRow B 192 6 pv' x.length (pcs x) → ∃ pa pl pc, pv' = Value.slice pa pl pc) := fun w' pv' hr => by
      obtain ⟨pa, pcap, hpv, -⟩ := row_slice hr
      exact ⟨pa, _, pcap, hpv⟩
    go_enter_defers Tryz.func149, Tryz.ntmps149
    go_wp2_with (go_at_call 150; rw [HWE.out]; refine CW.mono ?_; rintro e w2 hR; obtain ⟨pv2, he, HX⟩ := HQ.out e w2 hR; subst he; obtain ⟨pa, pl, pc, hpv⟩ := HSL.out w2 pv2 HX.out.1; subst hpv; obtain ⟨d0, d1, f0, f1, hl2⟩ := HCE.out w2 HX.out.2.ch; clear hR CW)
    refine leaves_cons (f := 160) (args := #[.pointer (some ⟨w.heap.size, 0, none⟩)]) (by simp) (by simp [go_sem]) ?_
    refine (catE_ok _ _).mono ?_
    rintro e u' w'' ⟨rfl, rfl, rfl⟩
    simp [Leaves, settle, results, Tryz.results149, go_sem, d0, d1]
    have c2 : Ch (fun k => k = w.heap.size) w2 ((w2.setCell ⟨w.heap.size, 0, none⟩ (.int .i64 0)).setCell ⟨w.heap.size, 1, none⟩ (.int .i64 0)) 
      := ((Ch.refl (fun k => k = w.heap.size) w2).setCell ⟨w.heap.size, 0, none⟩ (.int .i64 0) (fun _ => rfl)).setCell ⟨w.heap.size, 1, none⟩ (.int .i64 0) (fun _ => rfl)
    exact ⟨_, rfl, c2.row HX.out.1 (fun k hk e => by
      rcases HX.out.2.nw k hk with e2 | e2
      · exact hne (.inr (e ▸ e2))
      · omega), HCH.out _ _ _ HX.out.2.ch⟩
  · have HQ : Hid (∀ e w', Wp W1 B b pv (whol s n) e w' → e = .panicked (wrg er ea) ∧ Hid (Ch (Fx b pv) W1 w')) := fun e w' hR => by
      rw [q] at hR
      exact hR
    clear q
    go_enter_defers Tryz.func149, Tryz.ntmps149
    go_wp2_with (go_at_call 150; rw [HWE.out]; refine CW.mono ?_; rintro e w2 hR; obtain ⟨he, HX⟩ := HQ.out e w2 hR; subst he; obtain ⟨d0, d1, f0, f1, hl2⟩ := HCE.out w2 HX.out; clear hR CW)
    refine leaves_cons (f := 160) (args := #[.pointer (some ⟨w.heap.size, 0, none⟩)]) (by simp) (by simp [go_sem]) ?_
    refine (catE_no w.heap.size er ea 0 0 [] w2 d0 d1 f0 f1).mono ?_
    rintro e u' w'' ⟨rfl, rfl, rfl⟩
    simp [Leaves, settle, results, Tryz.results149, go_sem, d0, d1]
    exact ⟨rfl, HCH.out _ _ _ HX.out⟩
  · exact absurd q HNO.out
end Go.Proofs.YtkbhngdabfoboaaGreatDoor.x10
namespace Go.Proofs.YtkbhngdabfoboaaGreatDoor.x10
open Go.RowKit Go.Shelf Go.Sort
open Go.Lib hiding intOf

variable {s : List UInt8}
/-- a slice of parts that lies from block B on -/
def Px (w : World) (B : Nat) (v : Value) (l : List P10) : Prop := w.ownsRow B 192 6 v l.length (pcs l)
theorem Px.below {w w' : World} {B : Nat} {v : Value} {l : List P10} (h : Px w B v l) (hb : Below w.heap.size w w') : Px w' B v l := (Ch.of_below (X := fun _ => False) hb).row h (fun _ _ e => e)
/-- how Parse ends -/
def PrP (w : World) (r : List P10 × Int × Int) (e : Ending) (w' : World) : Prop := ∃ v, e = .returned (.tuple #[v, .int .i64 r.2.1, .int .i64 r.2.2]) ∧ Px w' w.heap.size v r.1 ∧ Below w.heap.size w w'
theorem nil_row (w : World) (B : Nat) : Px w B (.slice none 0 0) [] := ⟨rfl, .inl ⟨rfl, rfl⟩⟩
theorem Gx.up {B B' : Nat} {w : World} (h : Gx B w) (hB : B ≤ B') : Gx B' w := fun W hW => h W (hW.mono hB)
theorem below_of_ch {w w' : World} {X : Nat → Prop} {N : Nat} (h : Ch X w w') (hN : N ≤ w.heap.size) (hX : ∀ k, k < N → ¬ X k) : Below N w w' := ⟨h.os, h.tape, h.output, h.size, fun k hk => h.block k (by omega) (hX k hk)⟩

set_option maxHeartbeats 2000000 in
set_option maxRecDepth 100000 in
theorem Parse_any (n : Nat) {B : Nat} (w : World) (hg : Gx B w) (hB : B ≤ w.heap.size) {r : List P10 × Int × Int} (hr : prs n s = some r) : Calls Tryz.prog 138 #[.string (S s)] w (PrP w r) := by
  have hmf : ∀ (fn : Fn) (first cap : Array Value) (w : World), (Instr.makeFunc fn first cap).run Tryz.prog w = .ok (.func fn first cap) w := fun _ _ _ _ => rfl
  have hz := S_size s
  by_cases hs : 512 < s.length
  · have HR : Hid (r = ([], 13, 0)) := by
      show _ = _
      unfold prs at hr
      rw [if_pos hs] at hr
      cases hr; rfl
    have hgt : (512 : Int) < (s.length : Int) := by omega
    clear hr hg hs
    go_enter Tryz.func138, Tryz.ntmps138
    go_wp2
    go_ret3
    rw [HR.out]
    exact ⟨_, rfl, nil_row _ _, Below.refl _ _⟩
  · have hgt : ¬ (512 : Int) < (s.length : Int) := by omega
    have hs' : s.length ≤ 512 := by omega
    unfold prs at hr
    rw [if_neg hs] at hr
    obtain ⟨W0, hW0⟩ : ∃ W0, w.alloc (.cells (rcs s st0 (.slice none 0 0)) 158) = W0 := ⟨_, rfl⟩
    have hb0 : Below w.heap.size w W0 := by rw [← hW0]; exact (Below.refl _ w).alloc (Nat.le_refl _) _
    have ho0 : Ro W0 w.heap.size (rcs s st0 (.slice none 0 0)) := by rw [← hW0]; show (w.heap.push _)[w.heap.size]? = _; exact Array.getElem?_push_size
    have hzz : W0.heap.size = w.heap.size + 1 := by rw [← hW0]; simp
    have R0 : Rm W0 w.heap.size w.heap.size s st0 (.slice none 0 0) := ⟨ho0, nil_row _ _, by simp [Value.ownBlock], Nat.le_refl _⟩
    have hno : whol s n ≠ .out := fun e => by rw [e] at hr; cases hr
    have CA := attE_any hs' n (.slice none 0 0) W0 R0 ((hg.up hB).below hb0) hno
    have HWE : Hid (w.alloc (.cells #[.string (S s), .int .i64 0, .int .i64 0, .string ⟨#[]⟩, .int .i64 0, .int .i64 0, .string ⟨#[]⟩, .int .i64 0, .int .i64 0, .slice none 0 0] 158) = W0) := hW0
    have HBL : Hid (∀ w', Ch (Fx w.heap.size (.slice none 0 0)) W0 w' → Below w.heap.size w w') := fun w' hc => hb0.trans (below_of_ch hc (by omega) (fun k hk e => by
      rcases e with e | e
      · omega
      · simp [Value.ownBlock] at e))
    clear hW0 hb0 ho0 R0 hg hs hB
    rcases q : whol s n with x | ⟨er, ea⟩ | _
    · have HR : Hid (r = (x, 0, 0)) := by
        show _ = _
        rw [q] at hr
        cases hr; rfl
      have HQ : Hid (∀ e w', Ap W0 w.heap.size w.heap.size (.slice none 0 0) (whol s n) e w' → ∃ pa pl pc, e = .returned (.tuple #[.slice pa pl pc, .agg #[.int .i64 0, .int .i64 0]]) ∧ Hid (Px w' w.heap.size (.slice pa pl pc) x ∧ Below w.heap.size w w')) := fun e w' hR => by
        rw [q] at hR
        obtain ⟨pv, rfl, h1, h2⟩ := hR
        obtain ⟨pa, pcap, rfl, -⟩ := row_slice h1
        exact ⟨pa, _, pcap, rfl, h1, HBL.out _ h2⟩
      clear q hr hno
      go_enter Tryz.func138, Tryz.ntmps138
      go_wp2_with (go_at_call 149; rw [HWE.out]; refine CA.mono ?_; rintro e w2 hR; obtain ⟨pa, pl, pc, he, HX⟩ := HQ.out e w2 hR; subst he; clear hR CA)
      go_quiet (fail)
      go_wp2
      go_ret3
      rw [HR.out]
      have hB2 : ∀ k : Nat, Below w2.heap.size w2 ((w2.alloc (.cells #[.int .i64 0, .int .i64 0] 160)).drewN k) := fun k => below_drewN ((Below.refl _ w2).alloc (Nat.le_refl _) _) k
      exact ⟨_, rfl, HX.out.1.below (hB2 _), HX.out.2.trans ((hB2 _).mono HX.out.2.size)⟩
    · have HR : Hid (r = ([], er, ea)) := by
        show _ = _
        rw [q] at hr
        cases hr; rfl
      have HQ : Hid (∀ e w', Ap W0 w.heap.size w.heap.size (.slice none 0 0) (whol s n) e w' → e = .returned (.tuple #[.slice none 0 0, .agg #[.int .i64 er, .int .i64 ea]]) ∧ Hid (Below w.heap.size w w')) := fun e w' hR => by
        rw [q] at hR
        exact ⟨hR.1, HBL.out _ hR.2⟩
      clear q hr hno
      go_enter Tryz.func138, Tryz.ntmps138
      go_wp2_with (go_at_call 149; rw [HWE.out]; refine CA.mono ?_; rintro e w2 hR; obtain ⟨he, HX⟩ := HQ.out e w2 hR; subst he; clear hR CA)
      go_quiet (fail)
      go_wp2
      go_ret3
      rw [HR.out]
      refine ⟨_, rfl, nil_row _ _, HX.out.trans (Below.mono (B := w2.heap.size) ?_ HX.out.size)⟩
      exact below_drewN ((Below.refl _ w2).alloc (Nat.le_refl _) _) _
    · exact absurd q hno
end Go.Proofs.YtkbhngdabfoboaaGreatDoor.x10
namespace Go.Proofs.YtkbhngdabfoboaaGreatDoor.x10

theorem rdB1_le (l : List UInt8) : (rdB1 l).2 ≤ l.length := by
  unfold rdB1
  split
  · simp
  · simp
  · split
    · split <;> simp
    · simp
  · split <;> simp
  · simp
theorem txs_le : ∀ (n : Nat) (acc l : List UInt8), (txs n acc l).2.length ≤ l.length
  | 0, acc, l => by simp [txs]
  | n + 1, acc, l => by
    rw [txs]
    split
    · exact Nat.le_refl _
    · have := txs_le n (acc ++ [(rdB1 l).1]) (l.drop (rdB1 l).2)
      rw [List.length_drop] at this
      omega
theorem kA_kW {c : UInt8} (h : kA c = true) : kW c = true := by unfold kW; rw [h]; rfl
theorem tw_pos {p : UInt8 → Bool} {c : UInt8} {r : List UInt8} (h : p c = true) : 1 ≤ ((c :: r).takeWhile p).length := by rw [List.takeWhile_cons, if_pos h]; simp
theorem mks_pos : ∀ m ∈ mks, 1 ≤ m.length := by decide
/-- a token: none is left, or it takes a byte at least -/
theorem tok_pos {b : Nat} {l : List UInt8} {t : Tk} {n : Nat} (h : tok b l = .ok (t, n)) : (t.kind = 0 ∧ t.s = []) ∨ (t.kind ≠ 0 ∧ l ≠ [] ∧ 1 ≤ n) := by
  unfold tok at h
  split at h
  · cases h; exact .inl ⟨rfl, rfl⟩
  · rename_i c r
    right
    split at h
    · rename_i hd
      simp only at h
      split at h
      · cases h; exact ⟨by simp, by simp, tw_pos hd⟩
      · cases h
    · split at h
      · rename_i ha
        simp only at h
        split at h
        · cases h; exact ⟨by simp, by simp, tw_pos (kA_kW ha)⟩
        · cases h
      · split at h
        · simp only at h
          split at h
          · rename_i q hq
            have := txs_le (c :: r).length [] ((c :: r).drop 1)
            rw [hq] at this
            cases h
            exact ⟨by simp, by simp, by simp at this ⊢; omega⟩
          · cases h
        · split at h
          · rename_i m hm
            cases h
            exact ⟨by simp, by simp, mks_pos m (List.mem_of_find?_eq_some hm)⟩
          · cases h
theorem tok_out (b : Nat) (l : List UInt8) : tok b l ≠ .out := by
  intro h
  unfold tok at h
  split at h
  · cases h
  · split at h
    · simp only at h; split at h <;> cases h
    · split at h
      · simp only at h; split at h <;> cases h
      · split at h
        · simp only at h; split at h <;> cases h
        · split at h <;> cases h
theorem nxt_out (s : List UInt8) (st : Rs) : nxt s st ≠ .out := by
  intro h
  unfold nxt at h
  simp only at h
  split at h
  · cases h
  · cases h
  · rename_i hh; exact tok_out _ _ hh
/-- how much is left -/
def mu (s : List UInt8) (st : Rs) : Nat := 2 * (s.length - st.beh) + (if st.now.kind = 0 then 0 else 1)
def Iv (st : Rs) : Prop := st.now.s ≠ [] → st.now.kind ≠ 0
theorem nxt_mu {s : List UInt8} {st st' : Rs} (h : nxt s st = .ok st') : mu s st' ≤ 2 * (s.length - st.beh) ∧ Iv st' := by
  unfold nxt at h
  simp only at h
  split at h
  · rename_i t n ht
    cases h
    rcases tok_pos ht with ⟨h1, h2⟩ | ⟨h1, h2, h3⟩
    · exact ⟨by unfold mu; simp only; rw [if_pos h1]; omega, fun h => absurd h2 h⟩
    · refine ⟨?_, fun _ => h1⟩
      unfold mu
      simp only
      rw [if_neg h1]
      have : st.beh + spn kB (s.drop st.beh) < s.length := by
        have := List.length_pos_iff.2 h2
        rw [List.length_drop] at this
        omega
      omega
  · cases h
  · cases h
theorem nxt_dec {s : List UInt8} {st st' : Rs} (hk : st.now.kind ≠ 0) (h : nxt s st = .ok st') : mu s st' + 1 ≤ mu s st ∧ Iv st' := by
  obtain ⟨h1, h2⟩ := nxt_mu h
  refine ⟨?_, h2⟩
  unfold mu at h1 ⊢
  rw [if_neg hk]
  omega
theorem put_mu {s : List UInt8} {p : P10} {st st' : Rs} (h : putP p st = .ok st') : mu s st' = mu s st ∧ (Iv st → Iv st') := by
  unfold putP at h
  split at h
  · cases h
  · cases h; exact ⟨rfl, fun h => h⟩
theorem put_out (p : P10) (st : Rs) : putP p st ≠ .out := by
  intro h
  unfold putP at h
  split at h <;> cases h
theorem bind_out {α β : Type} {x : Ot α} {f : α → Ot β} (hx : x ≠ .out) (hf : ∀ a, x = .ok a → f a ≠ .out) : x.bind f ≠ .out := by
  cases x with
  | ok a => exact hf a rfl
  | no e a => exact fun h => by cases h
  | out => exact absurd rfl hx
theorem leaf_out (s : List UInt8) (op : Int) (v : V9) (st : Rs) : leaf s op v st ≠ .out := bind_out (nxt_out s st) (fun _ _ => put_out _ _)
theorem leaf_mu {s : List UInt8} {op : Int} {v : V9} {st st' : Rs} (hk : st.now.kind ≠ 0) (h : leaf s op v st = .ok st') : Iv st' ∧ mu s st' + 1 ≤ mu s st := by
  obtain ⟨a, h1, h2⟩ := bind_ok h
  obtain ⟨g1, g2⟩ := nxt_dec hk h1
  obtain ⟨g3, g4⟩ := put_mu (s := s) h2
  exact ⟨g4 g2, by omega⟩
theorem must_out (s m : List UInt8) (st : Rs) : must s m st ≠ .out := by
  unfold must
  split
  · exact nxt_out _ _
  · exact fun h => by cases h
theorem must_mu {s m : List UInt8} {st st' : Rs} (hi : Iv st) (hm : m ≠ []) (h : must s m st = .ok st') : Iv st' ∧ mu s st' + 1 ≤ mu s st := by
  unfold must at h
  split at h
  · rename_i he
    obtain ⟨g1, g2⟩ := nxt_dec (hi (by rw [he]; exact hm)) h
    exact ⟨g2, g1⟩
  · cases h
theorem twoH_nil : twoH [] = 0 := by decide
/-- what is known of a call -/
def Fu (s : List UInt8) (c d n : Nat) (st : Rs) (r : Ot Rs) : Prop := (4 * mu s st + c ≤ n → r ≠ .out) ∧ ∀ st', r = .ok st' → Iv st' ∧ mu s st' + d ≤ mu s st
theorem fu_all (s : List UInt8) : ∀ n, (∀ lv st, Iv st → Fu s 4 1 n st (opds s n lv st)) ∧ (∀ lv a st, Iv st → Fu s 1 0 n st (more s n lv a st)) ∧ (∀ st, Iv st → Fu s 3 1 n st (opd s n st)) ∧ (∀ w st, st.now.kind ≠ 0 → Fu s 2 1 n st (aftW s n w st)) ∧ (∀ m st, Iv st → st.now.kind ≠ 0 → Fu s 2 1 n st (aftM s n m st)) ∧ ∀ st, Iv st → Fu s 1 1 n st (inBr s n st) := by
  intro n
  induction n with
  | zero => exact ⟨fun _ _ _ => ⟨fun h => by omega, fun _ h => (by cases h)⟩, fun _ _ _ _ => ⟨fun h => by omega, fun _ h => (by cases h)⟩, fun _ _ => ⟨fun h => by omega, fun _ h => (by cases h)⟩, fun _ _ _ => ⟨fun h => by omega, fun _ h => (by cases h)⟩, fun _ _ _ _ => ⟨fun h => by omega, fun _ h => (by cases h)⟩, fun _ _ => ⟨fun h => by omega, fun _ h => (by cases h)⟩⟩
  | succ n ih =>
    obtain ⟨i1, i2, i3, i4, i5, i6⟩ := ih
    refine ⟨fun lv st hi => ?_, fun lv a st hi => ?_, fun st hi => ?_, fun w st hk => ?_, fun m st hi hk => ?_, fun st hi => ?_⟩
    · rw [opds]
      refine ⟨fun h => bind_out ((i3 st hi).1 (by omega)) fun a ha => ?_, fun st' h => ?_⟩
      · obtain ⟨g1, g2⟩ := (i3 st hi).2 a ha
        exact (i2 _ _ a g1).1 (by omega)
      · obtain ⟨a, h1, h2⟩ := bind_ok h
        obtain ⟨g1, g2⟩ := (i3 st hi).2 a h1
        obtain ⟨g3, g4⟩ := (i2 _ _ a g1).2 st' h2
        exact ⟨g3, by omega⟩
    · rw [more]
      try simp only
      split
      · exact ⟨fun _ h => (by cases h), fun st' h => by cases h; exact ⟨hi, by omega⟩⟩
      · rename_i hop
        have hk : st.now.kind ≠ 0 := hi (fun e => hop (.inl (by rw [e]; exact twoH_nil)))
        refine ⟨fun h => bind_out (nxt_out s st) fun a ha => ?_, fun st' h => ?_⟩
        · obtain ⟨g1, g2⟩ := nxt_dec hk ha
          refine bind_out ((i1 _ a g2).1 (by omega)) fun b hb => bind_out (put_out _ _) fun c hc => ?_
          obtain ⟨g3, g4⟩ := (i1 _ a g2).2 b hb
          obtain ⟨g5, g6⟩ := put_mu (s := s) hc
          exact (i2 _ _ c (g6 g3)).1 (by omega)
        · obtain ⟨a, h1, h2⟩ := bind_ok h
          obtain ⟨b, h3, h4⟩ := bind_ok h2
          obtain ⟨c, h5, h6⟩ := bind_ok h4
          obtain ⟨g1, g2⟩ := nxt_dec hk h1
          obtain ⟨g3, g4⟩ := (i1 _ a g2).2 b h3
          obtain ⟨g5, g6⟩ := put_mu (s := s) h5
          obtain ⟨g7, g8⟩ := (i2 _ _ c (g6 g3)).2 st' h6
          exact ⟨g7, by omega⟩
    · rw [opd]
      split
      · exact ⟨fun _ h => (by cases h), fun st' h => (by cases h)⟩
      · simp only
        have key : ∀ st2, mu s { st2 with nest := st2.nest - 1 } = mu s st2 := fun _ => rfl
        have k1 : mu s { st with nest := st.nest + 1 } = mu s st := rfl
        split
        · rename_i hk
          have hk' : ({ st with nest := st.nest + 1 } : Rs).now.kind ≠ 0 := by show st.now.kind ≠ 0; omega
          refine ⟨fun h => bind_out (leaf_out _ _ _ _) fun a ha h => (by cases h), fun st' h => ?_⟩
          obtain ⟨a, h1, h2⟩ := bind_ok h
          cases h2
          obtain ⟨g1, g2⟩ := leaf_mu hk' h1
          exact ⟨g1, by rw [key]; omega⟩
        · split
          · rename_i hk
            have hk' : ({ st with nest := st.nest + 1 } : Rs).now.kind ≠ 0 := by show st.now.kind ≠ 0; omega
            refine ⟨fun h => bind_out ((i4 _ _ hk').1 (by omega)) fun a ha h => (by cases h), fun st' h => ?_⟩
            obtain ⟨a, h1, h2⟩ := bind_ok h
            cases h2
            obtain ⟨g1, g2⟩ := (i4 _ _ hk').2 a h1
            exact ⟨g1, by rw [key]; omega⟩
          · split
            · rename_i hk
              have hk' : ({ st with nest := st.nest + 1 } : Rs).now.kind ≠ 0 := by show st.now.kind ≠ 0; omega
              have hi' : Iv { st with nest := st.nest + 1 } := hi
              refine ⟨fun h => bind_out ((i5 _ _ hi' hk').1 (by omega)) fun a ha h => (by cases h), fun st' h => ?_⟩
              obtain ⟨a, h1, h2⟩ := bind_ok h
              cases h2
              obtain ⟨g1, g2⟩ := (i5 _ _ hi' hk').2 a h1
              exact ⟨g1, by rw [key]; omega⟩
            · exact ⟨fun _ h => (by cases h), fun st' h => (by cases h)⟩
    · rw [aftW]
      split
      · exact ⟨fun _ h => (by cases h), fun st' h => (by cases h)⟩
      · split
        · exact ⟨fun _ => leaf_out _ _ _ _, fun st' h => leaf_mu hk h⟩
        · split
          · refine ⟨fun h => bind_out (nxt_out s st) fun a ha => ?_, fun st' h => ?_⟩
            · obtain ⟨g1, g2⟩ := nxt_dec hk ha
              exact bind_out ((i3 a g2).1 (by omega)) fun b hb => put_out _ _
            · obtain ⟨a, h1, h2⟩ := bind_ok h
              obtain ⟨b, h3, h4⟩ := bind_ok h2
              obtain ⟨g1, g2⟩ := nxt_dec hk h1
              obtain ⟨g3, g4⟩ := (i3 a g2).2 b h3
              obtain ⟨g5, g6⟩ := put_mu (s := s) h4
              exact ⟨g6 g3, by omega⟩
          · split
            · refine ⟨fun h => bind_out (nxt_out s st) fun a ha => ?_, fun st' h => ?_⟩
              · obtain ⟨g1, g2⟩ := nxt_dec hk ha
                exact bind_out ((i6 a g2).1 (by omega)) fun b hb => put_out _ _
              · obtain ⟨a, h1, h2⟩ := bind_ok h
                obtain ⟨b, h3, h4⟩ := bind_ok h2
                obtain ⟨g1, g2⟩ := nxt_dec hk h1
                obtain ⟨g3, g4⟩ := (i6 a g2).2 b h3
                obtain ⟨g5, g6⟩ := put_mu (s := s) h4
                exact ⟨g6 g3, by omega⟩
            · exact ⟨fun _ => leaf_out _ _ _ _, fun st' h => leaf_mu hk h⟩
    · rw [aftM]
      split
      · exact ⟨fun h => (i6 st hi).1 (by omega), (i6 st hi).2⟩
      · split
        · refine ⟨fun h => bind_out (nxt_out s st) fun a ha => ?_, fun st' h => ?_⟩
          · obtain ⟨g1, g2⟩ := nxt_dec hk ha
            exact bind_out ((i3 a g2).1 (by omega)) fun b hb => put_out _ _
          · obtain ⟨a, h1, h2⟩ := bind_ok h
            obtain ⟨b, h3, h4⟩ := bind_ok h2
            obtain ⟨g1, g2⟩ := nxt_dec hk h1
            obtain ⟨g3, g4⟩ := (i3 a g2).2 b h3
            obtain ⟨g5, g6⟩ := put_mu (s := s) h4
            exact ⟨g6 g3, by omega⟩
        · exact ⟨fun _ h => (by cases h), fun st' h => (by cases h)⟩
    · rw [inBr]
      refine ⟨fun h => bind_out (must_out _ _ _) fun a ha => ?_, fun st' h => ?_⟩
      · obtain ⟨g1, g2⟩ := must_mu hi (by simp) ha
        exact bind_out ((i1 _ a g1).1 (by omega)) fun b hb => must_out _ _ _
      · obtain ⟨a, h1, h2⟩ := bind_ok h
        obtain ⟨b, h3, h4⟩ := bind_ok h2
        obtain ⟨g1, g2⟩ := must_mu hi (by simp) h1
        obtain ⟨g3, g4⟩ := (i1 _ a g1).2 b h3
        obtain ⟨g5, g6⟩ := must_mu g3 (by simp) h4
        exact ⟨g5, by omega⟩
/-- what is read of a text, with fuel enough -/
theorem prs_some (s : List UInt8) {n : Nat} (hn : 4100 ≤ n) : ∃ r, prs n s = some r := by
  unfold prs
  split
  · exact ⟨_, rfl⟩
  · rename_i hs
    have : whol s n ≠ .out := by
      unfold whol
      refine bind_out (nxt_out _ _) fun a ha => ?_
      obtain ⟨h1, h2⟩ := nxt_mu ha
      refine bind_out (((fu_all s n).1 1 a h2).1 ?_) fun b _ => ?_
      · simp only at h1
        omega
      · split <;> exact fun h => by cases h
    split
    · exact ⟨_, rfl⟩
    · exact ⟨_, rfl⟩
    · rename_i h; exact absurd h this
end Go.Proofs.YtkbhngdabfoboaaGreatDoor.x10

/-
  Package expr's reader: leaves, marks that must be, operators.
-/
import Derived.Test.YtpdengbdnijcfaaGreatDoorX10Nx2
import Derived.Test.YtpdengbdnijcfaaGreatDoorX10Gd
namespace Go.Proofs.YtpdengbdnijcfaaGreatDoor.x10
open Go.RowKit Go.Shelf Go.Sort
open Go.Lib hiding intOf

theorem Rp.liftG {w W w' : World} {B b : Nat} {s : List UInt8} {pv pv1 : Value} {r : Ot Rs} {e : Ending} (L : Lf w b pv W pv1) (h : Rp W B b s pv1 r e w') : Rp w B b s pv r e w' := by
  have hz := L.ch.size
  unfold Rp at h ⊢
  split
  · obtain ⟨h1, pv', h2, h3⟩ := h
    exact ⟨h1, pv', h2, L.trans h3⟩
  · refine ⟨h.1, joinG L.ch h.2 (fun x hx e => ?_)⟩
    rcases e with e | e
    · exact .inl e
    · rcases L.nw x e with e | e
      · exact .inr e
      · omega
  · trivial
theorem tok_out {b : Nat} {l : List UInt8} : tok b l ≠ .out := by
  unfold tok
  split
  · simp
  · split
    · simp only; split <;> simp
    · split
      · simp only; split <;> simp
      · split
        · simp only; split <;> simp
        · split <;> simp
theorem nxt_out {s : List UInt8} {st : Rs} : nxt s st ≠ .out := by
  unfold nxt
  simp only
  split
  · simp
  · simp
  · rename_i h; exact absurd h tok_out
theorem put_out {p : P10} {st : Rs} : putP p st ≠ .out := by unfold putP; split <;> simp
theorem Rm.gx2 {w w' : World} {B b : Nat} {s : List UInt8} {st : Rs} {pv pv' : Value} (h : Rm w B b s st pv) (hg : Gx B w) (L : Lf w b pv w' pv') : Gx B w' := hg.below (h.gx L.ch)
/-- an ending of a call that went well -/
theorem Rp.good {w w' : World} {B b : Nat} {s : List UInt8} {pv : Value} {r : Ot Rs} {st' : Rs} {e : Ending} (h : Rp w B b s pv r e w') (hr : r = .ok st') : e = .returned (.tuple #[]) ∧ ∃ pv', Rm w' B b s st' pv' ∧ Lf w b pv w' pv' := by
  subst hr; exact h
theorem Rp.bad {w w' : World} {B b : Nat} {s : List UInt8} {pv : Value} {r : Ot Rs} {er a : Int} {e : Ending} (h : Rp w B b s pv r e w') (hr : r = .no er a) : e = .panicked (wrg er a) ∧ Ch (Fx b pv) w w' := by
  subst hr; exact h
def vA' (v : V9) : Value := .agg #[.int .i64 v.1, .int .i64 v.2.1, .string (S v.2.2)]

set_option maxHeartbeats 1000000 in
set_option maxRecDepth 100000 in
theorem leaf_any {w : World} {B b : Nat} {s : List UInt8} {st : Rs} {pv : Value} (h : Rm w B b s st pv) (hg : Gx B w) (hs : s.length ≤ 512) (hd : Gd s st) (op : Int) (v : V9) : Calls Tryz.prog 102 #[.pointer (some ⟨b, 0, none⟩), .int .i64 op, vA' v] w (Rp w B b s pv (leaf s op v st)) := by
  obtain ⟨v1, v2, v3⟩ := v
  have hbl := h.ob.lt
  obtain ⟨W1, hW1⟩ : ∃ W1, w.alloc (.cells #[.int .i64 v1, .int .i64 v2, .string (S v3)] 24) = W1 := ⟨_, rfl⟩
  have hb1 : Below w.heap.size w W1 := by rw [← hW1]; exact (Below.refl _ w).alloc (Nat.le_refl _) _
  have hcx : ∀ i, W1.cell? ⟨w.heap.size, i, none⟩ = (#[.int .i64 v1, .int .i64 v2, .string (S v3)] : Array Value)[i]? := fun i => by rw [← hW1]; exact World.cell?_alloc_new _ _ _ _
  have hzz : w.heap.size < W1.heap.size := by rw [← hW1]; simp
  have R1 := h.below hb1
  have L1 := Lf.of_below b pv hb1
  have hg1 := h.gx2 hg L1
  have CN := next_any R1 hg1 hs hd.b
  have HWE : Hid (_ = W1) := hW1
  have hvo : ∀ x, pv.ownBlock = some x → x < w.heap.size := fun x hx => by
    obtain ⟨_, cur, h1⟩ := row_obj h.row hx
    exact (Array.getElem?_eq_some_iff.1 h1).1
  unfold vA'
  simp only
  rcases hq : nxt s st with st1 | ⟨er, ea⟩ | _
  · have hgd := (nxt_ok hd hq).1
    have HQ : Hid (∀ e w', Rp W1 B b s pv (nxt s st) e w' → e = .returned (.tuple #[]) ∧ ∃ pv', Hid (Rm w' B b s st1 pv' ∧ Lf w b pv w' pv') ∧ (w'.cell? ⟨w.heap.size, 0, none⟩ = some (.int .i64 v1) ∧ w'.cell? ⟨w.heap.size, 1, none⟩ = some (.int .i64 v2) ∧ w'.cell? ⟨w.heap.size, 2, none⟩ = some (.string (S v3))) ∧ w.heap.size < w'.heap.size) := fun e w' hR => by
      obtain ⟨rfl, pv', k1, k2⟩ := hR.good hq
      have hne : ¬ Fx b pv w.heap.size := fun e => by
        rcases e with e | e
        · omega
        · have := hvo _ e; omega
      have hc : ∀ i, w'.cell? ⟨w.heap.size, i, none⟩ = W1.cell? ⟨w.heap.size, i, none⟩ := fun i => World.cell?_of_block (k2.ch.block _ hzz hne)
      exact ⟨rfl, pv', ⟨k1, L1.trans k2⟩, ⟨(hc 0).trans (hcx 0), (hc 1).trans (hcx 1), (hc 2).trans (hcx 2)⟩, by have := k2.ch.size; omega⟩
    have HPU : Hid (∀ W pv', Rm W B b s st1 pv' → Calls Tryz.prog 85 #[.pointer (some ⟨b, 0, none⟩), .agg #[.int .i64 op, .int .i64 (-1), .int .i64 (-1), .int .i64 v1, .int .i64 v2, .string (S v3)]] W (Rp W B b s pv' (putP (op, -1, -1, v1, v2, v3) st1))) := fun W pv' k => put_any k hgd.p (op, -1, -1, v1, v2, v3)
    have HEQ : Hid (leaf s op (v1, v2, v3) st = putP (op, -1, -1, v1, v2, v3) st1) := by show _ = _; unfold leaf; rw [hq]; rfl
    clear hq h hg R1 L1 hg1 hcx hd hb1 hW1
    rcases hq2 : putP (op, -1, -1, v1, v2, v3) st1 with st2 | ⟨er, ea⟩ | _
    · have HQ2 : Hid (∀ W pv' e w', Lf w b pv W pv' → Rp W B b s pv' (putP (op, -1, -1, v1, v2, v3) st1) e w' → e = .returned (.tuple #[]) ∧ Hid (Rp w B b s pv (leaf s op (v1, v2, v3) st) (.returned (.tuple #[])) w')) := fun W pv' e w' L hR => by
        have h1 := Rp.liftG L hR
        obtain ⟨rfl, -⟩ := hR.good hq2
        rw [HEQ.out]
        exact ⟨rfl, h1⟩
      clear hq2 HEQ
      go_enter Tryz.func102, Tryz.ntmps102
      go_wp2_with (first
        | (go_at_call 35; rw [HWE.out]; refine CN.mono ?_; rintro e w2 hR; obtain ⟨he, pv2, HR2, ⟨g0, g1, g2⟩, g3⟩ := HQ.out e w2 hR; subst he; have CP := HPU.out w2 pv2 HR2.out.1; clear hR CN)
        | (go_at_call 85; refine CP.mono ?_; rintro e w3 hR; obtain ⟨he, HX⟩ := HQ2.out _ _ e w3 HR2.out.2 hR; subst he; clear hR CP))
      first | go_end0 | refine bodyPost_ret (results_none rfl _ _ _) rfl ?_
      exact HX.out
    · have HQ2 : Hid (∀ W pv' e w', Lf w b pv W pv' → Rp W B b s pv' (putP (op, -1, -1, v1, v2, v3) st1) e w' → e = .panicked (wrg er ea) ∧ Hid (Rp w B b s pv (leaf s op (v1, v2, v3) st) (.panicked (wrg er ea)) w')) := fun W pv' e w' L hR => by
        have h1 := Rp.liftG L hR
        obtain ⟨rfl, -⟩ := hR.bad hq2
        rw [HEQ.out]
        exact ⟨rfl, h1⟩
      clear hq2 HEQ
      go_enter Tryz.func102, Tryz.ntmps102
      go_wp2_with (first
        | (go_at_call 35; rw [HWE.out]; refine CN.mono ?_; rintro e w2 hR; obtain ⟨he, pv2, HR2, ⟨g0, g1, g2⟩, g3⟩ := HQ.out e w2 hR; subst he; have CP := HPU.out w2 pv2 HR2.out.1; clear hR CN)
        | (go_at_call 85; refine CP.mono ?_; rintro e w3 hR; obtain ⟨he, HX⟩ := HQ2.out _ _ e w3 HR2.out.2 hR; subst he; clear hR CP))
      exact ⟨rfl, HX.out⟩
    · exact absurd hq2 put_out
  · have HQ : Hid (∀ e w', Rp W1 B b s pv (nxt s st) e w' → e = .panicked (wrg er ea) ∧ Hid (Rp w B b s pv (leaf s op (v1, v2, v3) st) (.panicked (wrg er ea)) w')) := fun e w' hR => by
      have h1 := Rp.liftG L1 hR
      obtain ⟨rfl, -⟩ := hR.bad hq
      refine ⟨rfl, ?_⟩
      show Rp _ _ _ _ _ _ _ _
      unfold leaf
      rw [hq] at h1 ⊢
      exact h1
    clear hq h hg R1 L1 hg1 hcx hd hb1 hW1
    go_enter Tryz.func102, Tryz.ntmps102
    go_wp2_with (go_at_call 35; rw [HWE.out]; refine CN.mono ?_; rintro e w2 hR; obtain ⟨he, HX⟩ := HQ.out e w2 hR; subst he; clear hR CN)
    exact ⟨rfl, HX.out⟩
  · exact absurd hq nxt_out
end Go.Proofs.YtpdengbdnijcfaaGreatDoor.x10

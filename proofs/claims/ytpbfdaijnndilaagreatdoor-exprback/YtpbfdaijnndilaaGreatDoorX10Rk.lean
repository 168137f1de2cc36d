/-
  Package expr's reckoner: what a part comes to, plain; what it holds in memory; variables.
-/
import Derived.Test.YtpbfdaijnndilaaGreatDoorX10Do2
import Derived.Test.YtpbfdaijnndilaaGreatDoorGMayE
import Derived.Test.YtpbfdaijnndilaaGreatDoorGExprS
import Derived.Test.YtpbfdaijnndilaaGreatDoorGGetV
namespace Go.Proofs.YtpbfdaijnndilaaGreatDoor.x10
open Go.RowKit Go.Shelf Go.Sort
open Go.Lib hiding intOf

/-- what a variable comes to -/
def varR (vs : List Vr) (s : List UInt8) : Ot V9 := if (getV vs (S s)).2 = true then .ok (getV vs (S s)).1 else .no 15 0
/-- what a part comes to -/
def rk (l : List P10) (vs : List Vr) : Nat → Nat → Ot V9
  | 0, _ => .out
  | n + 1, i => match l[i]? with
    | none => .out
    | some p => if p.1 = 1 then .ok p.2.2.2 else if p.1 = 2 then varR vs p.2.2.2.2.2 else
      (rk l vs n p.2.1.toNat).bind fun a => if dcd p.1 a = true then .ok a else
        (if 0 ≤ p.2.2.1 then rk l vs n p.2.2.1.toNat else .ok v0).bind fun b => if kof p.1 a.1 b.1 = 0 then .no 9 0 else opV p.1 a b
theorem rk_succ {l : List P10} {vs : List Vr} {n i : Nat} (hi : i < l.length) : rk l vs (n + 1) i = if l[i].1 = 1 then .ok l[i].2.2.2 else if l[i].1 = 2 then varR vs l[i].2.2.2.2.2 else
      (rk l vs n l[i].2.1.toNat).bind fun a => if dcd l[i].1 a = true then .ok a else
        (if 0 ≤ l[i].2.2.1 then rk l vs n l[i].2.2.1.toNat else .ok v0).bind fun b => if kof l[i].1 a.1 b.1 = 0 then .no 9 0 else opV l[i].1 a b := by
  conv => lhs; unfold rk
  rw [List.getElem?_eq_getElem hi]
/-- texts are short -/
def Sml (v : V9) : Prop := v.2.2.length ≤ 1024
theorem getV_small {vs : List Vr} {k : ByteArray} (h : ∀ x ∈ vs, Sml x.2) : Sml (getV vs k).1 := by
  rcases get_ways vs k with ⟨i, hi, -, -, e⟩ | ⟨-, e⟩
  · rw [e]; exact h _ (List.getElem_mem hi)
  · rw [e]; exact Nat.zero_le _
theorem sum_small {a b v : V9} (h : sumV a b = .ok v) : Sml v := by
  unfold sumV at h
  split at h
  · cases h; exact Nat.zero_le _
  · split at h
    · cases h
    · cases h; show (a.2.2 ++ b.2.2).length ≤ 1024; rw [List.length_append]; omega
theorem opV_ind {C : Ot V9 → Prop} (op : Int) (a b : V9) (h1 : ∀ n, C (.ok (nm n))) (h2 : ∀ x, C (.ok (tr x))) (h3 : C (.no 11 0)) (h4 : C (sumV a b)) (h5 : C (.ok b)) : C (opV op a b) := by
  unfold opV
  by_cases c3 : op = 3
  · rw [if_pos c3]
    exact h1 _
  rw [if_neg c3]
  by_cases c4 : op = 4
  · rw [if_pos c4]
    exact h2 _
  rw [if_neg c4]
  by_cases c5 : op = 5
  · rw [if_pos c5]
    exact h1 _
  rw [if_neg c5]
  by_cases c6 : op = 6
  · rw [if_pos c6]
    exact h1 _
  rw [if_neg c6]
  by_cases c7 : op = 7
  · rw [if_pos c7]
    split
    · exact h3
    · exact h1 _
  rw [if_neg c7]
  by_cases c8 : op = 8
  · rw [if_pos c8]
    split
    · exact h3
    · exact h1 _
  rw [if_neg c8]
  by_cases c9 : op = 9
  · rw [if_pos c9]
    exact h4
  rw [if_neg c9]
  by_cases c10 : op = 10
  · rw [if_pos c10]
    exact h1 _
  rw [if_neg c10]
  by_cases c11 : op = 11
  · rw [if_pos c11]
    exact h2 _
  rw [if_neg c11]
  by_cases c12 : op = 12
  · rw [if_pos c12]
    exact h2 _
  rw [if_neg c12]
  by_cases c13 : op = 13
  · rw [if_pos c13]
    exact h2 _
  rw [if_neg c13]
  by_cases c14 : op = 14
  · rw [if_pos c14]
    exact h2 _
  rw [if_neg c14]
  by_cases c15 : op = 15
  · rw [if_pos c15]
    exact h2 _
  rw [if_neg c15]
  by_cases c16 : op = 16
  · rw [if_pos c16]
    exact h2 _
  rw [if_neg c16]
  exact h5
theorem opV_small {op : Int} {a b v : V9} (hb : Sml b) (h : opV op a b = .ok v) : Sml v := by
  revert h
  refine opV_ind (C := fun r => r = .ok v → Sml v) op a b ?_ ?_ ?_ ?_ ?_
  · intro n h; cases h; exact Nat.zero_le _
  · intro x h; cases h; exact Nat.zero_le _
  · intro h; cases h
  · intro h; exact sum_small h
  · intro h; cases h; exact hb
theorem hol_small {p : P10} (h : hol p = true) : Sml p.2.2.2 := by
  unfold hol at h
  split at h
  · rw [Bool.and_eq_true] at h; exact may_len h.1
  · split at h
    · rw [Bool.and_eq_true] at h
      have h2 := nam_len h.1
      show p.2.2.2.2.2.length ≤ 1024
      omega
    · have h2 := eq_of_beq h
      show p.2.2.2.2.2.length ≤ 1024
      rw [h2]; exact Nat.zero_le _
theorem rk_small {l : List P10} {vs : List Vr} (hw : ∀ (i : Nat) (hi : i < l.length), Wg i l[i]) (hv : ∀ x ∈ vs, Sml x.2) : ∀ (n i : Nat) (v : V9), rk l vs n i = .ok v → Sml v
  | 0, _, _, h => by cases h
  | n + 1, i, v, h => by
    by_cases hi : i < l.length
    · rw [rk_succ hi] at h
      split at h
      · cases h; exact hol_small (hw i hi).v
      · split at h
        · unfold varR at h
          split at h
          · cases h; exact getV_small hv
          · cases h
        · cases ha : rk l vs n l[i].2.1.toNat with
          | no e x => rw [ha] at h; cases h
          | out => rw [ha] at h; cases h
          | ok a =>
            rw [ha] at h
            simp only [Ot.bind] at h
            split at h
            · cases h; exact rk_small hw hv n _ _ ha
            · cases hb : (if 0 ≤ l[i].2.2.1 then rk l vs n l[i].2.2.1.toNat else Ot.ok v0) with
              | no e x => rw [hb] at h; cases h
              | out => rw [hb] at h; cases h
              | ok b =>
                rw [hb] at h
                simp only at h
                split at h
                · cases h
                · refine opV_small ?_ h
                  split at hb
                  · exact rk_small hw hv n _ _ hb
                  · cases hb; exact Nat.zero_le _
    · unfold rk at h
      rw [List.getElem?_eq_none (by omega)] at h
      cases h
theorem sum_out (a b : V9) : sumV a b ≠ .out := by
  unfold sumV
  split
  · intro h; cases h
  · split <;> (intro h; cases h)
theorem opV_out (op : Int) (a b : V9) : opV op a b ≠ .out :=
  opV_ind (C := fun r => r ≠ .out) op a b (fun _ h => by cases h) (fun _ h => by cases h) (fun h => by cases h) (sum_out a b) (fun h => by cases h)
theorem rk_bind_out {α β : Type} {x : Ot α} {f : α → Ot β} (hx : x ≠ .out) (hf : ∀ v, x = .ok v → f v ≠ .out) : x.bind f ≠ .out := by
  cases x with
  | ok v => exact hf v rfl
  | no e a => intro h; cases h
  | out => exact absurd rfl hx
theorem rk_out {l : List P10} {vs : List Vr} (hw : ∀ (i : Nat) (hi : i < l.length), Wg i l[i]) : ∀ (n i : Nat), i < n → i < l.length → rk l vs n i ≠ .out
  | 0, _, h, _ => absurd h (Nat.not_lt_zero _)
  | n + 1, i, hn, hi => by
    rw [rk_succ hi]
    have hg := hw i hi
    split
    · simp
    · split
      · unfold varR; split <;> simp
      · rename_i h1 h2
        have ha : ∃ a : Nat, a < i ∧ l[i].2.1 = (a : Int) := by
          have h0 := hg.h
          rcases Int.lt_or_le (hnd l[i].1) 1 with h3 | h3
          · have h4 : hnd l[i].1 = 0 := by omega
            have := hnd_op h0
            unfold hnd at h4
            rw [if_neg (by omega)] at h4
            split at h4 <;> first | omega | (split at h4 <;> omega)
          · rcases Int.lt_or_le (hnd l[i].1) 2 with h4 | h4
            · exact (hg.o (by omega)).1
            · have : hnd l[i].1 ≤ 2 := (hnd_le _).2
              exact (hg.t (by omega)).1
        have hb : ∀ h : 0 ≤ l[i].2.2.1, l[i].2.2.1.toNat < i := fun h => by
          have h0 := hg.h
          have h5 := (hnd_le l[i].1).2
          rcases (show hnd l[i].1 = 0 ∨ hnd l[i].1 = 1 ∨ hnd l[i].1 = 2 by omega) with q | q | q
          · have := (hg.z q).2; omega
          · have := (hg.o q).2; omega
          · obtain ⟨b, h6, h7⟩ := (hg.t q).2; omega
        obtain ⟨a, ha1, ha2⟩ := ha
        refine rk_bind_out ?_ (fun x _ => ?_)
        · rw [ha2]; exact rk_out hw n a (by omega) (by omega)
        · split
          · simp
          · refine rk_bind_out ?_ (fun y _ => ?_)
            · split
              · rename_i h8
                have := hb h8
                exact rk_out hw n _ (by omega) (by omega)
              · simp
            · split
              · simp
              · exact opV_out _ _ _
/-- a reckoner in a block -/
structure Rk (w : World) (rb : Nat) (xv vv : Value) (l : List P10) (vs : List Vr) : Prop where
  c0 : w.cell? ⟨rb, 0, none⟩ = some xv
  c1 : w.cell? ⟨rb, 1, none⟩ = some vv
  mp : ∃ mb, w.cell? ⟨rb, 2, none⟩ = some (.map (some mb)) ∧ Em w mb
  lt : rb < w.heap.size
  es : Es w xv l
  vs : Vs w vv vs
theorem Rk.up {w w' : World} {rb : Nat} {xv vv : Value} {l : List P10} {vs : List Vr} (h : Rk w rb xv vv l vs) (hb : Below w.heap.size w w') : Rk w' rb xv vv l vs := by
  obtain ⟨mb, m1, m2⟩ := h.mp
  exact ⟨(hb.cell (p := ⟨rb, 0, none⟩) h.lt).trans h.c0, (hb.cell (p := ⟨rb, 1, none⟩) h.lt).trans h.c1, ⟨mb, (hb.cell (p := ⟨rb, 2, none⟩) h.lt).trans m1, m2.below hb⟩, Nat.lt_of_lt_of_le h.lt hb.size, h.es.below hb, h.vs.up hb⟩
set_option maxHeartbeats 2000000 in
set_option maxRecDepth 100000 in
theorem variable_any {w : World} {rb : Nat} {xv vv : Value} {l : List P10} {vs : List Vr} (h : Rk w rb xv vv l vs) (hn : vs.length ≤ 16) (s : List UInt8) : Calls Tryz.prog 88 #[.pointer (some ⟨rb, 0, none⟩), .string (S s)] w (Vp w (varR vs s)) := by
  have c1 := (h.up ((Below.refl _ w).alloc (Nat.le_refl _) (.cells #[.int .i64 0, .int .i64 0, .string ⟨#[]⟩] 48))).c1
  obtain ⟨W1, hW1⟩ : ∃ W1, w.alloc (.cells #[.int .i64 0, .int .i64 0, .string ⟨#[]⟩] 48) = W1 := ⟨_, rfl⟩
  have hb1 : Below w.heap.size w W1 := by rw [← hW1]; exact (Below.refl _ w).alloc (Nat.le_refl _) _
  have hs1 : W1.heap.size = w.heap.size + 1 := by rw [← hW1]; simp
  have ho1 : W1.heap[w.heap.size]? = some (.cells #[.int .i64 0, .int .i64 0, .string ⟨#[]⟩] 48 (0, 0)) := by rw [← hW1]; exact heap_alloc_new w _
  have CG := Get_any (S s) (h.vs.up hb1) (by omega)
  have CU := giveUp_any 15 0
  have HV : Hid (varR vs s = if (getV vs (S s)).2 = true then .ok (getV vs (S s)).1 else .no 15 0) := by show _ = _; rfl
  have HB : Hid (Below w.heap.size w W1 ∧ W1.heap.size = w.heap.size + 1 ∧ W1.heap[w.heap.size]? = some (.cells #[.int .i64 0, .int .i64 0, .string ⟨#[]⟩] 48 (0, 0))) := ⟨hb1, hs1, ho1⟩
  have HW : Hid (_ = W1) := hW1
  obtain ⟨va, vn, vc, hvv⟩ : ∃ a n c, vv = .slice a n c := by obtain ⟨a, c, e, -⟩ := h.vs; exact ⟨a, _, c, e⟩
  subst hvv
  clear h hb1 hs1 ho1 hW1
  obtain ⟨g, hg⟩ : ∃ g, getV vs (S s) = g := ⟨_, rfl⟩
  rw [hg] at CG HV
  clear hg
  obtain ⟨⟨g1, g2, g3⟩, gb⟩ := g
  unfold gA vA at CG
  simp only at CG HV
  have HK : Hid (∀ W, Below W1.heap.size W1 W → (W.cell? ⟨w.heap.size, 0, none⟩ = some (.int .i64 0) ∧ W.cell? ⟨w.heap.size, 1, none⟩ = some (.int .i64 0) ∧ W.cell? ⟨w.heap.size, 2, none⟩ = some (.string ⟨#[]⟩)) ∧ (W.frozen? ⟨w.heap.size, 0, none⟩ = false ∧ W.frozen? ⟨w.heap.size, 1, none⟩ = false ∧ W.frozen? ⟨w.heap.size, 2, none⟩ = false) ∧ w.heap.size < W.heap.size ∧ Below w.heap.size w W) := fun W hW => by
    have h3 := (hW.block w.heap.size (by have := HB.out.2.1; omega)).trans HB.out.2.2
    exact ⟨⟨by simp [World.cell?, h3], by simp [World.cell?, h3], by simp [World.cell?, h3]⟩, ⟨by simp [World.frozen?, h3], by simp [World.frozen?, h3], by simp [World.frozen?, h3]⟩, by have := HB.out.2.1; have := hW.size; omega, bel_of HB.out.1 hW (Nat.le_refl _)⟩
  cases gb with
  | true =>
    go_enter Tryz.func88, Tryz.ntmps88
    go_wp2_with (go_at_call 115; rw [HW.out]; refine CG.mono ?_; rintro e w2 ⟨rfl, hb2⟩; obtain ⟨⟨d0, d1, d2⟩, ⟨f0, f1, f2⟩, hl2, hbw⟩ := HK.out w2 hb2; (have HBW : Hid (Below w.heap.size w w2) := hbw); clear hb2 hbw CG)
    rw [HV.out]
    refine bodyPost_ret (v := .agg #[.int .i64 g1, .int .i64 g2, .string (S g3)]) (by simp [results, Tryz.results88, go_sem, d0, d1, d2, hl2]) rfl ⟨rfl, ?_⟩
    have c := (((Ch.refl (fun k => k = w.heap.size) w2).setCell ⟨w.heap.size, 0, none⟩ (.int .i64 g1) (fun _ => rfl)).setCell ⟨w.heap.size, 1, none⟩ (.int .i64 g2) (fun _ => rfl)).setCell ⟨w.heap.size, 2, none⟩ (.string (S g3)) (fun _ => rfl)
    have hb := HBW.out.trans (below_of_ch c HBW.out.size (fun k hk e => by omega))
    exact hb.alloc hb.size _
  | false =>
    go_enter Tryz.func88, Tryz.ntmps88
    go_wp2_with (first
      | (go_at_call 115; rw [HW.out]; refine CG.mono ?_; rintro e w2 ⟨rfl, hb2⟩; (have HBW : Hid (Below w.heap.size w w2) := (HK.out w2 hb2).2.2.2); clear hb2 CG)
      | (go_at_call 65; refine (CU _).mono ?_; rintro e w3 ⟨rfl, hw3⟩; rw [hw3]; clear hw3))
    rw [HV.out]
    exact ⟨rfl, rfl, HBW.out.alloc HBW.out.size _⟩
end Go.Proofs.YtpbfdaijnndilaaGreatDoor.x10

/-
  Package expr: how much a part's text nests.
-/
import Derived.Test.YtpbfdaijnndilaaGreatDoorX10Shp
namespace Go.Proofs.YtpbfdaijnndilaaGreatDoor.x10
open Go.RowKit Go.Shelf Go.Sort
open Go.Lib hiding intOf

/-- the operator of the part at a place -/
def opAt (l : List P10) (j : Int) : Int := ((l[j.toNat]?).getD (0, 0, 0, v0)).1
def lvI (op : Int) : Int := lvl op.toNat
def lbr (l : List P10) (p : P10) : Bool := decide (lvI (opAt l p.2.1) < lvI p.1)
def rbr (l : List P10) (p : P10) : Bool := decide (lvI (opAt l p.2.2.1) ≤ lvI p.1)
/-- how many operands are within one another in a part's text -/
def nst (l : List P10) (p : P10) (a b : Int) : Int :=
  if hnd p.1 = 0 then 1 else if hnd p.1 = 1 then (if p.1 ≠ 5 ∧ lbr l p = true then a + 1 else a) + 1
  else max (if lbr l p = true then a + 1 else a) (if rbr l p = true then b + 1 else b)
/-- a place of a part that a part is of -/
def Plc (l : List P10) (i : Nat) (x : Int) : Prop := ∃ a : Nat, ∃ _ : a < i, ∃ h : a < l.length, x = (a : Int) ∧ 1 ≤ l[a].1 ∧ l[a].1 ≤ 18
/-- a part as May leaves it -/
structure Wf (l : List P10) (i : Nat) (p : P10) : Prop where
  at' : l[i]? = some p
  op : 1 ≤ p.1 ∧ p.1 ≤ 18
  a : 1 ≤ hnd p.1 → Plc l i p.2.1
  b : hnd p.1 = 2 → Plc l i p.2.2.1
theorem hnd_cases {op : Int} (h : 1 ≤ op ∧ op ≤ 18) : (hnd op = 0 ∧ op ≤ 2) ∨ (hnd op = 1 ∧ 3 ≤ op ∧ op ≤ 5) ∨ (hnd op = 2 ∧ 6 ≤ op) := by
  unfold hnd
  rw [if_neg (by omega)]
  split
  · exact .inl ⟨rfl, by omega⟩
  · split
    · exact .inr (.inl ⟨rfl, by omega, by omega⟩)
    · exact .inr (.inr ⟨rfl, by omega⟩)
theorem left_wf {w : World} {B : Nat} {v : Value} {l : List P10} (hE : Es w v l) (hg : Gx B w) {i : Nat} {p : P10} (h : Wf l i p) (hh : 1 ≤ hnd p.1) : Calls Tryz.prog 54 #[v, .int .i64 (i : Int)] w fun e w' => e = .returned (.bool (lbr l p)) ∧ Below w.heap.size w w' := by
  obtain ⟨hi, hp⟩ := List.getElem?_eq_some_iff.1 h.at'
  obtain ⟨a, -, ha, hA, hl1, hl2⟩ := h.a hh
  have ho := h.op
  subst hp
  have := left_any hE hg i hi a (l[a].1.toNat) (l[i].1.toNat) ha hA (by omega) (by omega) (by omega) (by omega)
  refine this.mono ?_
  rintro e w' ⟨rfl, hb⟩
  refine ⟨?_, hb⟩
  unfold lbr lvI opAt
  rw [hA]
  simp [ha]
theorem right_wf {w : World} {B : Nat} {v : Value} {l : List P10} (hE : Es w v l) (hg : Gx B w) {i : Nat} {p : P10} (h : Wf l i p) (hh : hnd p.1 = 2) : Calls Tryz.prog 55 #[v, .int .i64 (i : Int)] w fun e w' => e = .returned (.bool (rbr l p)) ∧ Below w.heap.size w w' := by
  obtain ⟨hi, hp⟩ := List.getElem?_eq_some_iff.1 h.at'
  obtain ⟨a, -, ha, hA, hl1, hl2⟩ := h.b hh
  have ho := h.op
  subst hp
  have := right_any hE hg i hi a (l[a].1.toNat) (l[i].1.toNat) ha hA (by omega) (by omega) (by omega) (by omega)
  refine this.mono ?_
  rintro e w' ⟨rfl, hb⟩
  refine ⟨?_, hb⟩
  unfold rbr lvI opAt
  rw [hA]
  simp [ha]

set_option maxHeartbeats 1000000 in
set_option maxRecDepth 100000 in
theorem nested_any {w : World} {B : Nat} {v : Value} {l : List P10} (hE : Es w v l) (hg : Gx B w) (hB : B ≤ w.heap.size) {i : Nat} {p : P10} (h : Wf l i p) (a b : Int) (ha : 0 ≤ a ∧ a ≤ 1000000) (hb : 0 ≤ b ∧ b ≤ 1000000) : Calls Tryz.prog 33 #[v, .int .i64 (i : Int), .int .i64 a, .int .i64 b] w fun e w' => e = .returned (.int .i64 (nst l p a b)) ∧ Below w.heap.size w w' := by
  obtain ⟨hi, hp⟩ := List.getElem?_eq_some_iff.1 h.at'
  obtain ⟨bl, off, cap, rfl, hbl, hc⟩ := hE.at hi
  obtain ⟨c0, -⟩ := hc i hi
  rw [hp] at c0
  have i1 : (0 : Int) ≤ (i : Int) := by omega
  have i2 : (i : Int) < (l.length : Int) := by omega
  have CH := hands_any p.1
  have HE : Hid (Es w (.slice (some ⟨bl, off, none⟩) l.length cap) l) := hE
  have wa1 : IntKind.i64.wrap (a + 1) = a + 1 := by rw [IntKind.wrap_i64]; omega
  have wa2 : IntKind.i64.wrap (a + 1 + 1) = a + 1 + 1 := by rw [IntKind.wrap_i64]; omega
  have wb1 : IntKind.i64.wrap (b + 1) = b + 1 := by rw [IntKind.wrap_i64]; omega
  rcases hnd_cases h.op with ⟨hh, -⟩ | ⟨hh, -⟩ | ⟨hh, h6⟩
  · have HN : Hid (nst l p a b = 1) := if_pos hh
    rw [hh] at CH
    clear hc hp hh
    generalize l.length = n at *
    go_enter Tryz.func33, Tryz.ntmps33
    go_wp2_with (go_at_call 59; refine (CH _).mono ?_; rintro e w1 ⟨rfl, hw1⟩; rw [hw1]; clear hw1 CH)
    go_ret
    rw [HN.out]
    exact ⟨rfl, Below.refl _ _⟩
  · have CL := left_wf hE hg h (by omega)
    have HN0 : Hid (nst l p a b = (if p.1 ≠ 5 ∧ lbr l p = true then a + 1 else a) + 1) := by
      show _ = _
      unfold nst
      rw [if_neg (by omega), if_pos hh]
    rw [hh] at CH
    generalize lbr l p = q at *
    obtain ⟨o, ho⟩ : ∃ o, p.1 = o := ⟨_, rfl⟩
    rw [ho] at c0 CH HN0
    by_cases h5 : o = 5
    · have HN : Hid (nst l p a b = a + 1) := by
        show _ = _
        rw [HN0.out, if_neg (fun e => e.1 h5)]
      clear ho
      subst h5
      clear hc hp hh HN0 CL h hE
      generalize l.length = n at *
      go_enter Tryz.func33, Tryz.ntmps33
      go_wp2_with (go_at_call 59; refine (CH _).mono ?_; rintro e w1 ⟨rfl, hw1⟩; rw [hw1]; clear hw1 CH)
      go_ret
      rw [HN.out]
      exact ⟨rfl, Below.refl _ _⟩
    · have b5 : (o == 5) = false := beq_eq_false_iff_ne.2 h5
      clear ho
      cases q with
      | true =>
        have HN : Hid (nst l p a b = a + 1 + 1) := by
          show _ = _
          rw [HN0.out, if_pos ⟨h5, rfl⟩]
        clear hc hp hh HN0 h hE
        generalize l.length = n at *
        go_enter Tryz.func33, Tryz.ntmps33
        go_wp2_with (first
          | (go_at_call 59; refine (CH _).mono ?_; rintro e w1 ⟨rfl, hw1⟩; rw [hw1]; clear hw1 CH)
          | (go_at_call 54; refine CL.mono ?_; rintro e w2 ⟨rfl, hb2⟩; have HB2 : Hid (Below w.heap.size w w2) := hb2; clear hb2 CL))
        go_ret
        rw [HN.out]
        exact ⟨rfl, HB2.out⟩
      | false =>
        have HN : Hid (nst l p a b = a + 1) := by
          show _ = _
          rw [HN0.out, if_neg (fun e => by cases e.2)]
        clear hc hp hh HN0 h hE
        generalize l.length = n at *
        go_enter Tryz.func33, Tryz.ntmps33
        go_wp2_with (first
          | (go_at_call 59; refine (CH _).mono ?_; rintro e w1 ⟨rfl, hw1⟩; rw [hw1]; clear hw1 CH)
          | (go_at_call 54; refine CL.mono ?_; rintro e w2 ⟨rfl, hb2⟩; have HB2 : Hid (Below w.heap.size w w2) := hb2; clear hb2 CL))
        go_ret
        rw [HN.out]
        exact ⟨rfl, HB2.out⟩
  · have CL := left_wf hE hg h (by omega)
    have HRI : Hid (∀ w1, Below w.heap.size w w1 → Calls Tryz.prog 55 #[.slice (some ⟨bl, off, none⟩) l.length cap, .int .i64 (i : Int)] w1 fun e w' => e = .returned (.bool (rbr l p)) ∧ Below w.heap.size w w') := fun w1 hb1 => (right_wf (hE.below hb1) (hg.below (hb1.mono hB)) h hh).mono (by
      rintro e w' ⟨rfl, hb2⟩
      exact ⟨rfl, hb1.trans (hb2.mono hb1.size)⟩)
    have HN : Hid (nst l p a b = max (if lbr l p = true then a + 1 else a) (if rbr l p = true then b + 1 else b)) := by
      show _ = _
      unfold nst
      rw [if_neg (by omega), if_neg (by omega)]
    rw [hh] at CH
    generalize lbr l p = q at *
    generalize rbr l p = q2 at *
    clear hc hp hh h6 hE
    generalize l.length = n at *
    cases q <;> cases q2 <;>
    · go_enter Tryz.func33, Tryz.ntmps33
      go_wp2_with (first
        | (go_at_call 59; refine (CH _).mono ?_; rintro e w1 ⟨rfl, hw1⟩; rw [hw1]; clear hw1 CH)
        | (go_at_call 54; refine CL.mono ?_; rintro e w2 ⟨rfl, hb2⟩; have CR := HRI.out w2 hb2; clear hb2 CL)
        | (go_at_call 55; refine CR.mono ?_; rintro e w3 ⟨rfl, hb3⟩; have HB2 : Hid (Below w.heap.size w w3) := hb3; clear hb3 CR))
      go_ret
      rw [HN.out]
      exact ⟨by simp, HB2.out⟩
end Go.Proofs.YtpbfdaijnndilaaGreatDoor.x10

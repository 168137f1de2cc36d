/-
  Proved: for every text and every key RunOpens answers true, and changes nothing that was there before the call: whatever bytes there are, package run opens them, or refuses them, as the document says; its keys are told from the first on and from any key on, found or not found, and counted. No condition.
-/
import Derived.Test.YtiaeicfmdnmeeaaH7Told
import Derived.Test.YtiaeicfmdnmeeaaH7RefP
import Derived.Test.YtiaeicfmdnmeeaaH7Args
import Derived.Lib.SmallJoins
namespace Go.Proofs.Ytiaeicfmdnmeeaa.runOpens
open Go.ChangeShapes Go.WideShapes Go.ChangeAt Go.RowKit
open Go.ChangeMaps (open_string shut_string)

/-- was the key found among the first i rows; its cell then -/
def fnd (l : List R7) (k : ByteArray) (i : Nat) : Bool := is7 l k && decide (at7 l k < i)
def wnt (l : List R7) (k : ByteArray) (i : Nat) : List UInt8 × Bool := if fnd l k i = true then (get7 l k).1 else ([], false)
theorem fnd_zero (l : List R7) (k : ByteArray) : fnd l k 0 = false := by simp [fnd]
theorem wnt_zero (l : List R7) (k : ByteArray) : wnt l k 0 = ([], false) := by unfold wnt; rw [fnd_zero]; rfl
section
variable {l : List R7} {k : ByteArray} {i : Nat}
theorem hit (hR : Rise (ks l)) (hi : i < l.length) (h : S l[i].1 = k) : fnd l k (i + 1) = true ∧ wnt l k (i + 1) = l[i].2 := by
  subst h
  have e := at7_mem hR hi
  have g := get7_mem hR hi
  have h1 : is7 l (S l[i].1) = true := by
    cases hh : is7 l (S l[i].1) with
    | true => rfl
    | false =>
      rw [get7_no hh] at g
      simp only [Prod.mk.injEq] at g
      exact absurd g.2 (by decide)
  have h2 : fnd l (S l[i].1) (i + 1) = true := by unfold fnd; rw [h1, e]; simp
  refine ⟨h2, ?_⟩
  unfold wnt
  rw [if_pos h2, g]
theorem miss (hi : i < l.length) (h : S l[i].1 ≠ k) : fnd l k (i + 1) = fnd l k i ∧ wnt l k (i + 1) = wnt l k i := by
  have h1 : fnd l k (i + 1) = fnd l k i := by
    unfold fnd
    cases hh : is7 l k with
    | false => rfl
    | true =>
      obtain ⟨hp, e, -⟩ := is7_lt hh
      have : at7 l k ≠ i := fun e2 => h (by rw [← e]; simp only [e2])
      rw [Bool.true_and, Bool.true_and, Bool.eq_iff_iff]
      simp
      omega
  exact ⟨h1, by unfold wnt; rw [h1]⟩
theorem ended (l : List R7) (k : ByteArray) : fnd l k l.length = (get7 l k).2 ∧ wnt l k l.length = (get7 l k).1 := by
  unfold wnt fnd
  cases hh : is7 l k with
  | false => rw [get7_no hh]; simp
  | true =>
    obtain ⟨hp, e, g⟩ := is7_lt hh
    rw [g]
    simp [hp]
end
/-- what stands in the loop: the boxes of c and of want, from block N on -/
structure Wb (w7 wr : World) (c q : List UInt8 × Bool) : Prop where
  b0 : wr.heap[w7.heap.size]? = some (.cells #[.string (S c.1), .bool c.2] 37 (0, 0))
  b1 : wr.heap[w7.heap.size + 1]? = some (.cells #[.string (S q.1), .bool q.2] 37 (0, 0))
  bw : Below w7.heap.size w7 wr
theorem Wb.new (w7 : World) (c : List UInt8 × Bool) : Wb w7 ((w7.alloc (.cells #[.string (S c.1), .bool c.2] 37)).alloc (.cells #[.string ⟨#[]⟩, .bool false] 37)) c ([], false) := by
  refine ⟨(Below.heap_alloc _ _ _ (by simp)).trans (heap_alloc_new _ _), ?_, ((Below.refl _ w7).alloc (Nat.le_refl _) _).alloc (by simp) _⟩
  have := heap_alloc_new (w7.alloc (.cells #[.string (S c.1), .bool c.2] 37)) (.cells #[.string ⟨#[]⟩, .bool false] 37)
  rw [World.size_alloc] at this
  exact this
theorem Wb.set {w7 wr : World} {c q : List UInt8 × Bool} (h : Wb w7 wr c q) (x : List UInt8 × Bool) : Wb w7 ((wr.setCell ⟨w7.heap.size + 1, 0, none⟩ (.string (S x.1))).setCell ⟨w7.heap.size + 1, 1, none⟩ (.bool x.2)) c x := by
  have c1 : Ch (fun k => k = w7.heap.size + 1) wr ((wr.setCell ⟨w7.heap.size + 1, 0, none⟩ (.string (S x.1))).setCell ⟨w7.heap.size + 1, 1, none⟩ (.bool x.2)) := (chSet wr (w7.heap.size + 1) 0 _).trans (chSet _ (w7.heap.size + 1) 1 _)
  have hz := (Array.getElem?_eq_some_iff.1 h.b0).1
  refine ⟨(c1.block _ hz (by omega)).trans h.b0, ?_, h.bw.trans (c1.below h.bw.size (fun k hk e => by omega))⟩
  exact heap_setCell_same _ _ 1 _ _ _ (heap_setCell_same _ _ 0 _ _ _ h.b1)

variable (b k : List UInt8) (w : World)
def Goal : Prop := Calls Try.prog 4 #[.string (S b), .string (S k)] w fun r w' => r = .returned (.bool true) ∧ Below w.heap.size w w'

set_option maxHeartbeats 4000000 in
set_option maxRecDepth 100000 in
theorem walkA (hb : b.length ≤ 140737488355328) (hN : ¬ (b.length ≤ 1048576 ∧ ∃ bs, Rn b bs)) : Goal b k w := by
  have HO : ∀ w, _ := fun w => Open_any b (by omega) w
  have HX : Hid (∀ w e w', OpR w b e w' → e = .returned (.tuple #[.pointer none, .int .i64 3])) := fun w e w' h => h.elim (fun ⟨bs, r, v, b1, b2, g1, g2, _⟩ => absurd ⟨g1, _, g2⟩ hN) (fun h => h.2)
  have HO2 : ∀ w, _ := fun w => refOpen_any b (by omega) w
  have HX2 : Hid (∀ w e w', ROp w b e w' → e = .returned (.tuple #[.slice none 0 0, .int .i64 0, .int .i64 3])) := fun w e w' h => h.elim (fun ⟨bs, v, g1, g2, _⟩ => absurd ⟨g1, _, g2⟩ hN) (fun h => h.2)
  unfold Goal
  clear hN
  go_enter Try.func4, Try.ntmps4
  go_wp2_with (first
    | (go_at_call 5; refine (shown_any _).mono ?_; rintro e w1 ⟨rfl, b1⟩; have B1 : Hid (Below w.heap.size w w1) := b1; clear b1)
    | (go_at_call 8; refine (HO _).mono ?_; rintro e w2 ⟨b2, op⟩; have he := HX.out _ e w2 op; subst he; (have B2 : Hid (Below w.heap.size w w2) := bel_of B1.out b2 (Nat.le_refl _)); clear b2 op)
    | (go_at_call 9; refine (HO2 _).mono ?_; rintro e w3 ⟨b3, op⟩; have he := HX2.out _ e w3 op; subst he; (have B3 : Hid (Below w.heap.size w w3) := bel_of B2.out b3 (Nat.le_refl _)); clear b3 op))
  go_ret
  exact ⟨rfl, B3.out⟩

/-- a row of rows, as a slice of them -/
theorem rw7_row {w : World} {base : Nat} {v : Value} {l : List R7} (h : w.ownsRow base 41 3 v l.length (hcs l)) : Rw7 w v l := by
  rcases h.2 with ⟨e, h0⟩ | ⟨g, cap', cur, e, -⟩
  · exact ⟨none, 0, by rw [e, h0], .inl (List.eq_nil_of_length_eq_zero h0)⟩
  · subst e
    refine ⟨some ⟨g, 0, none⟩, cap', rfl, .inr ⟨g, 0, rfl, (row_far h rfl), fun j hj => ?_⟩⟩
    rw [Nat.zero_add]
    exact ⟨row_cell h (hcs_get hj).1, row_cell h (hcs_get hj).2.1, row_cell h (hcs_get hj).2.2⟩

set_option maxHeartbeats 8000000 in
set_option maxRecDepth 100000 in
theorem walkB (hb : b.length ≤ 1048576) (hk : k.length ≤ 140737488355328) {bs : List (List R7)} (hR : Rn b bs) : Goal b k w := by
  have HO : ∀ w, _ := fun w => Open_any b (by omega) w
  have HO2 : ∀ w, _ := fun w => refOpen_any b (by omega) w
  obtain ⟨l, HL⟩ : ∃ l, Hid (bs.flatten = l) := ⟨_, show _ = _ from rfl⟩
  have hf := hR.2.2.1
  rw [HL.out] at hf
  have hm := flt_may hf
  have HRI : Hid (Rise (ks l)) := flt_rise hf
  have hll : l.length ≤ 1048576 := by
    have h1 := flat_len (bs := bs)
    rw [HL.out] at h1
    have := (tail_rn hR hb).1
    omega
  have HX : Hid (∀ w e w', OpR w b e w' → ∃ r v b1 b2, e = .returned (.tuple #[.pointer (some ⟨r, 0, none⟩), .int .i64 0]) ∧ Ru w' w.heap.size r l bs.length v b1 b2) := fun w e w' h => h.elim (fun ⟨bs', r, v, b1, b2, _, g2, g3, g4, _⟩ => ⟨r, v, b1, b2, g3, by rw [← HL.out, hR.one g2]; exact g4⟩) (fun h => absurd ⟨hb, _, hR⟩ h.1)
  have HX2 : Hid (∀ w e w', ROp w b e w' → ∃ v, e = .returned (.tuple #[v, .int .i64 (bs.length : Int), .int .i64 0]) ∧ Rw7 w' v l) := fun w e w' h => h.elim (fun ⟨bs', v, _, g2, g3, g4⟩ => ⟨v, by rw [hR.one g2]; exact g3, by rw [← HL.out, hR.one g2]; exact rw7_row g4⟩) (fun h => absurd ⟨hb, _, hR⟩ h.1)
  have HT0 : Hid (∀ w2 B r n b1 b2 u v, Ru w2 B r l n u b1 b2 → Rw7 w2 v l → Calls Try.prog 10 #[.pointer (some ⟨r, 0, none⟩), v, .string ⟨#[]⟩] w2 fun e w' => e = .returned (.bool true) ∧ Below w2.heap.size w2 w') := fun w2 B r n b1 b2 u v hu hv => told_any hu hv ⟨#[]⟩ (by decide) hm
  have HT1 : Hid (∀ w2 B r n b1 b2 u v, Ru w2 B r l n u b1 b2 → Rw7 w2 v l → Calls Try.prog 10 #[.pointer (some ⟨r, 0, none⟩), v, .string (S k)] w2 fun e w' => e = .returned (.bool true) ∧ Below w2.heap.size w2 w') := fun w2 B r n b1 b2 u v hu hv => told_any hu hv (S k) (by rw [S_size]; omega) hm
  obtain ⟨nb, HNB⟩ : ∃ nb, Hid (bs.length = nb) := ⟨_, show _ = _ from rfl⟩
  rw [HNB.out] at HX HX2
  obtain ⟨⟨gc, gf⟩, HG⟩ : ∃ g, Hid (get7 l (S k) = g) := ⟨_, show _ = _ from rfl⟩
  have HGA : Hid (∀ w2 B r n b1 b2 u, Ru w2 B r l n u b1 b2 → Calls Try.prog 11 #[.pointer (some ⟨r, 0, none⟩), .string (S k)] w2 fun e w' => e = .returned (.tuple #[.agg #[.string (S gc.1), .bool gc.2], .bool gf]) ∧ Below w2.heap.size w2 w') := fun w2 B r n b1 b2 u hu => by
    have := Get_any hu (S k)
    rw [HG.out] at this
    exact this
  unfold Goal
  clear hf hm hR HL HNB
  go_enter Try.func4, Try.ntmps4
  go_wp2_with (first
    | (go_at_call 5; refine (shown_any _).mono ?_; rintro e w1 ⟨rfl, b1⟩; have B1 : Hid (Below w.heap.size w w1) := b1; clear b1)
    | (go_at_call 8; refine (HO _).mono ?_; rintro e w2 ⟨b2, op⟩; obtain ⟨r, u, x1, x2, he, hu⟩ := HX.out _ e w2 op; subst he; (have B2 : Hid (Below w.heap.size w w2) := bel_of B1.out b2 (Nat.le_refl _)); have U2 : Hid (Ru w2 w1.heap.size r l nb u x1 x2) := hu; clear b2 op hu HO HX)
    | (go_at_call 9; refine (HO2 _).mono ?_; rintro e w3 ⟨b3, op⟩; obtain ⟨v, he, hv⟩ := HX2.out _ e w3 op; subst he; (have B3 : Hid (Below w.heap.size w w3) := bel_of B2.out b3 (Nat.le_refl _)); (have U3 : Hid (Ru w3 w1.heap.size r l nb u x1 x2) := U2.out.below b3); have V3 : Hid (Rw7 w3 v l) := hv; obtain ⟨va, cap, rfl, -⟩ := hv; clear b3 op HO2 HX2)
    | (go_at_call_of 10 (Value.string ⟨#[]⟩); refine (HT0.out _ _ _ _ _ _ _ _ U3.out V3.out).mono ?_; rintro e w5 ⟨rfl, b5⟩; (have B5 : Hid (Below w.heap.size w w5) := bel_of B3.out b5 (Nat.le_refl _)); (have U5 : Hid (Ru w5 w1.heap.size r l nb u x1 x2) := U3.out.below b5); (have V5 : Hid (Rw7 w5 (.slice va l.length cap) l) := V3.out.up b5); clear b5 HT0)
    | (go_at_call 10; refine (HT1.out _ _ _ _ _ _ _ _ U5.out V5.out).mono ?_; rintro e w6 ⟨rfl, b6⟩; (have B6 : Hid (Below w.heap.size w w6) := bel_of B5.out b6 (Nat.le_refl _)); (have U6 : Hid (Ru w6 w1.heap.size r l nb u x1 x2) := U5.out.below b6); (have V6 : Hid (Rw7 w6 (.slice va l.length cap) l) := V5.out.up b6); clear b6)
    | (go_at_call 11; refine (HGA.out _ _ _ _ _ _ _ U6.out).mono ?_; rintro e w7 ⟨rfl, b7⟩; (have B7 : Hid (Below w.heap.size w w7) := bel_of B6.out b7 (Nat.le_refl _)); (have U7 : Hid (Ru w7 w1.heap.size r l nb u x1 x2) := U6.out.below b7); (have V7 : Hid (Rw7 w7 (.slice va l.length cap) l) := V6.out.up b7); clear b7))
  have H0 : Hid (Wb w7 _ gc ([], false)) := Wb.new w7 gc
  go_loopw [16, 17] (fun vf vi wr => ∃ i : Nat, i ≤ l.length ∧ vi = .int .i64 (i : Int) ∧ vf = .bool (fnd l (S k) i) ∧ Hid (Wb w7 wr gc (wnt l (S k) i))) (fun _ vi _ => l.length - (intOf vi).toNat)
  case atStart => exact ⟨0, Nat.zero_le _, rfl, by rw [fnd_zero], by rw [wnt_zero]; exact H0⟩
  case round =>
    obtain ⟨i, hi, rfl, rfl, HW⟩ := hrel
    clear H0
    have cc0 : wr.cell? ⟨w7.heap.size, 0, none⟩ = some (.string (S gc.1)) := by simp [World.cell?, HW.out.b0]
    have cc1 : wr.cell? ⟨w7.heap.size, 1, none⟩ = some (.bool gc.2) := by simp [World.cell?, HW.out.b0]
    by_cases hil : i < l.length
    · have hil' : (i : Int) < (l.length : Int) := by omega
      have hi0' : (0 : Int) ≤ (i : Int) := by omega
      have hV := V7.out.below HW.out.bw (Nat.le_refl _)
      obtain ⟨a', c', e, h⟩ := hV
      cases e
      have hne : l ≠ [] := fun e => by rw [e] at hil; simp at hil
      obtain ⟨vb, off, rfl, hvb, hc⟩ := h.resolve_left hne
      obtain ⟨m0, m1, m2⟩ := hc i hil
      have d0 : wr.cell? ⟨w7.heap.size + 1, 0, none⟩ = some (.string (S (wnt l (S k) i).1)) := by simp [World.cell?, HW.out.b1]
      have d1 : wr.cell? ⟨w7.heap.size + 1, 1, none⟩ = some (.bool (wnt l (S k) i).2) := by simp [World.cell?, HW.out.b1]
      have z0 : wr.frozen? ⟨w7.heap.size + 1, 0, none⟩ = false := by simp [World.frozen?, HW.out.b1]
      have z1 : wr.frozen? ⟨w7.heap.size + 1, 1, none⟩ = false := by simp [World.frozen?, HW.out.b1]
      by_cases hx : l[i].1 = k
      · have hcmp : ((S l[i].1).toList == (S k).toList) = true := by rw [hx]; simp
        have HH : Hid (fnd l (S k) (i + 1) = true ∧ Wb w7 ((wr.setCell ⟨w7.heap.size + 1, 0, none⟩ (.string (S l[i].2.1))).setCell ⟨w7.heap.size + 1, 1, none⟩ (.bool l[i].2.2)) gc (wnt l (S k) (i + 1))) := by
          obtain ⟨y1, y2⟩ := hit (l := l) (k := S k) HRI.out hil (by rw [hx])
          exact ⟨y1, by rw [y2]; exact HW.out.set l[i].2⟩
        generalize l[i] = x at *
        clear hc h hx hne HW
        go_wp2
        go_roundw
        case rel => exact ⟨i + 1, by omega, by simp, by rw [HH.out.1], HH.out.2⟩
        case measure =>
          simp [intOf]
          omega
      · have hcmp : ((S l[i].1).toList == (S k).toList) = false := by rw [S_toList, S_toList]; exact beq_eq_false_iff_ne.2 hx
        have HH : Hid (fnd l (S k) (i + 1) = fnd l (S k) i ∧ Wb w7 wr gc (wnt l (S k) (i + 1))) := by
          obtain ⟨y1, y2⟩ := miss (l := l) (k := S k) hil (fun e => hx (by have := congrArg (fun s => s.toList) e; simpa [S_toList] using this))
          exact ⟨y1, by rw [y2]; exact HW.out⟩
        generalize l[i] = x at *
        clear hc h hx hne HW
        go_wp2
        go_roundw
        case rel => exact ⟨i + 1, by omega, by simp, by rw [HH.out.1], HH.out.2⟩
        case measure =>
          simp [intOf]
          omega
    · obtain rfl : i = l.length := by omega
      have hil' : ¬ (l.length : Int) < (l.length : Int) := by omega
      obtain ⟨y1, y2⟩ := ended l (S k)
      rw [HG.out] at y1 y2
      rw [y1]
      rw [y2] at HW
      have d0 : wr.cell? ⟨w7.heap.size + 1, 0, none⟩ = some (.string (S gc.1)) := by simp [World.cell?, HW.out.b1]
      have d1 : wr.cell? ⟨w7.heap.size + 1, 1, none⟩ = some (.bool gc.2) := by simp [World.cell?, HW.out.b1]
      have U9 := U7.out.below HW.out.bw
      have B9 : Hid (Below w.heap.size w wr) := bel_of B7.out HW.out.bw (Nat.le_refl _)
      have HLN := Len_any U9
      have HBK := Blocks_any U9
      clear U9 HW y1 y2
      go_wp2_with (first
        | (go_at_call 12; refine HLN.mono ?_; rintro e w9 ⟨rfl, hw9⟩; rw [hw9]; clear hw9)
        | (go_at_call 13; refine HBK.mono ?_; rintro e w9 ⟨rfl, hw9⟩; rw [hw9]; clear hw9))
      go_ret
      exact ⟨by simp, B9.out⟩

theorem walk (hb : b.length ≤ 140737488355328) (hk : k.length ≤ 140737488355328) : Goal b k w := by
  by_cases h : b.length ≤ 1048576 ∧ ∃ bs, Rn b bs
  · obtain ⟨h1, bs, h2⟩ := h
    exact walkB b k w h1 hk h2
  · exact walkA b k w hb h

set_option maxRecDepth 100000 in
theorem lifted (os : Os) (started : os.Started) (H : Type) (enc : TypeId × Value → H) :
    ReturnsInHanded {} Try.checked os 4 .any (Rows.runOpensSpec.pre6 enc Try.prog Try.f4 Rows.runOpensRow.domain false) (Rows.runOpensSpec.post enc Try.prog Try.f4 false true false false) := by
  refine returnsInHanded_of_change_sized (C := Try.checked) own started (by kernel_rfl) Try.func4
    (ChangeSpec.witness6 (enc := enc) (C := Try.checked) false ⟨#[], #[.string .empty, .string .empty], []⟩ 8 (by kernel_rfl) (by kernel_rfl) (by kernel_rfl) (by kernel_rfl)) ?_
  intro W base args ds gs before hval0 hW hcnd hsz0 _
  have hval : ∀ (j : Nat) t v, Try.f4.params[j]? = some t → args[j]? = some v → Value.okWide Try.prog W .any base t v := hval0
  have hsz : (DataW.weightsEach Try.prog (Try.f4.params.toList ++ Rows.runOpensSpec.plain.varTypes Try.prog) (ds ++ gs)).all (· ≤ reachBytes) = true := hsz0
  have hW' := hW
  obtain ⟨p, q, hA0, hV, rfl, hfz, hnd⟩ := hW
  have hA : DataW.TrodAll enc Try.prog W 0 (fun _ => true) true Try.f4.params.toList args.toList ds p := hA0
  rw [Try.params4] at hA hval hsz
  obtain ⟨v0, vs0, d0, ds0, p0, q0, hargs, rfl, rfl, h0, r0⟩ := trodAll_cons hA
  obtain ⟨v1, vs1, d1, ds1, p1, q1, rfl, rfl, rfl, h1, r1⟩ := trodAll_cons r0
  obtain ⟨rfl, rfl, rfl⟩ := trodAll_nil r1
  obtain rfl : args = #[v0, v1] := by cases args; simp_all
  obtain ⟨rfl, rfl⟩ := trodVars_none hV
  obtain ⟨a0, rfl, rfl, rfl, w0⟩ := open_string Try.underlying9 (hval 0 9 v0 rfl rfl) h0
  obtain ⟨a1, rfl, rfl, rfl, w1⟩ := open_string Try.underlying9 (hval 1 9 v1 rfl rfl) h1
  have hlen : ∀ (j : Nat) (a : ByteArray), (([DataW.lit (.string a0.data.toList), .lit (.string a1.data.toList)] : List (DataW H)) ++ [])[j]? = some (.lit (.string a.data.toList)) → ([9, 9] ++ Rows.runOpensSpec.plain.varTypes Try.prog)[j]? = some 9 → a.data.toList.length ≤ 140737488355328 := fun j a hd ht => by
    have h2 := of_decide_eq_true (List.all_eq_true.1 (sized_at hsz ht hd) a.data.toList.length (by simp [DataW.weights]))
    simp only [reachBytes] at h2
    omega
  have hl0 := hlen 0 a0 rfl rfl
  have hl1 := hlen 1 a1 rfl rfl
  clear hA0 hval0
  have hwk := walk a0.data.toList a1.data.toList W hl0 hl1
  unfold Goal at hwk
  rw [S_of, S_of] at hwk
  refine hwk.mono fun e W' ⟨he, bel⟩ => ?_
  subst he
  exact ⟨_, rfl, _, _, _, [], _, [], hW', trodAll_mk1 (shut_bool Try.underlying4 _), (trodAll_cons_mk (shut_string Try.underlying9 w0) (trodAll_cons_mk (shut_string Try.underlying9 w1) trodAll_mk0)), rfl, bel.frame _, fun h => by cases h⟩

theorem proved : Rows.RunOpensSaid :=
  OpenClaim.holds_of_wide 4 Try.f4 rfl rfl rfl rfl rfl rfl rfl ⟨rfl, rfl, rfl, rfl, rfl⟩ rfl rfl rfl rfl rfl (by kernel_rfl) Try.func4 (by kernel_rfl)
    (of_decide_eq_true (by kernel_rfl)) (by unfold Func.isWrapper; first | (rw [if_pos (by decide +kernel)]; kernel_rfl) | (rw [if_neg (by decide +kernel)]; exact ⟨rfl, rfl⟩))
    (fun os started H enc _ => lifted os started H enc)
end Go.Proofs.Ytiaeicfmdnmeeaa.runOpens

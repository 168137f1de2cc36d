/-
  Proved: for every slice of rows RunBlocks answers true, and changes nothing that was there before the call: a block has one key at least, and there are no more blocks than keys; where blocks may be great there are no more of them. No condition.
-/
import Derived.Test.YtiflkgpdomippaaH7Args
namespace Go.Proofs.Ytiflkgpdomippaa.runBlocks
open Go.ChangeShapes Go.WideShapes Go.ChangeAt Go.RowKit
open Go.ChangeMaps (open_string shut_string)

theorem fewer {b c : Nat} (h : b ≤ c) : ∀ (l cur cur' : List R7), cur ≠ [] → cur' ≠ [] → (cur' <:+ cur → (cutB c cur' l).length ≤ (cutB b cur l).length) ∧ (cutB c cur' l).length ≤ (cutB b cur l).length + 1
  | [], cur, cur', h1, h2 => by rw [cutB_end _ h1, cutB_end _ h2]; simp
  | x :: t, cur, cur', h1, h2 => by
    have ih := fewer h t
    by_cases q1 : c ≤ (ld cur').length
    · rw [cutB_full q1]
      by_cases q2 : b ≤ (ld cur).length
      · rw [cutB_full q2]
        have := (ih [x] [x] (by simp) (by simp)).1 (List.suffix_refl _)
        simp only [List.length_cons]
        exact ⟨fun _ => by omega, by omega⟩
      · rw [cutB_more (by omega)]
        have := (ih (cur ++ [x]) [x] (by simp) (by simp)).1 (List.suffix_append _ _)
        simp only [List.length_cons]
        refine ⟨fun hs => ?_, by omega⟩
        obtain ⟨p, hp⟩ := hs
        have hl : (ld cur).length = (ld p).length + (ld cur').length := by rw [← hp]; simp [ld]
        omega
    · rw [cutB_more (by omega)]
      by_cases q2 : b ≤ (ld cur).length
      · rw [cutB_full q2]
        have := (ih [x] (cur' ++ [x]) (by simp) (by simp)).2
        simp only [List.length_cons]
        exact ⟨fun _ => by omega, by omega⟩
      · rw [cutB_more (by omega)]
        have := ih (cur ++ [x]) (cur' ++ [x]) (by simp) (by simp)
        refine ⟨fun hs => this.1 ?_, this.2⟩
        obtain ⟨p, hp⟩ := hs
        exact ⟨p, by rw [← hp]; simp⟩
theorem fewer0 (l : List R7) : (cutB 4096 [] l).length ≤ (cutB 64 [] l).length := by
  cases l with
  | nil => rw [cutB_nil, cutB_nil]; exact Nat.le_refl _
  | cons x t =>
    rw [cutB_begin (by decide), cutB_begin (by decide)]
    exact (fewer (by decide) t [x] [x] (by simp) (by simp)).1 (List.suffix_refl _)
theorem count {bs : List (List R7)} (h : Gbs bs) : bs.length ≤ bs.flatten.length := by
  induction bs with
  | nil => simp
  | cons y t ih =>
    have h1 := ih (fun z hz => h z (by simp [hz]))
    have h2 := List.length_pos_iff.2 (h y (by simp)).1
    simp only [List.length_cons, List.flatten_cons, List.length_append]
    omega

variable (l : List R7) (w : World)
def Goal (v : Value) : Prop := Calls Try.prog 8 #[v] w fun r w' => r = .returned (.bool true) ∧ Below w.heap.size w w'

set_option maxHeartbeats 4000000 in
set_option maxRecDepth 100000 in
theorem walk {v : Value} (hv : Rw7 w v l) (hn : l.length * 40 ≤ 140737488355328) (hs : Sm7 l) : Goal w v := by
  have HBU : Hid (∀ (k : Int) (w2 : World), Below w.heap.size w w2 → Calls Try.prog 10 #[.int .i64 k, v] w2 _) := fun k w2 hb => built_any k (hv.up hb) hn hs
  obtain ⟨a, cap, rfl, -⟩ := hv
  unfold Goal
  by_cases h1 : (bld 64 l).2 = 0
  · by_cases h2 : (bld 4096 l).2 = 0
    · obtain ⟨bs, p1, p2, p3, p4, p5, -⟩ := bld_ok h1
      obtain ⟨cs, q1, q2, q3, q4, q5, -⟩ := bld_ok h2
      have c1 := count p2.2.1
      rw [p4] at c1
      have c2 : cs.length ≤ bs.length := by rw [p5, q5]; exact fewer0 l
      have c3 : (l.length = 0) ↔ (bs.length = 0) := by
        constructor
        · intro h; omega
        · intro h; rw [← p4, List.eq_nil_of_length_eq_zero h]; rfl
      have HO1 : ∀ w, _ := fun w => Open_any (rn bs) (by omega) w
      have HO2 : ∀ w, _ := fun w => Open_any (rn cs) (by omega) w
      have HX1 : Hid (∀ w e w', OpR w (rn bs) e w' → ∃ r v b1 b2, e = .returned (.tuple #[.pointer (some ⟨r, 0, none⟩), .int .i64 0]) ∧ Ru w' w.heap.size r l bs.length v b1 b2) := fun w e w' h => h.elim (fun ⟨bs', r, v, b1, b2, _, g2, g3, g4, _⟩ => ⟨r, v, b1, b2, g3, by rw [← p4, p2.one g2]; exact g4⟩) (fun h => absurd ⟨p3, _, p2⟩ h.1)
      have HX2 : Hid (∀ w e w', OpR w (rn cs) e w' → ∃ r v b1 b2, e = .returned (.tuple #[.pointer (some ⟨r, 0, none⟩), .int .i64 0]) ∧ Ru w' w.heap.size r l cs.length v b1 b2) := fun w e w' h => h.elim (fun ⟨bs', r, v, b1, b2, _, g2, g3, g4, _⟩ => ⟨r, v, b1, b2, g3, by rw [← q4, q2.one g2]; exact g4⟩) (fun h => absurd ⟨q3, _, q2⟩ h.1)
      have HB1 := HBU.out 64
      have HB2 := HBU.out 4096
      rw [p1, h1] at HB1
      rw [q1, h2] at HB2
      have d1 : (bs.length : Int) ≤ (l.length : Int) := by omega
      have d2 : (cs.length : Int) ≤ (bs.length : Int) := by omega
      have d3 : ((l.length : Int) == 0) = ((bs.length : Int) == 0) := by
        by_cases h : l.length = 0
        · rw [h, c3.1 h]
        · have h' : bs.length ≠ 0 := fun e => h (c3.2 e)
          rw [beq_eq_false_iff_ne.2 (by omega), beq_eq_false_iff_ne.2 (by omega)]
      clear p1 p2 p3 p4 p5 q1 q2 q3 q4 q5 h1 h2 c1 c2 c3 HBU
      go_enter Try.func8, Try.ntmps8
      go_wp2_with (first
        | (go_at_call 9; refine (shown_any _).mono ?_; rintro e w1 ⟨rfl, b1⟩; have B1 : Hid (Below w.heap.size w w1) := b1; clear b1)
        | (go_at_call_of 10 (Value.int .i64 64); refine (HB1 w1 B1.out).mono ?_; rintro e w2 ⟨rfl, b2⟩; (have B2 : Hid (Below w.heap.size w w2) := bel_of B1.out b2 (Nat.le_refl _)); clear b2)
        | (go_at_call 10; refine (HB2 w2 B2.out).mono ?_; rintro e w3 ⟨rfl, b3⟩; (have B3 : Hid (Below w.heap.size w w3) := bel_of B2.out b3 (Nat.le_refl _)); clear b3)
        | (go_at_call_of 12 (Value.string (S (rn bs))); refine (HO1 w3).mono ?_; rintro e w4 ⟨b4, op⟩; obtain ⟨r, v, x1, x2, he, hu⟩ := HX1.out w3 e w4 op; subst he; (have B4 : Hid (Below w.heap.size w w4) := bel_of B3.out b4 (Nat.le_refl _)); have U4 : Hid (Ru w4 w3.heap.size r l bs.length v x1 x2) := hu; clear b4 op hu HO1 HX1)
        | (go_at_call 12; refine (HO2 w4).mono ?_; rintro e w5 ⟨b5, op⟩; obtain ⟨s, u, y1, y2, he, hu⟩ := HX2.out w4 e w5 op; subst he; (have B5 : Hid (Below w.heap.size w w5) := bel_of B4.out b5 (Nat.le_refl _)); have V5 : Hid (Ru w5 w4.heap.size s l cs.length u y1 y2) := hu; (have U5 : Hid (Ru w5 w3.heap.size r l bs.length v x1 x2) := U4.out.below b5); clear b5 op hu HO2 HX2)
        | (go_at_call_of 17 (Value.pointer (some ⟨r, 0, none⟩)); refine (Blocks_any U5.out).mono ?_; rintro e w6 ⟨rfl, hw6⟩; subst hw6)
        | (go_at_call_of 16 (Value.pointer (some ⟨r, 0, none⟩)); refine (Len_any U5.out).mono ?_; rintro e w6 ⟨rfl, hw6⟩; subst hw6)
        | (go_at_call 17; refine (Blocks_any V5.out).mono ?_; rintro e w6 ⟨rfl, hw6⟩; subst hw6)
        | (go_at_call 16; refine (Len_any V5.out).mono ?_; rintro e w6 ⟨rfl, hw6⟩; subst hw6))
      go_ret
      exact ⟨rfl, B5.out⟩
    · have HB1 := HBU.out 64
      have HB2 := HBU.out 4096
      rw [h1] at HB1
      generalize (bld 64 l).1 = s1 at *
      generalize (bld 4096 l).1 = s2 at *
      generalize (bld 4096 l).2 = e2 at *
      have hne : ((e2 : Int) != 0) = true := by rw [bne_iff_ne]; omega
      clear HBU h1 h2
      go_enter Try.func8, Try.ntmps8
      go_wp2_with (first
        | (go_at_call 9; refine (shown_any _).mono ?_; rintro e w1 ⟨rfl, b1⟩; have B1 : Hid (Below w.heap.size w w1) := b1; clear b1)
        | (go_at_call_of 10 (Value.int .i64 64); refine (HB1 w1 B1.out).mono ?_; rintro e w2 ⟨rfl, b2⟩; (have B2 : Hid (Below w.heap.size w w2) := bel_of B1.out b2 (Nat.le_refl _)); clear b2)
        | (go_at_call 10; refine (HB2 w2 B2.out).mono ?_; rintro e w3 ⟨rfl, b3⟩; (have B3 : Hid (Below w.heap.size w w3) := bel_of B2.out b3 (Nat.le_refl _)); clear b3))
      go_ret
      exact ⟨rfl, B3.out⟩
  · have HB1 := HBU.out 64
    have HB2 := HBU.out 4096
    generalize (bld 64 l).1 = s1 at *
    generalize (bld 64 l).2 = e1 at *
    generalize (bld 4096 l).1 = s2 at *
    generalize (bld 4096 l).2 = e2 at *
    have hne : ((e1 : Int) != 0) = true := by rw [bne_iff_ne]; omega
    clear HBU h1
    go_enter Try.func8, Try.ntmps8
    go_wp2_with (first
      | (go_at_call 9; refine (shown_any _).mono ?_; rintro e w1 ⟨rfl, b1⟩; have B1 : Hid (Below w.heap.size w w1) := b1; clear b1)
      | (go_at_call_of 10 (Value.int .i64 64); refine (HB1 w1 B1.out).mono ?_; rintro e w2 ⟨rfl, b2⟩; (have B2 : Hid (Below w.heap.size w w2) := bel_of B1.out b2 (Nat.le_refl _)); clear b2)
      | (go_at_call 10; refine (HB2 w2 B2.out).mono ?_; rintro e w3 ⟨rfl, b3⟩; (have B3 : Hid (Below w.heap.size w w3) := bel_of B2.out b3 (Nat.le_refl _)); clear b3))
    go_ret
    exact ⟨rfl, B3.out⟩

set_option maxRecDepth 100000 in
theorem lifted (os : Os) (started : os.Started) (H : Type) (enc : TypeId × Value → H) :
    ReturnsInHanded {} Try.checked os 8 .any (Rows.runBlocksSpec.pre6 enc Try.prog Try.f8 Rows.runBlocksRow.domain false) (Rows.runBlocksSpec.post enc Try.prog Try.f8 false true false false) := by
  refine returnsInHanded_of_change_sized (C := Try.checked) own started (by kernel_rfl) Try.func8
    (ChangeSpec.witness6 (enc := enc) (C := Try.checked) false ⟨#[], #[.slice none 0 0], []⟩ 8 (by kernel_rfl) (by kernel_rfl) (by kernel_rfl) (by kernel_rfl)) ?_
  intro W base args ds gs before hval0 hW hcnd hsz0 _
  have hval : ∀ (j : Nat) t v, Try.f8.params[j]? = some t → args[j]? = some v → Value.okWide Try.prog W .any base t v := hval0
  have hsz : (DataW.weightsEach Try.prog (Try.f8.params.toList ++ Rows.runBlocksSpec.plain.varTypes Try.prog) (ds ++ gs)).all (· ≤ reachBytes) = true := hsz0
  have hW' := hW
  obtain ⟨p, q, hA0, hV, rfl, hfz, hnd⟩ := hW
  have hA : DataW.TrodAll enc Try.prog W 0 (fun _ => true) true Try.f8.params.toList args.toList ds p := hA0
  rw [Try.params8] at hA hval hsz
  obtain ⟨v0, vs0, d0, ds0, p0, q0, hargs, rfl, rfl, h0, r0⟩ := trodAll_cons hA
  obtain ⟨rfl, rfl, rfl⟩ := trodAll_nil r0
  obtain rfl : args = #[v0] := by cases args; simp_all
  obtain ⟨rfl, rfl⟩ := trodVars_none hV
  have k0 := h0
  have lt0 : ∀ x ∈ p0, x.block < W.heap.size := by obtain ⟨m, hm⟩ := k0; exact DataW.trod_lt m _ _ _ hm
  obtain ⟨l, hl, hl2, -⟩ := openRows7 (hval 0 22 v0 rfl rfl) h0
  obtain ⟨hn, hs⟩ := hl2 (sized_at hsz (i := 0) rfl rfl)
  clear hA0 hval0
  refine (walk l W hl hn hs).mono fun e W' ⟨he, bel⟩ => ?_
  subst he
  exact ⟨_, rfl, _, _, _, [], _, [], hW', trodAll_mk1 (shut_bool Try.underlying4 _), (trodAll_cons_mk (Below.trod laidOut (by kernel_rfl) (of_decide_eq_true (by kernel_rfl)) k0 bel lt0) trodAll_mk0), rfl, bel.frame _, fun h => by cases h⟩

theorem proved : Rows.RunBlocksSaid :=
  OpenClaim.holds_of_wide 8 Try.f8 rfl rfl rfl rfl rfl rfl rfl ⟨rfl, rfl, rfl, rfl, rfl⟩ rfl rfl rfl rfl rfl (by kernel_rfl) Try.func8 (by kernel_rfl)
    (of_decide_eq_true (by kernel_rfl)) (by unfold Func.isWrapper; first | (rw [if_pos (by decide +kernel)]; kernel_rfl) | (rw [if_neg (by decide +kernel)]; exact ⟨rfl, rfl⟩))
    (fun os started H enc _ => lifted os started H enc)
end Go.Proofs.Ytiflkgpdomippaa.runBlocks

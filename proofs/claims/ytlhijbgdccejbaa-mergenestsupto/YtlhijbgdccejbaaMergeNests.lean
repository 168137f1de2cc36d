/-
  What is proved: whatever three lists of rows are, it is the same whether they are merged at once or two of them first (MergeNests answers true, and no argument is changed), where the arguments are of bounded bulk.
-/
import Derived.Test.YtlhijbgdccejbaaM3Args
import Derived.Test.YtlhijbgdccejbaaM3Shown
namespace Go.Proofs.Ytlhijbgdccejbaa.mergeNests
open Go.ChangeShapes Go.WideShapes Go.ChangeAt Go.RowKit
open Go.Shelf Go.Sort
open Go.Lib hiding intOf

theorem risen_of {l : List Ent} (h : Rise l) : risen l = l := by
  have key : ∀ i, i ≤ l.length → risen (l.take i) = l.take i := by
    intro i
    induction i with
    | zero => intro _; simp [risen]
    | succ i ih =>
      intro hi
      have hlt : i < l.length := by omega
      rw [risen_take hlt, ih (by omega), if_pos, List.take_succ_eq_append_getElem hlt]
      refine List.all_eq_true.2 (fun e he => ?_)
      obtain ⟨j, hj, rfl⟩ := List.mem_iff_getElem.1 he
      simp only [List.getElem_take]
      simp at hj
      exact h.get (by omega) hlt (by omega)
  have := key l.length (Nat.le_refl _)
  rwa [List.take_length] at this
theorem nest_l (a b c : List Ent) : merged [merged [a, b], c] = merged [a, b, c] := by
  have e1 : merged [merged [a, b], c] = putAll (merged [c]) (risen (merged [a, b])) := rfl
  have e2 : merged [a, b, c] = putAll (merged [c]) (merged [a, b]) := merged_append [a, b] [c]
  rw [e1, e2, risen_of (merged_rise _)]
theorem nest_r (a b c : List Ent) : merged [a, merged [b, c]] = merged [a, b, c] := by
  have e1 : merged [a, merged [b, c]] = putAll (merged [merged [b, c]]) (risen a) := rfl
  have e2 : merged [a, b, c] = putAll (merged [b, c]) (risen a) := rfl
  rw [e1, e2, merged_one, risen_of (merged_rise _)]
theorem len2 (a b : List Ent) : sumLen [a, b] = a.length + b.length := by simp [sumLen]
theorem len3 (a b c : List Ent) : sumLen [a, b, c] = a.length + b.length + c.length := by simp [sumLen]; omega
theorem mlen2 (a b : List Ent) : (merged [a, b]).length ≤ a.length + b.length := by have := merged_len [a, b]; simpa using this
theorem mlen3 (a b c : List Ent) : (merged [a, b, c]).length ≤ a.length + b.length + c.length := by have := merged_len [a, b, c]; simp at this; omega

set_option maxRecDepth 100000 in
set_option maxHeartbeats 8000000 in
theorem walk (v0 v1 v2 : Value) (a b c : List Ent) (ha : a.length ≤ 1048576) (hb : b.length ≤ 1048576) (hc : c.length ≤ 1048576) (w : World) (h0 : Rw w v0 a) (h1 : Rw w v1 b) (h2 : Rw w v2 c) :
    Calls Try.prog 7 #[v0, v1, v2] w fun e w' => e = .returned (.bool true) ∧ Below w.heap.size w w' := by
  have R0 : Hid (Rw w v0 a ∧ Rw w v1 b ∧ Rw w v2 c) := ⟨h0, h1, h2⟩
  obtain ⟨a0, c0, rfl, -⟩ := h0
  obtain ⟨a1, c1, rfl, -⟩ := h1
  obtain ⟨a2, c2, rfl, -⟩ := h2
  have m2 := mlen2 a b
  have m2' := mlen2 b c
  have m3 := mlen3 a b c
  have n1 := nest_l a b c
  have n2 := nest_r a b c
  have NL : Hid (merged [merged [a, b], c] = merged [a, b, c] ∧ merged [a, merged [b, c]] = merged [a, b, c]) := ⟨n1, n2⟩
  clear n1 n2
  go_enter Try.func7, Try.ntmps7
  go_wp2_with fail
  refine (shown_any _).mono ?_
  rintro e w1 ⟨rfl, B1⟩
  have K1 : Hid (Below w.heap.size w w1) := B1
  clear B1
  -- three at once
  go_wp2_with fail
  refine (over_f (R0.out.1.b K1.out) (by omega)).mono ?_
  rintro e w2 ⟨g2, b2, X2, rfl, S2, B2, -⟩
  have K2 : Hid (Below w.heap.size w w2 ∧ Sn w2 (.func (.func g2) #[] b2) a X2) := ⟨btr K1.out B2, S2⟩
  clear B2 S2 K1
  go_wp2_with fail
  refine (over_f (R0.out.2.1.b K2.out.1) (by omega)).mono ?_
  rintro e w3 ⟨g3, b3, X3, rfl, S3, B3, -⟩
  have K3 : Hid (Below w.heap.size w w3 ∧ Sn w3 (.func (.func g2) #[] b2) a X2 ∧ Sn w3 (.func (.func g3) #[] b3) b X3) := ⟨btr K2.out.1 B3, K2.out.2.below B3, S3⟩
  clear B3 S3 K2
  go_wp2_with fail
  refine (over_f (R0.out.2.2.b K3.out.1) (by omega)).mono ?_
  rintro e w4 ⟨g4, b4, X4, rfl, S4, B4, -⟩
  have K4 : Hid (Below w.heap.size w w4 ∧ Sn w4 (.func (.func g2) #[] b2) a X2 ∧ Sn w4 (.func (.func g3) #[] b3) b X3 ∧ Sn w4 (.func (.func g4) #[] b4) c X4) := ⟨btr K3.out.1 B4, K3.out.2.1.below B4, K3.out.2.2.below B4, S4⟩
  clear B4 S4 K3
  go_wp2_with fail
  refine (Merge_f (rgs_three (heap_alloc_new w4 _) (K4.out.2.1.below (bal w4 _)) (K4.out.2.2.1.below (bal w4 _)) (K4.out.2.2.2.below (bal w4 _))) (by rw [len3]; omega) (by simp)).mono ?_
  rintro e w5 ⟨g5, b5, X5, rfl, S5, B5, -⟩
  have K5 : Hid (Below w.heap.size w w5 ∧ Sn w5 (.func (.func g5) #[] b5) (merged [a, b, c]) X5) := ⟨btr K4.out.1 (btr (bal w4 _) B5), S5⟩
  clear B5 S5 K4
  go_wp2_with fail
  refine (all_f K5.out.2 (by omega)).mono ?_
  rintro e w6 ⟨a6, c6, rfl, R6, B6⟩
  have K6 : Hid (Below w.heap.size w w6 ∧ Rw w6 (.slice a6 (merged [a, b, c]).length c6) (merged [a, b, c])) := ⟨btr K5.out.1 B6, R6⟩
  clear B6 R6 K5
  -- the first two first
  go_wp2_with fail
  refine (over_f (R0.out.1.b K6.out.1) (by omega)).mono ?_
  rintro e w7 ⟨g7, b7, X7, rfl, S7, B7, -⟩
  have K7 : Hid (Below w.heap.size w w7 ∧ Rw w7 (.slice a6 (merged [a, b, c]).length c6) (merged [a, b, c]) ∧ Sn w7 (.func (.func g7) #[] b7) a X7) := ⟨btr K6.out.1 B7, K6.out.2.b B7, S7⟩
  clear B7 S7 K6
  go_wp2_with fail
  refine (over_f (R0.out.2.1.b K7.out.1) (by omega)).mono ?_
  rintro e w8 ⟨g8, b8, X8, rfl, S8, B8, -⟩
  have K8 : Hid (Below w.heap.size w w8 ∧ Rw w8 (.slice a6 (merged [a, b, c]).length c6) (merged [a, b, c]) ∧ Sn w8 (.func (.func g7) #[] b7) a X7 ∧ Sn w8 (.func (.func g8) #[] b8) b X8) := ⟨btr K7.out.1 B8, K7.out.2.1.b B8, K7.out.2.2.below B8, S8⟩
  clear B8 S8 K7
  go_wp2_with fail
  refine (Merge_f (rgs_two (heap_alloc_new w8 _) (K8.out.2.2.1.below (bal w8 _)) (K8.out.2.2.2.below (bal w8 _))) (by rw [len2]; omega) (by simp)).mono ?_
  rintro e w9 ⟨g9, b9, X9, rfl, S9, B9, -⟩
  have bb := btr (bal w8 _) B9
  have K9 : Hid (Below w.heap.size w w9 ∧ Rw w9 (.slice a6 (merged [a, b, c]).length c6) (merged [a, b, c]) ∧ Sn w9 (.func (.func g9) #[] b9) (merged [a, b]) X9) := ⟨btr K8.out.1 bb, K8.out.2.1.b bb, S9⟩
  clear B9 S9 K8 bb
  go_wp2_with fail
  refine (over_f (R0.out.2.2.b K9.out.1) (by omega)).mono ?_
  rintro e w10 ⟨g10, b10, X10, rfl, S10, B10, -⟩
  have K10 : Hid (Below w.heap.size w w10 ∧ Rw w10 (.slice a6 (merged [a, b, c]).length c6) (merged [a, b, c]) ∧ Sn w10 (.func (.func g9) #[] b9) (merged [a, b]) X9 ∧ Sn w10 (.func (.func g10) #[] b10) c X10) := ⟨btr K9.out.1 B10, K9.out.2.1.b B10, K9.out.2.2.below B10, S10⟩
  clear B10 S10 K9
  go_wp2_with fail
  refine (Merge_f (rgs_two (heap_alloc_new w10 _) (K10.out.2.2.1.below (bal w10 _)) (K10.out.2.2.2.below (bal w10 _))) (by rw [len2]; omega) (by simp)).mono ?_
  rintro e w11 ⟨g11, b11, X11, rfl, S11, B11, -⟩
  rw [NL.out.1] at S11
  have bb := btr (bal w10 _) B11
  have K11 : Hid (Below w.heap.size w w11 ∧ Rw w11 (.slice a6 (merged [a, b, c]).length c6) (merged [a, b, c]) ∧ Sn w11 (.func (.func g11) #[] b11) (merged [a, b, c]) X11) := ⟨btr K10.out.1 bb, K10.out.2.1.b bb, S11⟩
  clear B11 S11 K10 bb
  go_wp2_with fail
  refine (all_f K11.out.2.2 (by omega)).mono ?_
  rintro e w12 ⟨a12, c12, rfl, R12, B12⟩
  have K12 : Hid (Below w.heap.size w w12 ∧ Rw w12 (.slice a6 (merged [a, b, c]).length c6) (merged [a, b, c]) ∧ Rw w12 (.slice a12 (merged [a, b, c]).length c12) (merged [a, b, c])) := ⟨btr K11.out.1 B12, K11.out.2.1.b B12, R12⟩
  clear B12 R12 K11
  -- the last two first
  go_wp2_with fail
  refine (over_f (R0.out.1.b K12.out.1) (by omega)).mono ?_
  rintro e w13 ⟨g13, b13, X13, rfl, S13, B13, -⟩
  have K13 : Hid (Below w.heap.size w w13 ∧ (Rw w13 (.slice a6 (merged [a, b, c]).length c6) (merged [a, b, c]) ∧ Rw w13 (.slice a12 (merged [a, b, c]).length c12) (merged [a, b, c])) ∧ Sn w13 (.func (.func g13) #[] b13) a X13) := ⟨btr K12.out.1 B13, ⟨K12.out.2.1.b B13, K12.out.2.2.b B13⟩, S13⟩
  clear B13 S13 K12
  go_wp2_with fail
  refine (over_f (R0.out.2.1.b K13.out.1) (by omega)).mono ?_
  rintro e w14 ⟨g14, b14, X14, rfl, S14, B14, -⟩
  have K14 : Hid (Below w.heap.size w w14 ∧ (Rw w14 (.slice a6 (merged [a, b, c]).length c6) (merged [a, b, c]) ∧ Rw w14 (.slice a12 (merged [a, b, c]).length c12) (merged [a, b, c])) ∧ Sn w14 (.func (.func g13) #[] b13) a X13 ∧ Sn w14 (.func (.func g14) #[] b14) b X14) := ⟨btr K13.out.1 B14, ⟨K13.out.2.1.1.b B14, K13.out.2.1.2.b B14⟩, K13.out.2.2.below B14, S14⟩
  clear B14 S14 K13
  go_wp2_with fail
  refine (over_f (R0.out.2.2.b K14.out.1) (by omega)).mono ?_
  rintro e w15 ⟨g15, b15, X15, rfl, S15, B15, -⟩
  have K15 : Hid (Below w.heap.size w w15 ∧ (Rw w15 (.slice a6 (merged [a, b, c]).length c6) (merged [a, b, c]) ∧ Rw w15 (.slice a12 (merged [a, b, c]).length c12) (merged [a, b, c])) ∧ Sn w15 (.func (.func g13) #[] b13) a X13 ∧ Sn w15 (.func (.func g14) #[] b14) b X14 ∧ Sn w15 (.func (.func g15) #[] b15) c X15) := ⟨btr K14.out.1 B15, ⟨K14.out.2.1.1.b B15, K14.out.2.1.2.b B15⟩, K14.out.2.2.1.below B15, K14.out.2.2.2.below B15, S15⟩
  clear B15 S15 K14
  go_wp2_with fail
  refine (Merge_f (rgs_two (heap_alloc_new w15 _) (K15.out.2.2.2.1.below (bal w15 _)) (K15.out.2.2.2.2.below (bal w15 _))) (by rw [len2]; omega) (by simp)).mono ?_
  rintro e w16 ⟨g16, b16, X16, rfl, S16, B16, -⟩
  have bb := btr (bal w15 _) B16
  have K16 : Hid (Below w.heap.size w w16 ∧ (Rw w16 (.slice a6 (merged [a, b, c]).length c6) (merged [a, b, c]) ∧ Rw w16 (.slice a12 (merged [a, b, c]).length c12) (merged [a, b, c])) ∧ Sn w16 (.func (.func g13) #[] b13) a X13 ∧ Sn w16 (.func (.func g16) #[] b16) (merged [b, c]) X16) := ⟨btr K15.out.1 bb, ⟨K15.out.2.1.1.b bb, K15.out.2.1.2.b bb⟩, K15.out.2.2.1.below bb, S16⟩
  clear B16 S16 K15 bb
  go_wp2_with fail
  refine (Merge_f (rgs_two (heap_alloc_new w16 _) (K16.out.2.2.1.below (bal w16 _)) (K16.out.2.2.2.below (bal w16 _))) (by rw [len2]; omega) (by simp)).mono ?_
  rintro e w17 ⟨g17, b17, X17, rfl, S17, B17, -⟩
  rw [NL.out.2] at S17
  have bb := btr (bal w16 _) B17
  have K17 : Hid (Below w.heap.size w w17 ∧ (Rw w17 (.slice a6 (merged [a, b, c]).length c6) (merged [a, b, c]) ∧ Rw w17 (.slice a12 (merged [a, b, c]).length c12) (merged [a, b, c])) ∧ Sn w17 (.func (.func g17) #[] b17) (merged [a, b, c]) X17) := ⟨btr K16.out.1 bb, ⟨K16.out.2.1.1.b bb, K16.out.2.1.2.b bb⟩, S17⟩
  clear B17 S17 K16 bb
  go_wp2_with fail
  refine (all_f K17.out.2.2 (by omega)).mono ?_
  rintro e w18 ⟨a18, c18, rfl, R18, B18⟩
  have K18 : Hid (Below w.heap.size w w18 ∧ Rw w18 (.slice a6 (merged [a, b, c]).length c6) (merged [a, b, c]) ∧ Rw w18 (.slice a12 (merged [a, b, c]).length c12) (merged [a, b, c]) ∧ Rw w18 (.slice a18 (merged [a, b, c]).length c18) (merged [a, b, c])) := ⟨btr K17.out.1 B18, K17.out.2.1.1.b B18, K17.out.2.1.2.b B18, R18⟩
  clear B18 R18 K17
  -- the same
  go_wp2_with fail
  refine (same_any K18.out.2.1 K18.out.2.2.1 (by omega)).mono ?_
  rintro e w19 ⟨rfl, B19⟩
  have K19 : Hid (Below w.heap.size w w19 ∧ Rw w19 (.slice a6 (merged [a, b, c]).length c6) (merged [a, b, c]) ∧ Rw w19 (.slice a18 (merged [a, b, c]).length c18) (merged [a, b, c])) := ⟨btr K18.out.1 B19, K18.out.2.1.b B19, K18.out.2.2.2.b B19⟩
  clear B19 K18
  go_wp2_with fail
  refine (same_any K19.out.2.1 K19.out.2.2 (by omega)).mono ?_
  rintro e w20 ⟨rfl, B20⟩
  have K20 : Hid (Below w.heap.size w w20) := btr K19.out.1 B20
  clear B20 K19
  go_wp2
  go_ret
  exact ⟨rfl, K20.out⟩

set_option maxRecDepth 100000 in
theorem lifted (os : Os) (started : os.Started) (H : Type) (enc : TypeId × Value → H) (F : Stop.Interp) :
    ReturnsInHanded {} Try.checked os 7 .any ((Rows.OpenSpec.upto Rows.mergeNestsSpec).pre6 enc Try.prog Try.f7 Rows.mergeNestsUptoRow.domain false) (((Rows.OpenSpec.upto Rows.mergeNestsSpec).at F).post enc Try.prog Try.f7 false true false false) := by
  refine returnsInHanded_of_cond (C := Try.checked) (s := Rows.OpenSpec.upto Rows.mergeNestsSpec) (k := Rows.uptoSmall) rfl own started (by kernel_rfl) Try.func7
    (OpenSpec.witness (enc := enc) (C := Try.checked) (s := Rows.OpenSpec.upto Rows.mergeNestsSpec) (k := Rows.uptoSmall) rfl false ⟨#[], #[.slice none 0 0, .slice none 0 0, .slice none 0 0], []⟩ 8 (by kernel_rfl) (by kernel_rfl) (by kernel_rfl)
      (x := ([.nil, .nil, .nil], [], [])) (by kernel_rfl) rfl (by kernel_rfl)) ?_
  intro W base args ds gs before hval0 hW _ hk _
  have hval : ∀ (j : Nat) t v, Try.f7.params[j]? = some t → args[j]? = some v → Value.okWide Try.prog W .any base t v := hval0
  have hW' := hW
  obtain ⟨p, q, hA0, hV, rfl, hfz, hnd⟩ := hW
  have hA : DataW.TrodAll enc Try.prog W 0 (fun _ => true) true Try.f7.params.toList args.toList ds p := hA0
  rw [Try.params7] at hA hval
  obtain ⟨v0, vs0, d0, ds0, p0, q0, hargs, rfl, rfl, h0, r0⟩ := trodAll_cons hA
  obtain ⟨v1, vs1, d1, ds1, p1, q1, rfl, rfl, rfl, h1, r1⟩ := trodAll_cons r0
  obtain ⟨v2, vs2, d2, ds2, p2, q2, rfl, rfl, rfl, h2, r2⟩ := trodAll_cons r1
  obtain ⟨rfl, rfl, rfl⟩ := trodAll_nil r2
  obtain rfl : args = #[v0, v1, v2] := by cases args; simp_all
  obtain ⟨rfl, rfl⟩ := trodVars_none hV
  have k0 := h0
  have k1 := h1
  have k2 := h2
  have lt0 : ∀ x ∈ p0, x.block < W.heap.size := by obtain ⟨m, hm⟩ := k0; exact DataW.trod_lt m _ _ _ hm
  have lt1 : ∀ x ∈ p1, x.block < W.heap.size := by obtain ⟨m, hm⟩ := k1; exact DataW.trod_lt m _ _ _ hm
  have lt2 : ∀ x ∈ p2, x.block < W.heap.size := by obtain ⟨m, hm⟩ := k2; exact DataW.trod_lt m _ _ _ hm
  obtain ⟨la, ha, hal, -⟩ := openRows (hval 0 29 v0 rfl rfl) h0
  obtain ⟨lb, hb, hbl, -⟩ := openRows (hval 1 29 v1 rfl rfl) h1
  obtain ⟨lc, hc, hcl, -⟩ := openRows (hval 2 29 v2 rfl rfl) h2
  have hsmall : Rows.uptoBulkAll ([d0, d1, d2] ++ []) ≤ 1048576 := of_decide_eq_true hk
  simp only [List.append_nil, Rows.uptoBulkAll] at hsmall
  clear hA0 hval0
  refine (walk v0 v1 v2 la lb lc (by omega) (by omega) (by omega) W ha hb hc).mono fun e W' ⟨he, bel⟩ => ?_
  subst he
  exact ⟨_, rfl, _, _, _, [], _, [], hW', trodAll_mk1 (shut_bool Try.underlying4 _), (trodAll_cons_mk (Below.trod laidOut (by kernel_rfl) (of_decide_eq_true (by kernel_rfl)) k0 bel lt0) (trodAll_cons_mk (Below.trod laidOut (by kernel_rfl) (of_decide_eq_true (by kernel_rfl)) k1 bel lt1) (trodAll_cons_mk (Below.trod laidOut (by kernel_rfl) (of_decide_eq_true (by kernel_rfl)) k2 bel lt2) trodAll_mk0))), rfl, bel.frame _, fun h => by cases h⟩

theorem proved : Rows.MergeNestsUptoSaid :=
  OpenClaim.holds_of_cond 7 Try.f7 rfl rfl rfl rfl rfl rfl rfl ⟨rfl, rfl, rfl, rfl, rfl⟩ rfl rfl rfl rfl rfl (by kernel_rfl) Try.func7 (by kernel_rfl)
    (of_decide_eq_true (by kernel_rfl)) (by unfold Func.isWrapper; first | (rw [if_pos (by decide +kernel)]; kernel_rfl) | (rw [if_neg (by decide +kernel)]; exact ⟨rfl, rfl⟩))
    (fun os started H enc _ F => lifted os started H enc F)
end Go.Proofs.Ytlhijbgdccejbaa.mergeNests

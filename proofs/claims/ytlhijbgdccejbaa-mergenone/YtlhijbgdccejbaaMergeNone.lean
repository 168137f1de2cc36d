/-
  What is proved: whatever n is, ranges that are nil and no ranges tell nothing, by Merge, Keep, Take and Over (MergeNone answers true, and no argument is changed), for every input.
-/
import Derived.Test.YtlhijbgdccejbaaRows
import Derived.Test.YtlhijbgdccejbaaM3Shown
import Derived.ProofKit
import Derived.OpenShut
namespace Go.Proofs.Ytlhijbgdccejbaa.mergeNone
open Go.ChangeShapes Go.WideShapes Go.ChangeAt Go.RowKit
open Go.Shelf Go.Sort
open Go.Lib hiding intOf

theorem rgs_none (w : World) : Rgs w (.slice none 0 0) [] (fun _ => False) := ⟨fun _ h => h.elim, .inl ⟨rfl, rfl⟩⟩

set_option maxRecDepth 100000 in
set_option maxHeartbeats 4000000 in
theorem walk (n : Int) (hn : n ≤ 9223372036854775807) (w : World) : Calls Try.prog 6 #[.int .i64 n] w fun e w' => e = .returned (.bool true) ∧ Below w.heap.size w w' := by
  go_enter Try.func6, Try.ntmps6
  go_wp2_with fail
  refine (shown_any _).mono ?_
  rintro e w1 ⟨rfl, B1⟩
  go_wp2_with fail
  refine (Merge_f (rgs_none w1) (by decide) (by decide)).mono ?_
  rintro e w2 ⟨g2, b2, X2, rfl, S2, B2, -⟩
  have K2 : Hid (Below w.heap.size w w2 ∧ Sn w2 (.func (.func g2) #[] b2) [] X2) := ⟨btr B1 B2, S2⟩
  clear B1 B2 S2
  go_wp2_with fail
  refine (all_f K2.out.2 (by decide)).mono ?_
  rintro e w3 ⟨a3, c3, rfl, -, B3⟩
  have K3 : Hid (Below w.heap.size w w3) := btr K2.out.1 B3
  clear B3 K2
  go_wp2_with fail
  refine (Merge_f (rgs_two (X1 := fun _ => False) (X2 := fun _ => False) (l1 := []) (l2 := []) (heap_alloc_new w3 _) (Sn.nil _ _ (fun _ h => h.elim)) (Sn.nil _ _ (fun _ h => h.elim))) (by decide) (by decide)).mono ?_
  rintro e w4 ⟨g4, b4, X4, rfl, S4, B4, -⟩
  have K4 : Hid (Below w.heap.size w w4 ∧ Sn w4 (.func (.func g4) #[] b4) [] X4) := ⟨btr K3.out (btr (bal w3 _) B4), S4⟩
  clear B4 S4 K3
  go_wp2_with fail
  refine (all_f K4.out.2 (by decide)).mono ?_
  rintro e w5 ⟨a5, c5, rfl, -, B5⟩
  have K5 : Hid (Below w.heap.size w w5) := btr K4.out.1 B5
  clear B5 K4
  go_wp2_with fail
  refine (KeepNil_f (Sn.nil w5 (fun _ => False) (fun _ h => h.elim))).mono ?_
  rintro e w6 ⟨g6, b6, X6, rfl, S6, B6⟩
  have K6 : Hid (Below w.heap.size w w6 ∧ Sn w6 (.func (.func g6) #[] b6) [] X6) := ⟨btr K5.out B6, S6⟩
  clear B6 S6 K5
  go_wp2_with fail
  refine (all_f K6.out.2 (by decide)).mono ?_
  rintro e w7 ⟨a7, c7, rfl, -, B7⟩
  have K7 : Hid (Below w.heap.size w w7) := btr K6.out.1 B7
  clear B7 K6
  go_wp2_with fail
  refine (Take_f (Sn.nil w7 (fun _ => False) (fun _ h => h.elim)) hn).mono ?_
  rintro e w8 ⟨g8, b8, X8, rfl, S8, B8⟩
  rw [List.take_nil] at S8
  have K8 : Hid (Below w.heap.size w w8 ∧ Sn w8 (.func (.func g8) #[] b8) [] X8) := ⟨btr K7.out B8, S8⟩
  clear B8 S8 K7
  go_wp2_with fail
  refine (all_f K8.out.2 (by decide)).mono ?_
  rintro e w9 ⟨a9, c9, rfl, -, B9⟩
  have K9 : Hid (Below w.heap.size w w9) := btr K8.out.1 B9
  clear B9 K8
  go_wp2_with fail
  have r1 : World.ownsRow ((w9.alloc (.cells #[.string ⟨#[97]⟩] 9)).alloc (.cells #[] 3)) w9.heap.size 9 1 (.slice (some ⟨w9.heap.size, 0, none⟩) 1 1) 1 [.string ⟨#[97]⟩] := (World.ownsRow_lit (base := w9.heap.size) (e := 9) (size := 1) w9 #[.string ⟨#[97]⟩] 1 (Nat.le_refl _) (by decide) rfl).alloc _
  have r2 : World.ownsRow ((w9.alloc (.cells #[.string ⟨#[97]⟩] 9)).alloc (.cells #[] 3)) w9.heap.size 3 1 (.slice (some ⟨w9.heap.size + 1, 0, none⟩) 0 0) 0 [] := by
    have := World.ownsRow_lit (base := w9.heap.size) (e := 3) (size := 1) (w9.alloc (.cells #[.string ⟨#[97]⟩] 9)) #[] 0 (by simp) (by decide) rfl
    rwa [World.size_alloc] at this
  refine (Over_any (l := []) r1 r2 rfl rfl rfl (by decide) (by decide)).mono ?_
  rintro e w10 ⟨f10, X10, rfl, S10, -, B10⟩
  have K10 : Hid (Below w.heap.size w w10 ∧ Sn w10 f10 [] X10) := ⟨btr K9.out (btr (bal w9 _) (btr (bal _ _) B10)), S10.sn⟩
  obtain ⟨g10, b10, rfl, -⟩ := S10
  clear B10 K9
  go_wp2_with fail
  refine (all_f K10.out.2 (by decide)).mono ?_
  rintro e w11 ⟨a11, c11, rfl, -, B11⟩
  have K11 : Hid (Below w.heap.size w w11) := btr K10.out.1 B11
  clear B11 K10
  go_wp2
  go_ret
  exact ⟨rfl, K11.out⟩

theorem own : ownKnob Try.prog.godebug = none := by kernel_rfl

set_option maxRecDepth 100000 in
theorem lifted (os : Os) (started : os.Started) (H : Type) (enc : TypeId × Value → H) :
    ReturnsInHanded {} Try.checked os 6 .any (Rows.mergeNoneSpec.pre6 enc Try.prog Try.f6 Rows.mergeNoneRow.domain false) (Rows.mergeNoneSpec.post enc Try.prog Try.f6 false true false false) := by
  refine returnsInHanded_of_change (C := Try.checked) own started (by kernel_rfl) Try.func6
    (ChangeSpec.witness6 (enc := enc) (C := Try.checked) false ⟨#[], #[.int .i64 0], []⟩ 8 (by kernel_rfl) (by kernel_rfl) (by kernel_rfl) (by kernel_rfl)) ?_
  intro W base args ds gs before hval0 hW hcnd _
  have hval : ∀ (j : Nat) t v, Try.f6.params[j]? = some t → args[j]? = some v → Value.okWide Try.prog W .any base t v := hval0
  have hW' := hW
  obtain ⟨p, q, hA0, hV, rfl, hfz, hnd⟩ := hW
  have hA : DataW.TrodAll enc Try.prog W 0 (fun _ => true) true Try.f6.params.toList args.toList ds p := hA0
  rw [Try.params6] at hA hval
  obtain ⟨v0, vs0, d0, ds0, p0, q0, hargs, rfl, rfl, h0, r0⟩ := trodAll_cons hA
  obtain ⟨rfl, rfl, rfl⟩ := trodAll_nil r0
  obtain rfl : args = #[v0] := by cases args; simp_all
  obtain ⟨rfl, rfl⟩ := trodVars_none hV
  obtain ⟨a0, rfl, rfl, rfl, w0⟩ := open_int Try.underlying3 (hval 0 3 v0 rfl rfl) h0
  have hb0 := bounds_i64 w0
  clear hA0 hval0
  refine (walk a0 (by omega) W).mono fun e W' ⟨he, bel⟩ => ?_
  subst he
  exact ⟨_, rfl, _, _, _, [], _, [], hW', trodAll_mk1 (shut_bool Try.underlying4 _), (trodAll_cons_mk (shut_int Try.underlying3 w0) trodAll_mk0), rfl, bel.frame _, fun h => by cases h⟩

theorem proved : Rows.MergeNoneSaid :=
  OpenClaim.holds_of_wide 6 Try.f6 rfl rfl rfl rfl rfl rfl rfl ⟨rfl, rfl, rfl, rfl, rfl⟩ rfl rfl rfl rfl rfl (by kernel_rfl) Try.func6 (by kernel_rfl)
    (of_decide_eq_true (by kernel_rfl)) (by unfold Func.isWrapper; first | (rw [if_pos (by decide +kernel)]; kernel_rfl) | (rw [if_neg (by decide +kernel)]; exact ⟨rfl, rfl⟩))
    (fun os started H enc _ => lifted os started H enc)
end Go.Proofs.Ytlhijbgdccejbaa.mergeNone

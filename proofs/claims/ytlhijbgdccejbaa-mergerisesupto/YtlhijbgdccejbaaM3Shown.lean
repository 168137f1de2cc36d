/-
  The document's examples (shown).
-/
import Derived.Test.YtlhijbgdccejbaaM3Lit
namespace Go.Proofs.Ytlhijbgdccejbaa
open Go.RowKit Go.Shelf Go.Sort
open Go.Lib hiding intOf

set_option maxRecDepth 100000 in
set_option maxHeartbeats 4000000 in
theorem shown_any (w : World) : Calls Try.prog 9 #[] w fun e w' => e = .returned (.bool true) ∧ Below w.heap.size w w' := by
  go_enter Try.func9, Try.ntmps9
  go_wp2_with fail
  refine (over_f (rw_lit [(⟨#[97]⟩, 1), (⟨#[99]⟩, 2)] (heap_alloc_new _ _) rfl) (by decide)).mono ?_
  rintro e w2 ⟨g1, b1, X1, rfl, S1, B1, -⟩
  have K : Hid (Below w.heap.size w w2 ∧ Sn w2 (.func (.func g1) #[] b1) _ X1) := ⟨btr (bal w _) B1, S1⟩
  clear S1 B1
  go_wp2_with fail
  refine (over_f (rw_lit [(⟨#[97]⟩, 3), (⟨#[98]⟩, 4)] (heap_alloc_new _ _) rfl) (by decide)).mono ?_
  rintro e w3 ⟨g2, b2, X2, rfl, S2, B2, -⟩
  have b := btr (bal w2 _) B2
  have K2 : Hid (Below w.heap.size w w3 ∧ Sn w3 (.func (.func g1) #[] b1) _ X1 ∧ Sn w3 (.func (.func g2) #[] b2) _ X2) := ⟨btr K.out.1 b, K.out.2.below b, S2⟩
  clear S2 B2 b K
  go_wp2_with fail
  refine (Merge_f (rgs_two (heap_alloc_new w3 _) (K2.out.2.1.below (bal w3 _)) (K2.out.2.2.below (bal w3 _))) (by decide) (by decide)).mono ?_
  rintro e w4 ⟨g3, b3, X3, rfl, S3, B3, -⟩
  rw [shown_list] at S3
  have K3 : Hid (Below w.heap.size w w4 ∧ Sn w4 (.func (.func g3) #[] b3) _ X3) := ⟨btr K2.out.1 (btr (bal w3 _) B3), S3⟩
  clear S3 B3 K2
  go_wp2_with fail
  refine (all_f K3.out.2 (by decide)).mono ?_
  rintro e w5 ⟨a4, c4, rfl, R4, B4⟩
  have K4 : Hid (Below w.heap.size w w5 ∧ Rw w5 (.slice a4 3 c4) _) := ⟨btr K3.out.1 B4, R4⟩
  clear R4 B4 K3
  go_wp2_with fail
  refine (over_f (rw_lit [(⟨#[120]⟩, 1), (⟨#[121]⟩, 2)] (heap_alloc_new _ _) rfl) (by decide)).mono ?_
  rintro e w6 ⟨g5, b5, X5, rfl, S5, B5, -⟩
  have b := btr (bal w5 _) B5
  have K5 : Hid (Below w.heap.size w w6 ∧ Rw w6 (.slice a4 3 c4) _ ∧ Sn w6 (.func (.func g5) #[] b5) _ X5) := ⟨btr K4.out.1 b, K4.out.2.b b, S5⟩
  clear S5 B5 b K4
  go_wp2_with fail
  refine (Take_f (n := 1) K5.out.2.2 (by decide)).mono ?_
  rintro e w7 ⟨g6, b6, X6, rfl, S6, B6⟩
  have K6 : Hid (Below w.heap.size w w7 ∧ Rw w7 (.slice a4 3 c4) _ ∧ Sn w7 (.func (.func g6) #[] b6) [(⟨#[120]⟩, 1)] X6) := ⟨btr K5.out.1 B6, K5.out.2.1.b B6, S6⟩
  clear S6 B6 K5
  go_wp2_with fail
  refine (all_f K6.out.2.2 (by decide)).mono ?_
  rintro e w8 ⟨a7, c7, rfl, R7, B7⟩
  have K7 : Hid (Below w.heap.size w w8 ∧ Rw w8 (.slice a4 3 c4) _ ∧ Rw w8 (.slice a7 1 c7) _) := ⟨btr K6.out.1 B7, K6.out.2.1.b B7, R7⟩
  clear R7 B7 K6
  go_wp2_with fail
  refine (same_any (K7.out.2.1.b (bal w8 _)) (rw_lit [(⟨#[97]⟩, 1), (⟨#[98]⟩, 4), (⟨#[99]⟩, 2)] (heap_alloc_new w8 _) rfl) (by decide)).mono ?_
  rintro e w9 ⟨rfl, B8⟩
  have b := btr (bal w8 _) B8
  have K8 : Hid (Below w.heap.size w w9 ∧ Rw w9 (.slice a7 1 c7) _) := ⟨btr K7.out.1 b, K7.out.2.2.b b⟩
  clear B8 b K7
  go_wp2_with fail
  refine (same_any (K8.out.2.b (bal w9 _)) (rw_lit [(⟨#[120]⟩, 1)] (heap_alloc_new w9 _) rfl) (by decide)).mono ?_
  rintro e w10 ⟨rfl, B9⟩
  have K9 : Hid (Below w.heap.size w w10) := btr K8.out.1 (btr (bal w9 _) B9)
  clear B9 K8
  go_wp2
  go_ret
  exact ⟨rfl, K9.out⟩
end Go.Proofs.Ytlhijbgdccejbaa

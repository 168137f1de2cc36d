/-
  Package expr: the document's examples.
-/
import Derived.Test.YtpbfdaijnndilaaGreatDoorGExprV
import Derived.BigQuiet
namespace Go.Proofs.YtpbfdaijnndilaaGreatDoor.x10
open Go.RowKit Go.Shelf Go.Sort
open Go.Lib hiding intOf

def exA : List P10 := [(2, -1, -1, 3, 0, [97]), (1, -1, -1, 1, 1, []), (1, -1, -1, 1, 2, []), (6, 1, 2, 0, 0, []), (9, 0, 3, 0, 0, []), (1, -1, -1, 1, 7, []), (11, 4, 5, 0, 0, [])]
def exB : List P10 := [(2, -1, -1, 3, 0, [120]), (4, 0, -1, 0, 0, []), (1, -1, -1, 3, 0, [97]), (1, -1, -1, 3, 0, [98]), (13, 2, 3, 0, 0, []), (17, 1, 4, 0, 0, [])]
def exV : List Vr := [(⟨#[97]⟩, 1, 5, [])]
theorem prs_a2 : prs 40 [97, 32, 43, 32, 49, 32, 42, 32, 50, 32, 61, 61, 32, 55] = some (exA, 0, 0) := by kernel_rfl
theorem prs_b2 : prs 40 [49, 32, 43] = some ([], 10, 3) := by kernel_rfl
theorem prs_c2 : prs 40 [110, 111, 116, 32, 120, 32, 97, 110, 100, 32, 34, 97, 34, 32, 60, 32, 34, 98, 34] = some (exB, 0, 0) := by kernel_rfl
theorem evl_a : evl exA exV = ((2, 1, []), 0) := by kernel_rfl
theorem prt_b : prtE exB = ([110, 111, 116, 32, 120, 32, 97, 110, 100, 32, 34, 97, 34, 32, 60, 32, 34, 98, 34], 0) := by kernel_rfl
theorem exA_vk : ∀ p ∈ exA, p.2.2.2.2.2.length ≤ 4611686018427387904 := by unfold exA; intro p hp; simp only [List.mem_cons, List.not_mem_nil, or_false] at hp; rcases hp with rfl | rfl | rfl | rfl | rfl | rfl | rfl <;> exact Nat.le_of_ble_eq_true rfl
theorem exB_vk : ∀ p ∈ exB, Vk p.2.2.2 := by unfold exB; intro p hp; simp only [List.mem_cons, List.not_mem_nil, or_false] at hp; rcases hp with rfl | rfl | rfl | rfl | rfl | rfl <;> exact ⟨⟨by decide, by decide⟩, ⟨by decide, by decide⟩, by decide⟩
theorem exV_sm : Sm9 exV := by unfold exV; intro p hp; simp only [List.mem_cons, List.not_mem_nil, or_false] at hp; subst hp; exact ⟨by decide, ⟨by decide, by decide⟩, ⟨by decide, by decide⟩, by decide⟩
theorem vs_one (w : World) (n : ByteArray) (k m : Int) (s : List UInt8) : Vs (w.alloc (.cells #[.string n, .int .i64 k, .int .i64 m, .string (S s)] 50)) (.slice (some ⟨w.heap.size, 0, none⟩) 1 1) [(n, k, m, s)] := by
  refine ⟨_, 1, rfl, ⟨Nat.le_refl _, fun h => by cases h⟩, .inr ⟨w.heap.size, 0, rfl, by simp, fun j hj => ?_⟩⟩
  obtain rfl : j = 0 := by simp only [List.length_cons, List.length_nil] at hj; omega
  exact ⟨World.cell?_alloc_new _ _ _ 0, World.cell?_alloc_new _ _ _ 1, World.cell?_alloc_new _ _ _ 2, World.cell?_alloc_new _ _ _ 3⟩

set_option maxHeartbeats 4000000 in
set_option maxRecDepth 100000 in
theorem shown10_any {w : World} {B : Nat} (hg : Gx B w) (hv : Gv B w) (hB : B ≤ w.heap.size) : Calls Tryz.prog 9 #[] w fun e w' => e = .returned (.bool true) ∧ Below w.heap.size w w' := by
  have HG : Hid (∀ W, Below w.heap.size w W → Gx B W ∧ Gv B W ∧ B ≤ W.heap.size) := fun W hW => ⟨hg.below (hW.mono hB), hv.below (hW.mono hB), Nat.le_trans hB hW.size⟩
  have C1 := Parse_any 40 w hg hB prs_a2
  have hS1 : S [97, 32, 43, 32, 49, 32, 42, 32, 50, 32, 61, 61, 32, 55] = ⟨#[97, 32, 43, 32, 49, 32, 42, 32, 50, 32, 61, 61, 32, 55]⟩ := rfl
  have hS2 : S [49, 32, 43] = ⟨#[49, 32, 43]⟩ := rfl
  have hS3 : S [110, 111, 116, 32, 120, 32, 97, 110, 100, 32, 34, 97, 34, 32, 60, 32, 34, 98, 34] = ⟨#[110, 111, 116, 32, 120, 32, 97, 110, 100, 32, 34, 97, 34, 32, 60, 32, 34, 98, 34]⟩ := rfl
  rw [hS1] at C1
  have HP2 : Hid (∀ W, Below w.heap.size w W → Calls Tryz.prog 10 #[.string ⟨#[49, 32, 43]⟩] W (PrP W ([], 10, 3))) := fun W hW => by
    have := Parse_any 40 W (HG.out W hW).1 (HG.out W hW).2.2 prs_b2
    rw [hS2] at this
    exact this
  have HP3 : Hid (∀ W, Below w.heap.size w W → Calls Tryz.prog 10 #[.string ⟨#[110, 111, 116, 32, 120, 32, 97, 110, 100, 32, 34, 97, 34, 32, 60, 32, 34, 98, 34]⟩] W (PrP W (exB, 0, 0))) := fun W hW => by
    have := Parse_any 40 W (HG.out W hW).1 (HG.out W hW).2.2 prs_c2
    rw [hS3] at this
    exact this
  have HEV : Hid (∀ W xv vv, Below w.heap.size w W → Es W xv exA → Vs W vv exV → Calls Tryz.prog 20 #[xv, vv] W fun e w' => e = .returned (.tuple #[.agg #[.int .i64 2, .int .i64 1, .string ⟨#[]⟩], .int .i64 0]) ∧ Below W.heap.size W w') := fun W xv vv hW hE hV => by
    have := Eval_any hE (HG.out W hW).1 (HG.out W hW).2.2 hV (by decide) exV_sm exA_vk (by decide)
    rw [evl_a] at this
    exact this
  have HPR : Hid (∀ W xv, Below w.heap.size w W → Es W xv exB → Calls Tryz.prog 13 #[xv] W fun e w' => e = .returned (.tuple #[.string ⟨#[110, 111, 116, 32, 120, 32, 97, 110, 100, 32, 34, 97, 34, 32, 60, 32, 34, 98, 34]⟩, .int .i64 0]) ∧ Below W.heap.size W w') := fun W xv hW hE => by
    have := Print_any hE (HG.out W hW).1 (HG.out W hW).2.1 (HG.out W hW).2.2 exB_vk (by decide)
    rw [prt_b] at this
    rw [← hS3]
    exact this
  clear hg hv hS1 hS2 hS3
  have q1 : (exA.length : Int) = 7 := rfl
  go_enter Tryz.func9, Tryz.ntmps9
  go_wp2_with (first
    | (go_at_call_of 10 (Value.string ⟨#[97, 32, 43, 32, 49, 32, 42, 32, 50, 32, 61, 61, 32, 55]⟩); refine C1.mono ?_; rintro e w1 ⟨v1, rfl, hx1, hb1⟩; (have HX1 : Hid (Es w1 v1 exA) := Px.es hx1); obtain ⟨a1, c1, hv1, -⟩ := row_slice hx1; (have hlA : (exA, (0 : Int), (0 : Int)).1.length = 7 := rfl); rw [hlA] at hv1; subst hv1; (have HB1 : Hid (Below w.heap.size w w1) := hb1); clear hx1 hb1 hlA C1)
    | (go_at_call 20; refine (HEV.out _ _ _ (HB1.out.alloc HB1.out.size _) (HX1.out.below ((Below.refl _ w1).alloc (Nat.le_refl _) _)) (vs_one w1 ⟨#[97]⟩ 1 5 [])).mono ?_; rintro e w2 ⟨rfl, hb2⟩; (have HB2 : Hid (Below w.heap.size w w2) := bel_of (HB1.out.alloc HB1.out.size _) hb2 (Nat.le_refl _)); clear hb2)
    | (go_at_call_of 10 (Value.string ⟨#[49, 32, 43]⟩); refine (HP2.out _ (HB2.out.alloc HB2.out.size _)).mono ?_; rintro e w3 ⟨v3, rfl, hx3, hb3⟩; obtain ⟨a3, c3, hv3, -⟩ := row_slice hx3; (have hl3 : (([] : List P10), (10 : Int), (3 : Int)).1.length = 0 := rfl); rw [hl3] at hv3; subst hv3; (have HB3 : Hid (Below w.heap.size w w3) := bel_of (HB2.out.alloc HB2.out.size _) hb3 (Nat.le_refl _)); (have hz3 : w3.heap[w2.heap.size]? = some (.cells #[.int .i64 2, .int .i64 1, .string ⟨#[]⟩] 48 (0, 0)) := (hb3.block w2.heap.size (by simp)).trans (heap_alloc_new w2 _)); (have HZ3 : Hid (w3.heap[w2.heap.size]? = some (.cells #[.int .i64 2, .int .i64 1, .string ⟨#[]⟩] 48 (0, 0))) := hz3); clear hx3 hb3 hz3 hl3)
    | (go_at_call_of 10 (Value.string ⟨#[110, 111, 116, 32, 120, 32, 97, 110, 100, 32, 34, 97, 34, 32, 60, 32, 34, 98, 34]⟩); refine (HP3.out _ HB3.out).mono ?_; rintro e w4 ⟨v4, rfl, hx4, hb4⟩; (have HX4 : Hid (Es w4 v4 exB) := Px.es hx4); obtain ⟨a4, c4, hv4, -⟩ := row_slice hx4; (have hl4 : (exB, (0 : Int), (0 : Int)).1.length = 6 := rfl); rw [hl4] at hv4; subst hv4; (have HB4 : Hid (Below w.heap.size w w4) := bel_of HB3.out hb4 (Nat.le_refl _)); (have HZ4 : Hid (w4.heap[w2.heap.size]? = some (.cells #[.int .i64 2, .int .i64 1, .string ⟨#[]⟩] 48 (0, 0))) := (hb4.block _ (Array.getElem?_eq_some_iff.1 HZ3.out).1).trans HZ3.out); clear hx4 hb4 hl4)
    | (go_at_call 13; refine (HPR.out _ _ HB4.out HX4.out).mono ?_; rintro e w5 ⟨rfl, hb5⟩; (have HB5 : Hid (Below w.heap.size w w5) := bel_of HB4.out hb5 (Nat.le_refl _)); (have hz5 : w5.heap[w2.heap.size]? = some (.cells #[.int .i64 2, .int .i64 1, .string ⟨#[]⟩] 48 (0, 0)) := (hb5.block _ (Array.getElem?_eq_some_iff.1 HZ4.out).1).trans HZ4.out); (have z0 := cell_of (k := 0) hz5 rfl); (have z1 := cell_of (k := 1) hz5 rfl); (have z2 := cell_of (k := 2) hz5 rfl); clear hb5 hz5))
  go_ret
  exact ⟨rfl, HB5.out⟩
end Go.Proofs.YtpbfdaijnndilaaGreatDoor.x10

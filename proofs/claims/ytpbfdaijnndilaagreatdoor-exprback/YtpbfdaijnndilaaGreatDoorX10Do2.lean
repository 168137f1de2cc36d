/-
  Package expr's operators: what is divided by 0; each operator by its number.
-/
import Derived.Test.YtpbfdaijnndilaaGreatDoorGExprD
import Derived.Test.YtpbfdaijnndilaaGreatDoorX10Opr
import Derived.Test.YtpbfdaijnndilaaGreatDoorX10Dcd
namespace Go.Proofs.YtpbfdaijnndilaaGreatDoor.x10
open Go.RowKit Go.Shelf Go.Sort
open Go.Lib hiding intOf
open Go.Maps

set_option maxHeartbeats 2000000 in
set_option maxRecDepth 100000 in
theorem op7_no (a b : V9) (hb0 : b.2.1 = 0) (w : World) : Calls Tryz.prog 75 #[vA' a, vA' b] w (Vp w (.no 11 0)) := by
  have CD := div_no b hb0
  obtain ⟨a1, a2, a3⟩ := a
  obtain ⟨b1, b2, b3⟩ := b
  unfold vA' at CD ⊢
  simp only at CD hb0 ⊢
  clear hb0
  have HB : Hid (∀ W, Below (((w.alloc (.cells #[.int .i64 a1, .int .i64 a2, .string (S a3)] 48)).alloc (.cells #[.int .i64 b1, .int .i64 b2, .string (S b3)] 48)).alloc (.cells #[.int .i64 0, .int .i64 0, .string ⟨#[]⟩] 48)).heap.size (((w.alloc (.cells #[.int .i64 a1, .int .i64 a2, .string (S a3)] 48)).alloc (.cells #[.int .i64 b1, .int .i64 b2, .string (S b3)] 48)).alloc (.cells #[.int .i64 0, .int .i64 0, .string ⟨#[]⟩] 48)) W → Below w.heap.size w W) := fun W h => (three_b w _ _ _).trans (h.mono (three_b w _ _ _).size)
  have HT : Hid (∀ W, Below (((w.alloc (.cells #[.int .i64 a1, .int .i64 a2, .string (S a3)] 48)).alloc (.cells #[.int .i64 b1, .int .i64 b2, .string (S b3)] 48)).alloc (.cells #[.int .i64 0, .int .i64 0, .string ⟨#[]⟩] 48)).heap.size (((w.alloc (.cells #[.int .i64 a1, .int .i64 a2, .string (S a3)] 48)).alloc (.cells #[.int .i64 b1, .int .i64 b2, .string (S b3)] 48)).alloc (.cells #[.int .i64 0, .int .i64 0, .string ⟨#[]⟩] 48)) W → W.cell? ⟨w.heap.size, 1, none⟩ = some (.int .i64 a2) ∧ W.cell? ⟨w.heap.size + 1, 0, none⟩ = some (.int .i64 b1) ∧ W.cell? ⟨w.heap.size + 1, 1, none⟩ = some (.int .i64 b2) ∧ W.cell? ⟨w.heap.size + 1, 2, none⟩ = some (.string (S b3))) := two_box w a1 a2 b1 b2 (S a3) (S b3) _
  go_enter Tryz.func75, Tryz.ntmps75
  go_wp2
  refine wp_region_held_drew (S := (fun W => W.cell? ⟨w.heap.size, 1, none⟩ = some (.int .i64 a2) ∧ W.cell? ⟨w.heap.size + 1, 0, none⟩ = some (.int .i64 b1) ∧ W.cell? ⟨w.heap.size + 1, 1, none⟩ = some (.int .i64 b2) ∧ W.cell? ⟨w.heap.size + 1, 2, none⟩ = some (.string (S b3)))) (by kernel_rfl) (by first | go_keep | exact HT.out _ (Below.refl _ _) | exact HT.out _ (Below.refl _ _).drew) (fun hHeld => ?_)
  refine wpAnyH_take (i := 0) (v := ?_) rfl (by kernel_rfl) (by kernel_rfl) (by kernel_rfl) (fun _ _ _ h => h) (Or.inl ⟨by rfl, ?_⟩) (by assumption) ?_
  rotate_left 1
  · intro w hSw; (try dsimp only at hSw); go_simp; try with_reducible rfl
  refine wpAnyH_take (i := 1) (v := ?_) rfl (by kernel_rfl) (by kernel_rfl) (by kernel_rfl) (fun _ _ _ h => h) (Or.inl ⟨by rfl, ?_⟩) (by assumption) ?_
  rotate_left 1
  · intro w hSw; (try dsimp only at hSw); go_simp; try with_reducible rfl
  refine wpAnyH_take (i := 2) (v := ?_) rfl (by kernel_rfl) (by kernel_rfl) (by kernel_rfl) (fun _ _ _ h => h) (Or.inl ⟨by rfl, ?_⟩) (by assumption) ?_
  rotate_left 1
  · intro w hSw; (try dsimp only at hSw); go_simp; try with_reducible rfl
  refine wpAnyH_ready (rs := [3]) (by kernel_rfl) (by simp) ?_
  refine AllReadyH.cons rfl (fun K _ => ?_) AllReadyH.nil
  go_simp
  (go_at_call 76; refine (CD _).mono ?_; rintro e w1 ⟨rfl, hb1⟩; exact ⟨rfl, rfl, HB.out w1 ⟨hb1.os, hb1.tape, hb1.output, hb1.size, hb1.block⟩⟩)
set_option maxHeartbeats 2000000 in
set_option maxRecDepth 100000 in
theorem op8_no (a b : V9) (hb0 : b.2.1 = 0) (w : World) : Calls Tryz.prog 77 #[vA' a, vA' b] w (Vp w (.no 11 0)) := by
  have CD := div_no b hb0
  obtain ⟨a1, a2, a3⟩ := a
  obtain ⟨b1, b2, b3⟩ := b
  unfold vA' at CD ⊢
  simp only at CD hb0 ⊢
  clear hb0
  have HB : Hid (∀ W, Below (((w.alloc (.cells #[.int .i64 a1, .int .i64 a2, .string (S a3)] 48)).alloc (.cells #[.int .i64 b1, .int .i64 b2, .string (S b3)] 48)).alloc (.cells #[.int .i64 0, .int .i64 0, .string ⟨#[]⟩] 48)).heap.size (((w.alloc (.cells #[.int .i64 a1, .int .i64 a2, .string (S a3)] 48)).alloc (.cells #[.int .i64 b1, .int .i64 b2, .string (S b3)] 48)).alloc (.cells #[.int .i64 0, .int .i64 0, .string ⟨#[]⟩] 48)) W → Below w.heap.size w W) := fun W h => (three_b w _ _ _).trans (h.mono (three_b w _ _ _).size)
  have HT : Hid (∀ W, Below (((w.alloc (.cells #[.int .i64 a1, .int .i64 a2, .string (S a3)] 48)).alloc (.cells #[.int .i64 b1, .int .i64 b2, .string (S b3)] 48)).alloc (.cells #[.int .i64 0, .int .i64 0, .string ⟨#[]⟩] 48)).heap.size (((w.alloc (.cells #[.int .i64 a1, .int .i64 a2, .string (S a3)] 48)).alloc (.cells #[.int .i64 b1, .int .i64 b2, .string (S b3)] 48)).alloc (.cells #[.int .i64 0, .int .i64 0, .string ⟨#[]⟩] 48)) W → W.cell? ⟨w.heap.size, 1, none⟩ = some (.int .i64 a2) ∧ W.cell? ⟨w.heap.size + 1, 0, none⟩ = some (.int .i64 b1) ∧ W.cell? ⟨w.heap.size + 1, 1, none⟩ = some (.int .i64 b2) ∧ W.cell? ⟨w.heap.size + 1, 2, none⟩ = some (.string (S b3))) := two_box w a1 a2 b1 b2 (S a3) (S b3) _
  go_enter Tryz.func77, Tryz.ntmps77
  go_wp2
  refine wp_region_held_drew (S := (fun W => W.cell? ⟨w.heap.size, 1, none⟩ = some (.int .i64 a2) ∧ W.cell? ⟨w.heap.size + 1, 0, none⟩ = some (.int .i64 b1) ∧ W.cell? ⟨w.heap.size + 1, 1, none⟩ = some (.int .i64 b2) ∧ W.cell? ⟨w.heap.size + 1, 2, none⟩ = some (.string (S b3)))) (by kernel_rfl) (by first | go_keep | exact HT.out _ (Below.refl _ _) | exact HT.out _ (Below.refl _ _).drew) (fun hHeld => ?_)
  refine wpAnyH_take (i := 0) (v := ?_) rfl (by kernel_rfl) (by kernel_rfl) (by kernel_rfl) (fun _ _ _ h => h) (Or.inl ⟨by rfl, ?_⟩) (by assumption) ?_
  rotate_left 1
  · intro w hSw; (try dsimp only at hSw); go_simp; try with_reducible rfl
  refine wpAnyH_take (i := 1) (v := ?_) rfl (by kernel_rfl) (by kernel_rfl) (by kernel_rfl) (fun _ _ _ h => h) (Or.inl ⟨by rfl, ?_⟩) (by assumption) ?_
  rotate_left 1
  · intro w hSw; (try dsimp only at hSw); go_simp; try with_reducible rfl
  refine wpAnyH_take (i := 2) (v := ?_) rfl (by kernel_rfl) (by kernel_rfl) (by kernel_rfl) (fun _ _ _ h => h) (Or.inl ⟨by rfl, ?_⟩) (by assumption) ?_
  rotate_left 1
  · intro w hSw; (try dsimp only at hSw); go_simp; try with_reducible rfl
  refine wpAnyH_ready (rs := [3]) (by kernel_rfl) (by simp) ?_
  refine AllReadyH.cons rfl (fun K _ => ?_) AllReadyH.nil
  go_simp
  (go_at_call 76; refine (CD _).mono ?_; rintro e w1 ⟨rfl, hb1⟩; exact ⟨rfl, rfl, HB.out w1 ⟨hb1.os, hb1.tape, hb1.output, hb1.size, hb1.block⟩⟩)
def Ent0 (gf : Nat) : Prop := ∀ args w, (callFunc gf args).run Tryz.prog w = .ok (.enter gf args) w
/-- each operator by its number -/
theorem ops_all (op : Int) (h : 3 ≤ op ∧ op ≤ 18) (a b : V9) (sa : a.2.2.length ≤ 1024) (sb : b.2.2.length ≤ 1024) : ∃ f, oprD.atKey (.int .i64 op) (.lit (.int .i64 (-1))) = fD f ∧ Ent0 f ∧ ∀ w, Calls Tryz.prog f #[vA' a, vA' b] w (Vp w (opV op a b)) := by
  have hc : op = 3 ∨ op = 4 ∨ op = 5 ∨ op = 6 ∨ op = 7 ∨ op = 8 ∨ op = 9 ∨ op = 10 ∨ op = 11 ∨ op = 12 ∨ op = 13 ∨ op = 14 ∨ op = 15 ∨ op = 16 ∨ op = 17 ∨ op = 18 := by omega
  clear h
  rcases hc with rfl | rfl | rfl | rfl | rfl | rfl | rfl | rfl | rfl | rfl | rfl | rfl | rfl | rfl | rfl | rfl
  · exact ⟨69, by kernel_rfl, enters_of Tryz.func69 (by kernel_rfl) rfl, fun w => op3_any a b w⟩
  · exact ⟨71, by kernel_rfl, enters_of Tryz.func71 (by kernel_rfl) rfl, fun w => op4_any a b w⟩
  · exact ⟨73, by kernel_rfl, enters_of Tryz.func73 (by kernel_rfl) rfl, fun w => op5_any a b w⟩
  · exact ⟨74, by kernel_rfl, enters_of Tryz.func74 (by kernel_rfl) rfl, fun w => op6_any a b w⟩
  · exact ⟨75, by kernel_rfl, enters_of Tryz.func75 (by kernel_rfl) rfl, fun w => by
      show Calls Tryz.prog _ _ w (Vp w (if b.2.1 = 0 then .no 11 0 else _))
      split
      · rename_i hz; exact op7_no a b hz w
      · rename_i hz; exact op7_ok a b hz w⟩
  · exact ⟨77, by kernel_rfl, enters_of Tryz.func77 (by kernel_rfl) rfl, fun w => by
      show Calls Tryz.prog _ _ w (Vp w (if b.2.1 = 0 then .no 11 0 else _))
      split
      · rename_i hz; exact op8_no a b hz w
      · rename_i hz; exact op8_ok a b hz w⟩
  · exact ⟨78, by kernel_rfl, enters_of Tryz.func78 (by kernel_rfl) rfl, fun w => by
      show Calls Tryz.prog _ _ w (Vp w (sumV a b))
      by_cases ha : a.1 = 1
      · exact sum_int a b ha w
      · by_cases hl : 1024 < a.2.2.length + b.2.2.length
        · exact sum_no a b ha hl ⟨by omega, by omega⟩ w
        · exact sum_text a b ha hl w⟩
  · exact ⟨79, by kernel_rfl, enters_of Tryz.func79 (by kernel_rfl) rfl, fun w => op10_any a b w⟩
  · exact ⟨80, by kernel_rfl, enters_of Tryz.func80 (by kernel_rfl) rfl, fun w => op11_any a b w⟩
  · exact ⟨81, by kernel_rfl, enters_of Tryz.func81 (by kernel_rfl) rfl, fun w => op12_any a b w⟩
  · exact ⟨82, by kernel_rfl, enters_of Tryz.func82 (by kernel_rfl) rfl, fun w => op13_any a b w⟩
  · exact ⟨84, by kernel_rfl, enters_of Tryz.func84 (by kernel_rfl) rfl, fun w => op14_any a b w⟩
  · exact ⟨85, by kernel_rfl, enters_of Tryz.func85 (by kernel_rfl) rfl, fun w => op15_any a b w⟩
  · exact ⟨86, by kernel_rfl, enters_of Tryz.func86 (by kernel_rfl) rfl, fun w => op16_any a b w⟩
  · exact ⟨68, by kernel_rfl, enters_of Tryz.func68 (by kernel_rfl) rfl, fun w => op17_any a b w⟩
  · exact ⟨68, by kernel_rfl, enters_of Tryz.func68 (by kernel_rfl) rfl, fun w => op17_any a b w⟩
end Go.Proofs.YtpbfdaijnndilaaGreatDoor.x10

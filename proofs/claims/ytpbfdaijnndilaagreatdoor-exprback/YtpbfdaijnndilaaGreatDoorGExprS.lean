/-
  Package expr: kinds; divisor, sum.
-/
import Derived.Test.YtpbfdaijnndilaaGreatDoorGMayE
namespace Go.Proofs.YtpbfdaijnndilaaGreatDoor.x10
open Go.RowKit Go.Shelf Go.Sort
open Go.Lib hiding intOf

/-- the kind of what an operator makes of such kinds; 0: none -/
def kof (op a b : Int) : Int :=
  if op = 3 then (if a = 1 then 1 else 0) else if op = 4 then (if a = 2 then 2 else 0) else if op = 5 then (if a = 3 then 1 else 0)
  else if op = 6 ∨ op = 7 ∨ op = 8 ∨ op = 10 then (if a = 1 ∧ b = 1 then 1 else 0)
  else if op = 9 then (if a = b ∧ a ≠ 2 then a else 0)
  else if op = 11 ∨ op = 12 then (if a = b then 2 else 0)
  else if op ≤ 16 then (if a = b ∧ a ≠ 2 then 2 else 0) else (if a = 2 ∧ b = 2 then 2 else 0)

set_option maxHeartbeats 4000000 in
set_option maxRecDepth 100000 in
theorem kind_any (op a b : Int) (h : 3 ≤ op ∧ op ≤ 18) (w : World) : Calls Tryz.prog 66 #[.int .i64 op, .int .i64 a, .int .i64 b] w fun e w' => e = .returned (.int .i64 (kof op a b)) ∧ w' = w := by
  have hc : op = 3 ∨ op = 4 ∨ op = 5 ∨ op = 6 ∨ op = 7 ∨ op = 8 ∨ op = 9 ∨ op = 10 ∨ op = 11 ∨ op = 12 ∨ op = 13 ∨ op = 14 ∨ op = 15 ∨ op = 16 ∨ op = 17 ∨ op = 18 := by omega
  clear h
  rcases hc with rfl | rfl | rfl | rfl | rfl | rfl | rfl | rfl | rfl | rfl | rfl | rfl | rfl | rfl | rfl | rfl
  all_goals
    go_enter Tryz.func66, Tryz.ntmps66
    go_wp2
    all_goals
      go_ret
      refine ⟨?_, rfl⟩
      simp_all [kof]
end Go.Proofs.YtpbfdaijnndilaaGreatDoor.x10
namespace Go.Proofs.YtpbfdaijnndilaaGreatDoor.x10
open Go.RowKit Go.Shelf Go.Sort
open Go.Lib hiding intOf

/-- how what makes a value ends -/
def Vp (w : World) (r : Ot V9) (e : Ending) (w' : World) : Prop := match r with
  | .ok v => e = .returned (vA' v) ∧ Below w.heap.size w w'
  | .no er a => e = .panicked (wrg er a) ∧ Below w.heap.size w w'
  | .out => True
set_option maxHeartbeats 400000 in
theorem div_no (v : V9) (hv : v.2.1 = 0) (w : World) : Calls Tryz.prog 76 #[vA' v] w fun e w' => e = .panicked (wrg 11 0) ∧ Below w.heap.size w w' := by
  obtain ⟨v1, v2, v3⟩ := v
  unfold vA'
  simp only at hv ⊢
  subst hv
  have CG := giveUp_any 11 0
  go_enter Tryz.func76, Tryz.ntmps76
  go_wp2_with (go_at_call 65; refine (CG _).mono ?_; rintro e w1 ⟨rfl, hw1⟩; rw [hw1]; clear hw1)
  exact ⟨rfl, rfl, (Below.refl _ w).alloc (Nat.le_refl _) _⟩
set_option maxHeartbeats 400000 in
theorem div_ok (v : V9) (hv : ¬ v.2.1 = 0) (w : World) : Calls Tryz.prog 76 #[vA' v] w fun e w' => e = .returned (.int .i64 v.2.1) ∧ Below w.heap.size w w' := by
  obtain ⟨v1, v2, v3⟩ := v
  unfold vA'
  simp only at hv ⊢
  have hb : (v2 == 0) = false := beq_eq_false_iff_ne.2 hv
  go_enter Tryz.func76, Tryz.ntmps76
  go_wp2
  go_ret
  exact ⟨rfl, (Below.refl _ w).alloc (Nat.le_refl _) _⟩
theorem three_b (w : World) (x y z : Obj) : Below w.heap.size w (((w.alloc x).alloc y).alloc z) := (((Below.refl _ w).alloc (Nat.le_refl _) _).alloc (by rw [World.size_alloc]; omega) _).alloc (by rw [World.size_alloc, World.size_alloc]; omega) _
def sumV (a b : V9) : Ot V9 := if a.1 = 1 then .ok (1, IntKind.i64.wrap (a.2.1 + b.2.1), []) else if 1024 < a.2.2.length + b.2.2.length then .no 13 0 else .ok (3, 0, a.2.2 ++ b.2.2)

set_option maxHeartbeats 1000000 in
set_option maxRecDepth 100000 in
theorem sum_no (a b : V9) (ha : ¬ a.1 = 1) (hl : 1024 < a.2.2.length + b.2.2.length) (hs : a.2.2.length ≤ 1099511627776 ∧ b.2.2.length ≤ 1099511627776) (w : World) : Calls Tryz.prog 78 #[vA' a, vA' b] w (Vp w (sumV a b)) := by
  have HV : Hid (sumV a b = .no 13 0) := by show _ = _; unfold sumV; rw [if_neg ha, if_pos hl]
  obtain ⟨a1, a2, a3⟩ := a
  obtain ⟨b1, b2, b3⟩ := b
  unfold vA'
  simp only at ha hl hs ⊢
  have CG := giveUp_any 13 0
  have hb : (a1 == 1) = false := beq_eq_false_iff_ne.2 ha
  have z1 := S_size a3
  have z2 := S_size b3
  have hw : IntKind.i64.wrap ((a3.length : Int) + (b3.length : Int)) = (a3.length : Int) + (b3.length : Int) := by rw [IntKind.wrap_i64]; omega
  have hgt : (1024 : Int) < (a3.length : Int) + (b3.length : Int) := by omega
  go_enter Tryz.func78, Tryz.ntmps78
  go_wp2_with (go_at_call 65; refine (CG _).mono ?_; rintro e w1 ⟨rfl, hw1⟩; rw [hw1]; clear hw1)
  rw [HV.out]
  exact ⟨rfl, rfl, three_b w _ _ _⟩

set_option maxHeartbeats 1000000 in
set_option maxRecDepth 100000 in
theorem sum_int (a b : V9) (ha : a.1 = 1) (w : World) : Calls Tryz.prog 78 #[vA' a, vA' b] w (Vp w (sumV a b)) := by
  have HV : Hid (sumV a b = .ok (1, IntKind.i64.wrap (a.2.1 + b.2.1), [])) := by show _ = _; unfold sumV; rw [if_pos ha]
  obtain ⟨a1, a2, a3⟩ := a
  obtain ⟨b1, b2, b3⟩ := b
  unfold vA'
  simp only at ha HV ⊢
  subst ha
  have CN := number_v (IntKind.i64.wrap (a2 + b2))
  have HX : Hid (∀ x y w1, Below (((w.alloc x).alloc y).alloc (.cells #[.int .i64 0, .int .i64 0, .string ⟨#[]⟩] 48)).heap.size (((w.alloc x).alloc y).alloc (.cells #[.int .i64 0, .int .i64 0, .string ⟨#[]⟩] 48)) w1 → (w1.cell? ⟨w.heap.size + 1 + 1, 0, none⟩ = some (.int .i64 0) ∧ w1.cell? ⟨w.heap.size + 1 + 1, 1, none⟩ = some (.int .i64 0) ∧ w1.cell? ⟨w.heap.size + 1 + 1, 2, none⟩ = some (.string ⟨#[]⟩) ∧ ∀ k, w1.frozen? ⟨w.heap.size + 1 + 1, k, none⟩ = false) ∧ w.heap.size + 1 + 1 < w1.heap.size ∧ Hid (∀ u0 u1 u2, Below w.heap.size w (((w1.setCell ⟨w.heap.size + 1 + 1, 0, none⟩ u0).setCell ⟨w.heap.size + 1 + 1, 1, none⟩ u1).setCell ⟨w.heap.size + 1 + 1, 2, none⟩ u2))) := fun x y w1 hb => by
    have hsz : (((w.alloc x).alloc y).alloc (.cells #[.int .i64 0, .int .i64 0, .string ⟨#[]⟩] 48)).heap.size = w.heap.size + 1 + 1 + 1 := by rw [World.size_alloc, World.size_alloc, World.size_alloc]
    have ho : (((w.alloc x).alloc y).alloc (.cells #[.int .i64 0, .int .i64 0, .string ⟨#[]⟩] 48)).heap[w.heap.size + 1 + 1]? = some (.cells #[.int .i64 0, .int .i64 0, .string ⟨#[]⟩] 48 (0, 0)) := by
      have h2 : ((w.alloc x).alloc y).heap.size = w.heap.size + 1 + 1 := by rw [World.size_alloc, World.size_alloc]
      rw [← h2]
      show ((((w.alloc x).alloc y).heap).push _)[_]? = _
      exact Array.getElem?_push_size
    have h3 := (hb.block (w.heap.size + 1 + 1) (by omega)).trans ho
    have hB := (three_b w x y (.cells #[.int .i64 0, .int .i64 0, .string ⟨#[]⟩] 48)).trans (hb.mono (three_b w x y _).size)
    have hz := hb.size
    refine ⟨⟨by simp [World.cell?, h3], by simp [World.cell?, h3], by simp [World.cell?, h3], fun k => by simp [World.frozen?, h3]⟩, by omega, fun u0 u1 u2 => ?_⟩
    have c := (((Ch.refl (fun k => k = w.heap.size + 1 + 1) w1).setCell ⟨w.heap.size + 1 + 1, 0, none⟩ u0 (fun _ => rfl)).setCell ⟨w.heap.size + 1 + 1, 1, none⟩ u1 (fun _ => rfl)).setCell ⟨w.heap.size + 1 + 1, 2, none⟩ u2 (fun _ => rfl)
    exact hB.trans (below_of_ch c hB.size (fun k hk e => by omega))
  have HWR : Hid (∀ r : Int, _) := fun r => number_v r
  obtain ⟨r, hr⟩ : ∃ r, IntKind.i64.wrap (a2 + b2) = r := ⟨_, rfl⟩
  rw [hr] at CN HV
  clear HWR
  go_enter Tryz.func78, Tryz.ntmps78
  go_wp2_with (go_at_call 70; refine (CN _).mono ?_; rintro e w1 ⟨rfl, hb1⟩; obtain ⟨⟨d0, d1, d2, df⟩, hl1, HY⟩ := HX.out _ _ w1 hb1; have f0 := df 0; have f1 := df 1; have f2 := df 2; clear hb1 CN)
  rw [HV.out]
  exact bodyPost_ret (v := .agg #[.int .i64 1, .int .i64 r, .string ⟨#[]⟩]) (by simp [results, Tryz.results78, go_sem, d0, d1, d2]) rfl ⟨rfl, HY.out _ _ _⟩
end Go.Proofs.YtpbfdaijnndilaaGreatDoor.x10
namespace Go.Proofs.YtpbfdaijnndilaaGreatDoor.x10
open Go.RowKit Go.Shelf Go.Sort
open Go.Lib hiding intOf

set_option maxHeartbeats 1000000 in
set_option maxRecDepth 100000 in
theorem sum_text (a b : V9) (ha : ¬ a.1 = 1) (hl : ¬ 1024 < a.2.2.length + b.2.2.length) (w : World) : Calls Tryz.prog 78 #[vA' a, vA' b] w (Vp w (sumV a b)) := by
  have HV : Hid (sumV a b = .ok (3, 0, a.2.2 ++ b.2.2)) := by show _ = _; unfold sumV; rw [if_neg ha, if_neg hl]
  obtain ⟨a1, a2, a3⟩ := a
  obtain ⟨b1, b2, b3⟩ := b
  unfold vA'
  simp only at ha hl HV ⊢
  have CN := text_v (a3 ++ b3)
  have hss : S a3 ++ S b3 = S (a3 ++ b3) := by apply ByteArray.ext; simp [S]
  have hb : (a1 == 1) = false := beq_eq_false_iff_ne.2 ha
  have z1 := S_size a3
  have z2 := S_size b3
  have hw : IntKind.i64.wrap ((a3.length : Int) + (b3.length : Int)) = (a3.length : Int) + (b3.length : Int) := by rw [IntKind.wrap_i64]; omega
  have hgt : ¬ (1024 : Int) < (a3.length : Int) + (b3.length : Int) := by omega
  have hcap : ¬ 9223372036854775807 < (S a3).size + (S b3).size := by rw [z1, z2]; omega
  have hcap2 : ¬ 9223372036854775807 < a3.length + b3.length := by omega
  have HX : Hid (∀ x y w1, Below (((w.alloc x).alloc y).alloc (.cells #[.int .i64 0, .int .i64 0, .string ⟨#[]⟩] 48)).heap.size (((w.alloc x).alloc y).alloc (.cells #[.int .i64 0, .int .i64 0, .string ⟨#[]⟩] 48)) w1 → (w1.cell? ⟨w.heap.size + 1 + 1, 0, none⟩ = some (.int .i64 0) ∧ w1.cell? ⟨w.heap.size + 1 + 1, 1, none⟩ = some (.int .i64 0) ∧ w1.cell? ⟨w.heap.size + 1 + 1, 2, none⟩ = some (.string ⟨#[]⟩) ∧ ∀ k, w1.frozen? ⟨w.heap.size + 1 + 1, k, none⟩ = false) ∧ w.heap.size + 1 + 1 < w1.heap.size ∧ Hid (∀ u0 u1 u2, Below w.heap.size w (((w1.setCell ⟨w.heap.size + 1 + 1, 0, none⟩ u0).setCell ⟨w.heap.size + 1 + 1, 1, none⟩ u1).setCell ⟨w.heap.size + 1 + 1, 2, none⟩ u2))) := fun x y w1 hb => by
    have hsz : (((w.alloc x).alloc y).alloc (.cells #[.int .i64 0, .int .i64 0, .string ⟨#[]⟩] 48)).heap.size = w.heap.size + 1 + 1 + 1 := by rw [World.size_alloc, World.size_alloc, World.size_alloc]
    have ho : (((w.alloc x).alloc y).alloc (.cells #[.int .i64 0, .int .i64 0, .string ⟨#[]⟩] 48)).heap[w.heap.size + 1 + 1]? = some (.cells #[.int .i64 0, .int .i64 0, .string ⟨#[]⟩] 48 (0, 0)) := by
      have h2 : ((w.alloc x).alloc y).heap.size = w.heap.size + 1 + 1 := by rw [World.size_alloc, World.size_alloc]
      rw [← h2]
      show ((((w.alloc x).alloc y).heap).push _)[_]? = _
      exact Array.getElem?_push_size
    have h3 := (hb.block (w.heap.size + 1 + 1) (by omega)).trans ho
    have hB := (three_b w x y (.cells #[.int .i64 0, .int .i64 0, .string ⟨#[]⟩] 48)).trans (hb.mono (three_b w x y _).size)
    have hz := hb.size
    refine ⟨⟨by simp [World.cell?, h3], by simp [World.cell?, h3], by simp [World.cell?, h3], fun k => by simp [World.frozen?, h3]⟩, by omega, fun u0 u1 u2 => ?_⟩
    have c := (((Ch.refl (fun k => k = w.heap.size + 1 + 1) w1).setCell ⟨w.heap.size + 1 + 1, 0, none⟩ u0 (fun _ => rfl)).setCell ⟨w.heap.size + 1 + 1, 1, none⟩ u1 (fun _ => rfl)).setCell ⟨w.heap.size + 1 + 1, 2, none⟩ u2 (fun _ => rfl)
    exact hB.trans (below_of_ch c hB.size (fun k hk e => by omega))
  obtain ⟨u, hu⟩ : ∃ u, S (a3 ++ b3) = u := ⟨_, rfl⟩
  have HU : Hid (S (a3 ++ b3) = u) := hu
  rw [hu] at CN hss
  clear hu
  go_enter Tryz.func78, Tryz.ntmps78
  go_wp2_with (go_at_call 112; refine (CN _).mono ?_; rintro e w1 ⟨rfl, hb1⟩; obtain ⟨⟨d0, d1, d2, df⟩, hl1, HY⟩ := HX.out _ _ w1 hb1; have f0 := df 0; have f1 := df 1; have f2 := df 2; clear hb1 CN)
  rw [HV.out]
  exact bodyPost_ret (v := .agg #[.int .i64 3, .int .i64 0, .string u]) (by simp [results, Tryz.results78, go_sem, d0, d1, d2]) rfl ⟨by unfold vA'; simp only; rw [HU.out], HY.out _ _ _⟩
end Go.Proofs.YtpbfdaijnndilaaGreatDoor.x10

/-
  Package expr: its operators; what is divided.
-/
import Derived.Test.YtpbfdaijnndilaaGreatDoorX10Opr
import Derived.Deep.RegionHeld3
namespace Go.Proofs.YtpbfdaijnndilaaGreatDoor.x10
open Go.RowKit Go.Shelf Go.Sort
open Go.Lib hiding intOf

def nm (n : Int) : V9 := (1, n, [])
def tr (x : Bool) : V9 := (2, if x then 1 else 0, [])
/-- what an operator makes of values whose kinds fit -/
def opV (op : Int) (a b : V9) : Ot V9 :=
  if op = 3 then .ok (nm (RowKit.wrap64 (-a.2.1))) else if op = 4 then .ok (tr (decide (a.2.1 = 0))) else if op = 5 then .ok (nm (a.2.2.length : Int))
  else if op = 6 then .ok (nm (RowKit.wrap64 (a.2.1 * b.2.1))) else if op = 7 then (if b.2.1 = 0 then .no 11 0 else .ok (nm (RowKit.wrap64 (a.2.1.tdiv b.2.1)))) else if op = 8 then (if b.2.1 = 0 then .no 11 0 else .ok (nm (a.2.1.tmod b.2.1)))
  else if op = 9 then sumV a b else if op = 10 then .ok (nm (RowKit.wrap64 (a.2.1 - b.2.1)))
  else if op = 11 then .ok (tr (decide (a = b))) else if op = 12 then .ok (tr (decide (a ≠ b)))
  else if op = 13 then .ok (tr (lesV a b)) else if op = 14 then .ok (tr (!lesV b a)) else if op = 15 then .ok (tr (lesV b a)) else if op = 16 then .ok (tr (!lesV a b))
  else .ok b
theorem str_ne9 {a b : List UInt8} (h : a ≠ b) : ((S a).toList == (S b).toList) = false := by rw [S_toList, S_toList]; exact beq_eq_false_iff_ne.2 h
theorem int_ne9 {a b : Int} (h : a ≠ b) : (a == b) = false := beq_eq_false_iff_ne.2 h
/-- behind three boxes: the third one, in which the result lies -/
theorem three_box (w : World) (x y : Obj) (w1 : World) (hb : Below (((w.alloc x).alloc y).alloc (.cells #[.int .i64 0, .int .i64 0, .string ⟨#[]⟩] 48)).heap.size (((w.alloc x).alloc y).alloc (.cells #[.int .i64 0, .int .i64 0, .string ⟨#[]⟩] 48)) w1) : (w1.cell? ⟨w.heap.size + 1 + 1, 0, none⟩ = some (.int .i64 0) ∧ w1.cell? ⟨w.heap.size + 1 + 1, 1, none⟩ = some (.int .i64 0) ∧ w1.cell? ⟨w.heap.size + 1 + 1, 2, none⟩ = some (.string ⟨#[]⟩) ∧ ∀ k, w1.frozen? ⟨w.heap.size + 1 + 1, k, none⟩ = false) ∧ w.heap.size + 1 + 1 < w1.heap.size ∧ Hid (∀ u0 u1 u2, Below w.heap.size w (((w1.setCell ⟨w.heap.size + 1 + 1, 0, none⟩ u0).setCell ⟨w.heap.size + 1 + 1, 1, none⟩ u1).setCell ⟨w.heap.size + 1 + 1, 2, none⟩ u2)) := by
  have hsz : (((w.alloc x).alloc y).alloc (.cells #[.int .i64 0, .int .i64 0, .string ⟨#[]⟩] 48)).heap.size = w.heap.size + 1 + 1 + 1 := by rw [World.size_alloc, World.size_alloc, World.size_alloc]
  have ho : (((w.alloc x).alloc y).alloc (.cells #[.int .i64 0, .int .i64 0, .string ⟨#[]⟩] 48)).heap[w.heap.size + 1 + 1]? = some (.cells #[.int .i64 0, .int .i64 0, .string ⟨#[]⟩] 48 (0, 0)) := by
    have h2 : ((w.alloc x).alloc y).heap.size = w.heap.size + 1 + 1 := by rw [World.size_alloc, World.size_alloc]
    rw [← h2]
    show ((((w.alloc x).alloc y).heap).push _)[_]? = _
    exact Array.getElem?_push_size
  have h3 := (hb.block (w.heap.size + 1 + 1) (by omega)).trans ho
  have hB := (three_b w x y (.cells #[.int .i64 0, .int .i64 0, .string ⟨#[]⟩] 48)).trans (hb.mono (three_b w x y _).size)
  have hz := hb.size
  refine ⟨⟨by simp [World.cell?, h3], by simp [World.cell?, h3], by simp [World.cell?, h3], fun k => by simp [World.frozen?, h3]⟩, by omega, fun u0 u1 u2 => ?_⟩
  have c := (((Ch.refl (fun k => k = w.heap.size + 1 + 1) w1).setCell ⟨w.heap.size + 1 + 1, 0, none⟩ u0 (fun _ => rfl)).setCell ⟨w.heap.size + 1 + 1, 1, none⟩ u1 (fun _ => rfl)).setCell ⟨w.heap.size + 1 + 1, 2, none⟩ u2 (fun _ => rfl)
  exact hB.trans (below_of_ch c hB.size (fun k hk e => by omega))

set_option maxHeartbeats 1000000 in
set_option maxRecDepth 100000 in
theorem op3_any (a b : V9) (w : World) : Calls Tryz.prog 69 #[vA' a, vA' b] w (Vp w (.ok (nm (RowKit.wrap64 (-a.2.1))))) := by
  obtain ⟨a1, a2, a3⟩ := a
  obtain ⟨b1, b2, b3⟩ := b
  unfold vA'
  simp only
  have CN := fun r => number_v r
  go_enter Tryz.func69, Tryz.ntmps69
  go_wp2_with (go_at_call 70; refine (CN _ _).mono ?_; rintro e w1 ⟨rfl, hb1⟩; obtain ⟨⟨d0, d1, d2, df⟩, hl1, HY⟩ := three_box w _ _ w1 hb1; have f0 := df 0; have f1 := df 1; have f2 := df 2; clear hb1 CN)
  exact bodyPost_ret (v := .agg #[.int .i64 1, .int .i64 (RowKit.wrap64 (-a2)), .string ⟨#[]⟩]) (by simp [results, Tryz.results69, go_sem, d0, d1, d2]) rfl ⟨rfl, HY.out _ _ _⟩

set_option maxHeartbeats 1000000 in
set_option maxRecDepth 100000 in
theorem op6_any (a b : V9) (w : World) : Calls Tryz.prog 74 #[vA' a, vA' b] w (Vp w (.ok (nm (RowKit.wrap64 (a.2.1 * b.2.1))))) := by
  obtain ⟨a1, a2, a3⟩ := a
  obtain ⟨b1, b2, b3⟩ := b
  unfold vA'
  simp only
  have CN := fun r => number_v r
  go_enter Tryz.func74, Tryz.ntmps74
  go_wp2_with (go_at_call 70; refine (CN _ _).mono ?_; rintro e w1 ⟨rfl, hb1⟩; obtain ⟨⟨d0, d1, d2, df⟩, hl1, HY⟩ := three_box w _ _ w1 hb1; have f0 := df 0; have f1 := df 1; have f2 := df 2; clear hb1 CN)
  exact bodyPost_ret (v := .agg #[.int .i64 1, .int .i64 (RowKit.wrap64 (a2 * b2)), .string ⟨#[]⟩]) (by simp [results, Tryz.results74, go_sem, d0, d1, d2]) rfl ⟨rfl, HY.out _ _ _⟩

set_option maxHeartbeats 1000000 in
set_option maxRecDepth 100000 in
theorem op10_any (a b : V9) (w : World) : Calls Tryz.prog 79 #[vA' a, vA' b] w (Vp w (.ok (nm (RowKit.wrap64 (a.2.1 - b.2.1))))) := by
  obtain ⟨a1, a2, a3⟩ := a
  obtain ⟨b1, b2, b3⟩ := b
  unfold vA'
  simp only
  have CN := fun r => number_v r
  go_enter Tryz.func79, Tryz.ntmps79
  go_wp2_with (go_at_call 70; refine (CN _ _).mono ?_; rintro e w1 ⟨rfl, hb1⟩; obtain ⟨⟨d0, d1, d2, df⟩, hl1, HY⟩ := three_box w _ _ w1 hb1; have f0 := df 0; have f1 := df 1; have f2 := df 2; clear hb1 CN)
  exact bodyPost_ret (v := .agg #[.int .i64 1, .int .i64 (RowKit.wrap64 (a2 - b2)), .string ⟨#[]⟩]) (by simp [results, Tryz.results79, go_sem, d0, d1, d2]) rfl ⟨rfl, HY.out _ _ _⟩

set_option maxHeartbeats 1000000 in
set_option maxRecDepth 100000 in
theorem op5_any (a b : V9) (w : World) : Calls Tryz.prog 73 #[vA' a, vA' b] w (Vp w (.ok (nm (a.2.2.length : Int)))) := by
  obtain ⟨a1, a2, a3⟩ := a
  obtain ⟨b1, b2, b3⟩ := b
  unfold vA'
  simp only
  have CN := fun r => number_v r
  have z1 := S_size a3
  go_enter Tryz.func73, Tryz.ntmps73
  go_wp2_with (go_at_call 70; refine (CN _ _).mono ?_; rintro e w1 ⟨rfl, hb1⟩; obtain ⟨⟨d0, d1, d2, df⟩, hl1, HY⟩ := three_box w _ _ w1 hb1; have f0 := df 0; have f1 := df 1; have f2 := df 2; clear hb1 CN)
  exact bodyPost_ret (v := .agg #[.int .i64 1, .int .i64 (a3.length : Int), .string ⟨#[]⟩]) (by simp [results, Tryz.results73, go_sem, d0, d1, d2]) rfl ⟨rfl, HY.out _ _ _⟩

set_option maxHeartbeats 1000000 in
set_option maxRecDepth 100000 in
theorem op4_any (a b : V9) (w : World) : Calls Tryz.prog 71 #[vA' a, vA' b] w (Vp w (.ok (tr (decide (a.2.1 = 0))))) := by
  obtain ⟨a1, a2, a3⟩ := a
  obtain ⟨b1, b2, b3⟩ := b
  unfold vA'
  simp only
  by_cases h : a2 = 0
  · rw [decide_eq_true h]
    have hb : (a2 == 0) = true := beq_iff_eq.2 h
    clear h
    have CT := truth_v true
    simp only [if_true] at CT
    go_enter Tryz.func71, Tryz.ntmps71
    go_wp2_with (go_at_call 72; refine (CT _).mono ?_; rintro e w2 ⟨rfl, hb2⟩; obtain ⟨⟨d0, d1, d2, df⟩, hl1, HY⟩ := three_box w _ _ w2 hb2; have f0 := df 0; have f1 := df 1; have f2 := df 2; clear hb2 CT)
    exact bodyPost_ret (v := .agg #[.int .i64 2, .int .i64 1, .string ⟨#[]⟩]) (by simp [results, Tryz.results71, go_sem, d0, d1, d2]) rfl ⟨rfl, HY.out _ _ _⟩
  · rw [decide_eq_false h]
    have hb : (a2 == 0) = false := beq_eq_false_iff_ne.2 h
    clear h
    have CT := truth_v false
    simp only [Bool.false_eq_true, if_false] at CT
    go_enter Tryz.func71, Tryz.ntmps71
    go_wp2_with (go_at_call 72; refine (CT _).mono ?_; rintro e w2 ⟨rfl, hb2⟩; obtain ⟨⟨d0, d1, d2, df⟩, hl1, HY⟩ := three_box w _ _ w2 hb2; have f0 := df 0; have f1 := df 1; have f2 := df 2; clear hb2 CT)
    exact bodyPost_ret (v := .agg #[.int .i64 2, .int .i64 0, .string ⟨#[]⟩]) (by simp [results, Tryz.results71, go_sem, d0, d1, d2]) rfl ⟨rfl, HY.out _ _ _⟩

set_option maxHeartbeats 1000000 in
set_option maxRecDepth 100000 in
theorem op13_any (a b : V9) (w : World) : Calls Tryz.prog 82 #[vA' a, vA' b] w (Vp w (.ok (tr (lesV a b)))) := by
  have CL := lesV_any a b
  obtain ⟨a1, a2, a3⟩ := a
  obtain ⟨b1, b2, b3⟩ := b
  unfold vA'
  simp only
  unfold vA at CL
  simp only at CL
  cases hq : lesV (a1, a2, a3) (b1, b2, b3) with
  | true =>
    rw [hq] at CL
    clear hq
    have CT := truth_v true
    simp only [if_true] at CT
    go_enter Tryz.func82, Tryz.ntmps82
    go_wp2_with (first
      | (go_at_call 83; refine (CL _).mono ?_; rintro e w1 ⟨rfl, hb1⟩; clear CL)
      | (go_at_call 72; refine (CT _).mono ?_; rintro e w2 ⟨rfl, hb2⟩; obtain ⟨⟨d0, d1, d2, df⟩, hl1, HY⟩ := three_box w _ _ w2 (hb1.trans (hb2.mono hb1.size)); have f0 := df 0; have f1 := df 1; have f2 := df 2; clear hb2 CT))
    exact bodyPost_ret (v := .agg #[.int .i64 2, .int .i64 1, .string ⟨#[]⟩]) (by simp [results, Tryz.results82, go_sem, d0, d1, d2]) rfl ⟨rfl, HY.out _ _ _⟩
  | false =>
    rw [hq] at CL
    clear hq
    have CT := truth_v false
    simp only [Bool.false_eq_true, if_false] at CT
    go_enter Tryz.func82, Tryz.ntmps82
    go_wp2_with (first
      | (go_at_call 83; refine (CL _).mono ?_; rintro e w1 ⟨rfl, hb1⟩; clear CL)
      | (go_at_call 72; refine (CT _).mono ?_; rintro e w2 ⟨rfl, hb2⟩; obtain ⟨⟨d0, d1, d2, df⟩, hl1, HY⟩ := three_box w _ _ w2 (hb1.trans (hb2.mono hb1.size)); have f0 := df 0; have f1 := df 1; have f2 := df 2; clear hb2 CT))
    exact bodyPost_ret (v := .agg #[.int .i64 2, .int .i64 0, .string ⟨#[]⟩]) (by simp [results, Tryz.results82, go_sem, d0, d1, d2]) rfl ⟨rfl, HY.out _ _ _⟩

set_option maxHeartbeats 1000000 in
set_option maxRecDepth 100000 in
theorem op14_any (a b : V9) (w : World) : Calls Tryz.prog 84 #[vA' a, vA' b] w (Vp w (.ok (tr (!lesV b a)))) := by
  have CL := lesV_any b a
  obtain ⟨a1, a2, a3⟩ := a
  obtain ⟨b1, b2, b3⟩ := b
  unfold vA'
  simp only
  unfold vA at CL
  simp only at CL
  cases hq : lesV (b1, b2, b3) (a1, a2, a3) with
  | true =>
    rw [hq] at CL
    clear hq
    have CT := truth_v false
    simp only [Bool.false_eq_true, if_false] at CT
    go_enter Tryz.func84, Tryz.ntmps84
    go_wp2_with (first
      | (go_at_call 83; refine (CL _).mono ?_; rintro e w1 ⟨rfl, hb1⟩; clear CL)
      | (go_at_call 72; refine (CT _).mono ?_; rintro e w2 ⟨rfl, hb2⟩; obtain ⟨⟨d0, d1, d2, df⟩, hl1, HY⟩ := three_box w _ _ w2 (hb1.trans (hb2.mono hb1.size)); have f0 := df 0; have f1 := df 1; have f2 := df 2; clear hb2 CT))
    exact bodyPost_ret (v := .agg #[.int .i64 2, .int .i64 0, .string ⟨#[]⟩]) (by simp [results, Tryz.results84, go_sem, d0, d1, d2]) rfl ⟨rfl, HY.out _ _ _⟩
  | false =>
    rw [hq] at CL
    clear hq
    have CT := truth_v true
    simp only [if_true] at CT
    go_enter Tryz.func84, Tryz.ntmps84
    go_wp2_with (first
      | (go_at_call 83; refine (CL _).mono ?_; rintro e w1 ⟨rfl, hb1⟩; clear CL)
      | (go_at_call 72; refine (CT _).mono ?_; rintro e w2 ⟨rfl, hb2⟩; obtain ⟨⟨d0, d1, d2, df⟩, hl1, HY⟩ := three_box w _ _ w2 (hb1.trans (hb2.mono hb1.size)); have f0 := df 0; have f1 := df 1; have f2 := df 2; clear hb2 CT))
    exact bodyPost_ret (v := .agg #[.int .i64 2, .int .i64 1, .string ⟨#[]⟩]) (by simp [results, Tryz.results84, go_sem, d0, d1, d2]) rfl ⟨rfl, HY.out _ _ _⟩

set_option maxHeartbeats 1000000 in
set_option maxRecDepth 100000 in
theorem op15_any (a b : V9) (w : World) : Calls Tryz.prog 85 #[vA' a, vA' b] w (Vp w (.ok (tr (lesV b a)))) := by
  have CL := lesV_any b a
  obtain ⟨a1, a2, a3⟩ := a
  obtain ⟨b1, b2, b3⟩ := b
  unfold vA'
  simp only
  unfold vA at CL
  simp only at CL
  cases hq : lesV (b1, b2, b3) (a1, a2, a3) with
  | true =>
    rw [hq] at CL
    clear hq
    have CT := truth_v true
    simp only [if_true] at CT
    go_enter Tryz.func85, Tryz.ntmps85
    go_wp2_with (first
      | (go_at_call 83; refine (CL _).mono ?_; rintro e w1 ⟨rfl, hb1⟩; clear CL)
      | (go_at_call 72; refine (CT _).mono ?_; rintro e w2 ⟨rfl, hb2⟩; obtain ⟨⟨d0, d1, d2, df⟩, hl1, HY⟩ := three_box w _ _ w2 (hb1.trans (hb2.mono hb1.size)); have f0 := df 0; have f1 := df 1; have f2 := df 2; clear hb2 CT))
    exact bodyPost_ret (v := .agg #[.int .i64 2, .int .i64 1, .string ⟨#[]⟩]) (by simp [results, Tryz.results85, go_sem, d0, d1, d2]) rfl ⟨rfl, HY.out _ _ _⟩
  | false =>
    rw [hq] at CL
    clear hq
    have CT := truth_v false
    simp only [Bool.false_eq_true, if_false] at CT
    go_enter Tryz.func85, Tryz.ntmps85
    go_wp2_with (first
      | (go_at_call 83; refine (CL _).mono ?_; rintro e w1 ⟨rfl, hb1⟩; clear CL)
      | (go_at_call 72; refine (CT _).mono ?_; rintro e w2 ⟨rfl, hb2⟩; obtain ⟨⟨d0, d1, d2, df⟩, hl1, HY⟩ := three_box w _ _ w2 (hb1.trans (hb2.mono hb1.size)); have f0 := df 0; have f1 := df 1; have f2 := df 2; clear hb2 CT))
    exact bodyPost_ret (v := .agg #[.int .i64 2, .int .i64 0, .string ⟨#[]⟩]) (by simp [results, Tryz.results85, go_sem, d0, d1, d2]) rfl ⟨rfl, HY.out _ _ _⟩

set_option maxHeartbeats 1000000 in
set_option maxRecDepth 100000 in
theorem op16_any (a b : V9) (w : World) : Calls Tryz.prog 86 #[vA' a, vA' b] w (Vp w (.ok (tr (!lesV a b)))) := by
  have CL := lesV_any a b
  obtain ⟨a1, a2, a3⟩ := a
  obtain ⟨b1, b2, b3⟩ := b
  unfold vA'
  simp only
  unfold vA at CL
  simp only at CL
  cases hq : lesV (a1, a2, a3) (b1, b2, b3) with
  | true =>
    rw [hq] at CL
    clear hq
    have CT := truth_v false
    simp only [Bool.false_eq_true, if_false] at CT
    go_enter Tryz.func86, Tryz.ntmps86
    go_wp2_with (first
      | (go_at_call 83; refine (CL _).mono ?_; rintro e w1 ⟨rfl, hb1⟩; clear CL)
      | (go_at_call 72; refine (CT _).mono ?_; rintro e w2 ⟨rfl, hb2⟩; obtain ⟨⟨d0, d1, d2, df⟩, hl1, HY⟩ := three_box w _ _ w2 (hb1.trans (hb2.mono hb1.size)); have f0 := df 0; have f1 := df 1; have f2 := df 2; clear hb2 CT))
    exact bodyPost_ret (v := .agg #[.int .i64 2, .int .i64 0, .string ⟨#[]⟩]) (by simp [results, Tryz.results86, go_sem, d0, d1, d2]) rfl ⟨rfl, HY.out _ _ _⟩
  | false =>
    rw [hq] at CL
    clear hq
    have CT := truth_v true
    simp only [if_true] at CT
    go_enter Tryz.func86, Tryz.ntmps86
    go_wp2_with (first
      | (go_at_call 83; refine (CL _).mono ?_; rintro e w1 ⟨rfl, hb1⟩; clear CL)
      | (go_at_call 72; refine (CT _).mono ?_; rintro e w2 ⟨rfl, hb2⟩; obtain ⟨⟨d0, d1, d2, df⟩, hl1, HY⟩ := three_box w _ _ w2 (hb1.trans (hb2.mono hb1.size)); have f0 := df 0; have f1 := df 1; have f2 := df 2; clear hb2 CT))
    exact bodyPost_ret (v := .agg #[.int .i64 2, .int .i64 1, .string ⟨#[]⟩]) (by simp [results, Tryz.results86, go_sem, d0, d1, d2]) rfl ⟨rfl, HY.out _ _ _⟩

set_option maxHeartbeats 2000000 in
set_option maxRecDepth 100000 in
theorem op11_any (a b : V9) (w : World) : Calls Tryz.prog 80 #[vA' a, vA' b] w (Vp w (.ok (tr (decide (a = b))))) := by
  obtain ⟨a1, a2, a3⟩ := a
  obtain ⟨b1, b2, b3⟩ := b
  unfold vA'
  simp only
  by_cases h1 : a1 = b1
  · subst h1
    by_cases h2 : a2 = b2
    · subst h2
      by_cases h3 : a3 = b3
      · subst h3
        rw [show decide (((a1, a2, a3) : V9) = (a1, a2, a3)) = true from by simp]
        have CT := truth_v true
        simp only [if_true] at CT
        go_enter Tryz.func80, Tryz.ntmps80
        go_wp2_with (go_at_call 72; refine (CT _).mono ?_; rintro e w2 ⟨rfl, hb2⟩; obtain ⟨⟨d0, d1, d2, df⟩, hl1, HY⟩ := three_box w _ _ w2 hb2; have f0 := df 0; have f1 := df 1; have f2 := df 2; clear hb2 CT)
        exact bodyPost_ret (v := .agg #[.int .i64 2, .int .i64 1, .string ⟨#[]⟩]) (by simp [results, Tryz.results80, go_sem, d0, d1, d2]) rfl ⟨rfl, HY.out _ _ _⟩
      · rw [show decide (((a1, a2, a3) : V9) = (a1, a2, b3)) = false from by exact decide_eq_false (fun z => h3 (congrArg (fun q => q.2.2) z))]
        have e := str_ne9 h3
        clear h3
        have CT := truth_v false
        simp only [Bool.false_eq_true, if_false] at CT
        go_enter Tryz.func80, Tryz.ntmps80
        go_wp2_with (go_at_call 72; refine (CT _).mono ?_; rintro e w2 ⟨rfl, hb2⟩; obtain ⟨⟨d0, d1, d2, df⟩, hl1, HY⟩ := three_box w _ _ w2 hb2; have f0 := df 0; have f1 := df 1; have f2 := df 2; clear hb2 CT)
        exact bodyPost_ret (v := .agg #[.int .i64 2, .int .i64 0, .string ⟨#[]⟩]) (by simp [results, Tryz.results80, go_sem, d0, d1, d2]) rfl ⟨rfl, HY.out _ _ _⟩
    · rw [show decide (((a1, a2, a3) : V9) = (a1, b2, b3)) = false from by exact decide_eq_false (fun z => h2 (congrArg (fun q => q.2.1) z))]
      have e := int_ne9 h2
      clear h2
      have CT := truth_v false
      simp only [Bool.false_eq_true, if_false] at CT
      go_enter Tryz.func80, Tryz.ntmps80
      go_wp2_with (go_at_call 72; refine (CT _).mono ?_; rintro e w2 ⟨rfl, hb2⟩; obtain ⟨⟨d0, d1, d2, df⟩, hl1, HY⟩ := three_box w _ _ w2 hb2; have f0 := df 0; have f1 := df 1; have f2 := df 2; clear hb2 CT)
      exact bodyPost_ret (v := .agg #[.int .i64 2, .int .i64 0, .string ⟨#[]⟩]) (by simp [results, Tryz.results80, go_sem, d0, d1, d2]) rfl ⟨rfl, HY.out _ _ _⟩
  · rw [show decide (((a1, a2, a3) : V9) = (b1, b2, b3)) = false from by exact decide_eq_false (fun z => h1 (congrArg Prod.fst z))]
    have e := int_ne9 h1
    clear h1
    have CT := truth_v false
    simp only [Bool.false_eq_true, if_false] at CT
    go_enter Tryz.func80, Tryz.ntmps80
    go_wp2_with (go_at_call 72; refine (CT _).mono ?_; rintro e w2 ⟨rfl, hb2⟩; obtain ⟨⟨d0, d1, d2, df⟩, hl1, HY⟩ := three_box w _ _ w2 hb2; have f0 := df 0; have f1 := df 1; have f2 := df 2; clear hb2 CT)
    exact bodyPost_ret (v := .agg #[.int .i64 2, .int .i64 0, .string ⟨#[]⟩]) (by simp [results, Tryz.results80, go_sem, d0, d1, d2]) rfl ⟨rfl, HY.out _ _ _⟩

set_option maxHeartbeats 2000000 in
set_option maxRecDepth 100000 in
theorem op12_any (a b : V9) (w : World) : Calls Tryz.prog 81 #[vA' a, vA' b] w (Vp w (.ok (tr (decide (a ≠ b))))) := by
  obtain ⟨a1, a2, a3⟩ := a
  obtain ⟨b1, b2, b3⟩ := b
  unfold vA'
  simp only
  by_cases h1 : a1 = b1
  · subst h1
    by_cases h2 : a2 = b2
    · subst h2
      by_cases h3 : a3 = b3
      · subst h3
        rw [show decide (((a1, a2, a3) : V9) ≠ (a1, a2, a3)) = false from by simp]
        have CT := truth_v false
        simp only [Bool.false_eq_true, if_false] at CT
        go_enter Tryz.func81, Tryz.ntmps81
        go_wp2_with (go_at_call 72; refine (CT _).mono ?_; rintro e w2 ⟨rfl, hb2⟩; obtain ⟨⟨d0, d1, d2, df⟩, hl1, HY⟩ := three_box w _ _ w2 hb2; have f0 := df 0; have f1 := df 1; have f2 := df 2; clear hb2 CT)
        exact bodyPost_ret (v := .agg #[.int .i64 2, .int .i64 0, .string ⟨#[]⟩]) (by simp [results, Tryz.results81, go_sem, d0, d1, d2]) rfl ⟨rfl, HY.out _ _ _⟩
      · rw [show decide (((a1, a2, a3) : V9) ≠ (a1, a2, b3)) = true from by exact decide_eq_true (fun z => h3 (congrArg (fun q => q.2.2) z))]
        have e := str_ne9 h3
        clear h3
        have CT := truth_v true
        simp only [if_true] at CT
        go_enter Tryz.func81, Tryz.ntmps81
        go_wp2_with (go_at_call 72; refine (CT _).mono ?_; rintro e w2 ⟨rfl, hb2⟩; obtain ⟨⟨d0, d1, d2, df⟩, hl1, HY⟩ := three_box w _ _ w2 hb2; have f0 := df 0; have f1 := df 1; have f2 := df 2; clear hb2 CT)
        exact bodyPost_ret (v := .agg #[.int .i64 2, .int .i64 1, .string ⟨#[]⟩]) (by simp [results, Tryz.results81, go_sem, d0, d1, d2]) rfl ⟨rfl, HY.out _ _ _⟩
    · rw [show decide (((a1, a2, a3) : V9) ≠ (a1, b2, b3)) = true from by exact decide_eq_true (fun z => h2 (congrArg (fun q => q.2.1) z))]
      have e := int_ne9 h2
      clear h2
      have CT := truth_v true
      simp only [if_true] at CT
      go_enter Tryz.func81, Tryz.ntmps81
      go_wp2_with (go_at_call 72; refine (CT _).mono ?_; rintro e w2 ⟨rfl, hb2⟩; obtain ⟨⟨d0, d1, d2, df⟩, hl1, HY⟩ := three_box w _ _ w2 hb2; have f0 := df 0; have f1 := df 1; have f2 := df 2; clear hb2 CT)
      exact bodyPost_ret (v := .agg #[.int .i64 2, .int .i64 1, .string ⟨#[]⟩]) (by simp [results, Tryz.results81, go_sem, d0, d1, d2]) rfl ⟨rfl, HY.out _ _ _⟩
  · rw [show decide (((a1, a2, a3) : V9) ≠ (b1, b2, b3)) = true from by exact decide_eq_true (fun z => h1 (congrArg Prod.fst z))]
    have e := int_ne9 h1
    clear h1
    have CT := truth_v true
    simp only [if_true] at CT
    go_enter Tryz.func81, Tryz.ntmps81
    go_wp2_with (go_at_call 72; refine (CT _).mono ?_; rintro e w2 ⟨rfl, hb2⟩; obtain ⟨⟨d0, d1, d2, df⟩, hl1, HY⟩ := three_box w _ _ w2 hb2; have f0 := df 0; have f1 := df 1; have f2 := df 2; clear hb2 CT)
    exact bodyPost_ret (v := .agg #[.int .i64 2, .int .i64 1, .string ⟨#[]⟩]) (by simp [results, Tryz.results81, go_sem, d0, d1, d2]) rfl ⟨rfl, HY.out _ _ _⟩

set_option maxHeartbeats 1000000 in
set_option maxRecDepth 100000 in
theorem op17_any (a b : V9) (w : World) : Calls Tryz.prog 68 #[vA' a, vA' b] w (Vp w (.ok b)) := by
  obtain ⟨a1, a2, a3⟩ := a
  obtain ⟨b1, b2, b3⟩ := b
  unfold vA'
  simp only
  obtain ⟨-, -, HY⟩ := three_box w (.cells #[.int .i64 a1, .int .i64 a2, .string (S a3)] 48) (.cells #[.int .i64 b1, .int .i64 b2, .string (S b3)] 48) _ (Below.refl _ _)
  go_enter Tryz.func68, Tryz.ntmps68
  go_wp2
  exact bodyPost_ret (v := .agg #[.int .i64 b1, .int .i64 b2, .string (S b3)]) (by simp [results, Tryz.results68, go_sem]) rfl ⟨rfl, by first | exact HY.out _ _ _ | exact three_b w _ _ _⟩
end Go.Proofs.YtpbfdaijnndilaaGreatDoor.x10
namespace Go.Proofs.YtpbfdaijnndilaaGreatDoor.x10
open Go.RowKit Go.Shelf Go.Sort
open Go.Lib hiding intOf

theorem two_box (w : World) (x1 x2 y1 y2 : Int) (x3 y3 : ByteArray) (o : Obj) (W : World) (hW : Below (((w.alloc (.cells #[.int .i64 x1, .int .i64 x2, .string x3] 48)).alloc (.cells #[.int .i64 y1, .int .i64 y2, .string y3] 48)).alloc o).heap.size (((w.alloc (.cells #[.int .i64 x1, .int .i64 x2, .string x3] 48)).alloc (.cells #[.int .i64 y1, .int .i64 y2, .string y3] 48)).alloc o) W) : W.cell? ⟨w.heap.size, 1, none⟩ = some (.int .i64 x2) ∧ W.cell? ⟨w.heap.size + 1, 0, none⟩ = some (.int .i64 y1) ∧ W.cell? ⟨w.heap.size + 1, 1, none⟩ = some (.int .i64 y2) ∧ W.cell? ⟨w.heap.size + 1, 2, none⟩ = some (.string y3) :=
  ⟨(hW.cell (p := ⟨w.heap.size, 1, none⟩) (by simp; omega)).trans (by go_simp), (hW.cell (p := ⟨w.heap.size + 1, 0, none⟩) (by simp)).trans (by go_simp), (hW.cell (p := ⟨w.heap.size + 1, 1, none⟩) (by simp)).trans (by go_simp), (hW.cell (p := ⟨w.heap.size + 1, 2, none⟩) (by simp)).trans (by go_simp)⟩

set_option maxHeartbeats 2000000 in
set_option maxRecDepth 100000 in
theorem op7_ok (a b : V9) (hb0 : ¬ b.2.1 = 0) (w : World) : Calls Tryz.prog 75 #[vA' a, vA' b] w (Vp w (.ok (nm (RowKit.wrap64 (a.2.1.tdiv b.2.1))))) := by
  have CD := div_ok b hb0
  have CN := fun r => number_v r
  obtain ⟨a1, a2, a3⟩ := a
  obtain ⟨b1, b2, b3⟩ := b
  unfold vA' at CD ⊢
  simp only at CD hb0 ⊢
  have hb : (b2 == 0) = false := beq_eq_false_iff_ne.2 hb0
  have n1 : ¬ w.heap.size = w.heap.size + 1 + 1 := by omega
  have n2 : ¬ w.heap.size + 1 + 1 = w.heap.size := by omega
  have HT : Hid (∀ W, Below (((w.alloc (.cells #[.int .i64 a1, .int .i64 a2, .string (S a3)] 48)).alloc (.cells #[.int .i64 b1, .int .i64 b2, .string (S b3)] 48)).alloc (.cells #[.int .i64 0, .int .i64 0, .string ⟨#[]⟩] 48)).heap.size (((w.alloc (.cells #[.int .i64 a1, .int .i64 a2, .string (S a3)] 48)).alloc (.cells #[.int .i64 b1, .int .i64 b2, .string (S b3)] 48)).alloc (.cells #[.int .i64 0, .int .i64 0, .string ⟨#[]⟩] 48)) W → W.cell? ⟨w.heap.size, 1, none⟩ = some (.int .i64 a2) ∧ W.cell? ⟨w.heap.size + 1, 0, none⟩ = some (.int .i64 b1) ∧ W.cell? ⟨w.heap.size + 1, 1, none⟩ = some (.int .i64 b2) ∧ W.cell? ⟨w.heap.size + 1, 2, none⟩ = some (.string (S b3))) := two_box w a1 a2 b1 b2 (S a3) (S b3) _
  go_enter Tryz.func75, Tryz.ntmps75
  go_wp2
  go_region_held3 (fun W => W.cell? ⟨w.heap.size, 1, none⟩ = some (.int .i64 a2) ∧ W.cell? ⟨w.heap.size + 1, 0, none⟩ = some (.int .i64 b1) ∧ W.cell? ⟨w.heap.size + 1, 1, none⟩ = some (.int .i64 b2) ∧ W.cell? ⟨w.heap.size + 1, 2, none⟩ = some (.string (S b3)))
    (first | go_keep | exact HT.out _ (Below.refl _ _) | exact HT.out _ (Below.refl _ _).drew | exact HT.out _ hX | exact HT.out _ hY)
    (first
      | (go_at_call 76; refine (CD _).mono ?_; rintro e w1 ⟨rfl, hb1⟩; (have hX : Below (((w.alloc (.cells #[.int .i64 a1, .int .i64 a2, .string (S a3)] 48)).alloc (.cells #[.int .i64 b1, .int .i64 b2, .string (S b3)] 48)).alloc (.cells #[.int .i64 0, .int .i64 0, .string ⟨#[]⟩] 48)).heap.size (((w.alloc (.cells #[.int .i64 a1, .int .i64 a2, .string (S a3)] 48)).alloc (.cells #[.int .i64 b1, .int .i64 b2, .string (S b3)] 48)).alloc (.cells #[.int .i64 0, .int .i64 0, .string ⟨#[]⟩] 48)) w1 := ⟨hb1.os, hb1.tape, hb1.output, hb1.size, hb1.block⟩); clear hb1 CD)
      | (go_at_call 70; refine (CN _ _).mono ?_; rintro e w2 ⟨rfl, hb2⟩; (have hY : Below (((w.alloc (.cells #[.int .i64 a1, .int .i64 a2, .string (S a3)] 48)).alloc (.cells #[.int .i64 b1, .int .i64 b2, .string (S b3)] 48)).alloc (.cells #[.int .i64 0, .int .i64 0, .string ⟨#[]⟩] 48)).heap.size (((w.alloc (.cells #[.int .i64 a1, .int .i64 a2, .string (S a3)] 48)).alloc (.cells #[.int .i64 b1, .int .i64 b2, .string (S b3)] 48)).alloc (.cells #[.int .i64 0, .int .i64 0, .string ⟨#[]⟩] 48)) w2 := bel_of hX ⟨hb2.os, hb2.tape, hb2.output, hb2.size, hb2.block⟩ (Nat.le_refl _)); obtain ⟨⟨d0, d1, d2, df⟩, hl1, HY⟩ := three_box w _ _ w2 hY; have f0 := df 0; have f1 := df 1; have f2 := df 2; clear hb2 CN))
  all_goals
    go_wp2
    exact bodyPost_ret (v := .agg #[.int .i64 1, .int .i64 (IntKind.i64.wrap (a2.tdiv b2)), .string ⟨#[]⟩]) (by simp [results, Tryz.results75, go_sem, d0, d1, d2]) rfl ⟨by rw [← IntWalk.i64_left]; rfl, HY.out _ _ _⟩

set_option maxHeartbeats 2000000 in
set_option maxRecDepth 100000 in
theorem op8_ok (a b : V9) (hb0 : ¬ b.2.1 = 0) (w : World) : Calls Tryz.prog 77 #[vA' a, vA' b] w (Vp w (.ok (nm (a.2.1.tmod b.2.1)))) := by
  have CD := div_ok b hb0
  have CN := fun r => number_v r
  obtain ⟨a1, a2, a3⟩ := a
  obtain ⟨b1, b2, b3⟩ := b
  unfold vA' at CD ⊢
  simp only at CD hb0 ⊢
  have hb : (b2 == 0) = false := beq_eq_false_iff_ne.2 hb0
  have n1 : ¬ w.heap.size = w.heap.size + 1 + 1 := by omega
  have n2 : ¬ w.heap.size + 1 + 1 = w.heap.size := by omega
  have HT : Hid (∀ W, Below (((w.alloc (.cells #[.int .i64 a1, .int .i64 a2, .string (S a3)] 48)).alloc (.cells #[.int .i64 b1, .int .i64 b2, .string (S b3)] 48)).alloc (.cells #[.int .i64 0, .int .i64 0, .string ⟨#[]⟩] 48)).heap.size (((w.alloc (.cells #[.int .i64 a1, .int .i64 a2, .string (S a3)] 48)).alloc (.cells #[.int .i64 b1, .int .i64 b2, .string (S b3)] 48)).alloc (.cells #[.int .i64 0, .int .i64 0, .string ⟨#[]⟩] 48)) W → W.cell? ⟨w.heap.size, 1, none⟩ = some (.int .i64 a2) ∧ W.cell? ⟨w.heap.size + 1, 0, none⟩ = some (.int .i64 b1) ∧ W.cell? ⟨w.heap.size + 1, 1, none⟩ = some (.int .i64 b2) ∧ W.cell? ⟨w.heap.size + 1, 2, none⟩ = some (.string (S b3))) := two_box w a1 a2 b1 b2 (S a3) (S b3) _
  go_enter Tryz.func77, Tryz.ntmps77
  go_wp2
  go_region_held3 (fun W => W.cell? ⟨w.heap.size, 1, none⟩ = some (.int .i64 a2) ∧ W.cell? ⟨w.heap.size + 1, 0, none⟩ = some (.int .i64 b1) ∧ W.cell? ⟨w.heap.size + 1, 1, none⟩ = some (.int .i64 b2) ∧ W.cell? ⟨w.heap.size + 1, 2, none⟩ = some (.string (S b3)))
    (first | go_keep | exact HT.out _ (Below.refl _ _) | exact HT.out _ (Below.refl _ _).drew | exact HT.out _ hX | exact HT.out _ hY)
    (first
      | (go_at_call 76; refine (CD _).mono ?_; rintro e w1 ⟨rfl, hb1⟩; (have hX : Below (((w.alloc (.cells #[.int .i64 a1, .int .i64 a2, .string (S a3)] 48)).alloc (.cells #[.int .i64 b1, .int .i64 b2, .string (S b3)] 48)).alloc (.cells #[.int .i64 0, .int .i64 0, .string ⟨#[]⟩] 48)).heap.size (((w.alloc (.cells #[.int .i64 a1, .int .i64 a2, .string (S a3)] 48)).alloc (.cells #[.int .i64 b1, .int .i64 b2, .string (S b3)] 48)).alloc (.cells #[.int .i64 0, .int .i64 0, .string ⟨#[]⟩] 48)) w1 := ⟨hb1.os, hb1.tape, hb1.output, hb1.size, hb1.block⟩); clear hb1 CD)
      | (go_at_call 70; refine (CN _ _).mono ?_; rintro e w2 ⟨rfl, hb2⟩; (have hY : Below (((w.alloc (.cells #[.int .i64 a1, .int .i64 a2, .string (S a3)] 48)).alloc (.cells #[.int .i64 b1, .int .i64 b2, .string (S b3)] 48)).alloc (.cells #[.int .i64 0, .int .i64 0, .string ⟨#[]⟩] 48)).heap.size (((w.alloc (.cells #[.int .i64 a1, .int .i64 a2, .string (S a3)] 48)).alloc (.cells #[.int .i64 b1, .int .i64 b2, .string (S b3)] 48)).alloc (.cells #[.int .i64 0, .int .i64 0, .string ⟨#[]⟩] 48)) w2 := bel_of hX ⟨hb2.os, hb2.tape, hb2.output, hb2.size, hb2.block⟩ (Nat.le_refl _)); obtain ⟨⟨d0, d1, d2, df⟩, hl1, HY⟩ := three_box w _ _ w2 hY; have f0 := df 0; have f1 := df 1; have f2 := df 2; clear hb2 CN))
  all_goals
    go_wp2
    exact bodyPost_ret (v := .agg #[.int .i64 1, .int .i64 (a2.tmod b2), .string ⟨#[]⟩]) (by simp [results, Tryz.results77, go_sem, d0, d1, d2]) rfl ⟨rfl, HY.out _ _ _⟩
end Go.Proofs.YtpbfdaijnndilaaGreatDoor.x10

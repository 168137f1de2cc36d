/-
  Places as keys: a token and a node; how they are ordered.
-/
import Derived.Test.YtgklemopmiabcabGreatF13Ix
import Derived.Laws.Rows
namespace Go.Proofs.YtgklemopmiabcabGreat.f13
open Go.RowKit Go.Shelf Go.Sort
open Go.Lib hiding intOf

theorem sizeP : (Tryz.prog.info? 120).map (·.size) = some 2 := by kernel_rfl
/-- one place is below another one -/
def ltP (a b : Nat × Int) : Bool := decide (a.1 < b.1) || (a.1 == b.1 && decide (a.2 < b.2))
def cmpv (a b : Int) : Int := if a < b then -1 else if b < a then 1 else 0

set_option maxHeartbeats 1000000 in
theorem cmpU_any (a b : Int) (w : World) : Calls Tryz.prog 133 #[.int .u64 a, .int .u64 b] w fun e w' => e = .returned (.int .i64 (cmpv a b)) ∧ w' = w := by
  unfold cmpv
  by_cases h1 : a < b
  · rw [if_pos h1]
    go_enter Tryz.func133, Tryz.ntmps133
    go_wp2
    go_ret
    exact ⟨rfl, rfl⟩
  · by_cases h2 : b < a
    · rw [if_neg h1, if_pos h2]
      go_enter Tryz.func133, Tryz.ntmps133
      go_wp2
      go_ret
      exact ⟨rfl, rfl⟩
    · rw [if_neg h1, if_neg h2]
      go_enter Tryz.func133, Tryz.ntmps133
      go_wp2
      go_ret
      exact ⟨rfl, rfl⟩

set_option maxHeartbeats 1000000 in
theorem cmpI_any (a b : Int) (w : World) : Calls Tryz.prog 134 #[.int .i64 a, .int .i64 b] w fun e w' => e = .returned (.int .i64 (cmpv a b)) ∧ w' = w := by
  unfold cmpv
  by_cases h1 : a < b
  · rw [if_pos h1]
    go_enter Tryz.func134, Tryz.ntmps134
    go_wp2
    go_ret
    exact ⟨rfl, rfl⟩
  · by_cases h2 : b < a
    · rw [if_neg h1, if_pos h2]
      go_enter Tryz.func134, Tryz.ntmps134
      go_wp2
      go_ret
      exact ⟨rfl, rfl⟩
    · rw [if_neg h1, if_neg h2]
      go_enter Tryz.func134, Tryz.ntmps134
      go_wp2
      go_ret
      exact ⟨rfl, rfl⟩

set_option maxHeartbeats 1000000 in
theorem or_any {a b : Int} {w : World} {g cap : Nat} (h0 : w.cell? ⟨g, 0, none⟩ = some (.int .i64 a)) (h1 : w.cell? ⟨g, 1, none⟩ = some (.int .i64 b)) : Calls Tryz.prog 132 #[.slice (some ⟨g, 0, none⟩) 2 cap] w fun e w' => e = .returned (.int .i64 (if a = 0 then b else a)) ∧ w' = w := by
  go_enter Tryz.func132, Tryz.ntmps132
  go_wp2
  go_loopw [8] (fun v8 wr => ∃ j : Nat, v8 = .int .i64 (j : Int) ∧ j ≤ 2 ∧ wr = w ∧ (0 < j → a = 0) ∧ (1 < j → b = 0)) (fun v8 _ => 2 - (intOf v8).toNat)
  case atStart => exact ⟨0, rfl, by omega, rfl, by omega, by omega⟩
  case round =>
    obtain ⟨j, rfl, hj, rfl, ha, hb⟩ := hrel
    match j, hj with
    | 0, _ =>
      by_cases h : a = 0
      · subst h
        go_wp2
        go_roundw
        case rel => exact ⟨1, by simp, by omega, by trivial, by simp, by omega⟩
        case measure => simp [intOf]
      · have h' : (a != 0) = true := by simpa using h
        go_wp2
        go_ret
        exact ⟨by simp, rfl⟩
    | 1, _ =>
      have ha0 := ha (by omega)
      subst ha0
      by_cases h : b = 0
      · subst h
        go_wp2
        go_roundw
        case rel => exact ⟨2, by simp, by omega, by trivial, by simp, by simp⟩
        case measure => simp [intOf]
      · have h' : (b != 0) = true := by simpa using h
        go_wp2
        go_ret
        exact ⟨by simp, rfl⟩
    | 2, _ =>
      have ha0 := ha (by omega)
      have hb0 := hb (by omega)
      subst ha0 hb0
      go_wp2
      go_ret
      exact ⟨by simp, rfl⟩

set_option maxHeartbeats 1000000 in
theorem keyTm_any (x : Tm) (w : World) : Calls Tryz.prog 72 #[.agg (Tm.c x).toArray] w fun e w' => e = .returned (kP x.kk) ∧ Below w.heap.size w w' := by
  obtain ⟨x0, x1, x2⟩ := x
  simp only [Tm.c, Tm.kk, kP]
  have hb : Below w.heap.size w ((w.alloc (.cells #[.int .u64 (x0 : Int), .int .i64 x1, .int .i64 x2] 75)).alloc (.cells #[.int .u64 (x0 : Int), .int .i64 x1] 120)) := ((Below.refl _ w).alloc (Nat.le_refl _) _).alloc (by simp) _
  have hg := heap_alloc_new (w.alloc (.cells #[.int .u64 (x0 : Int), .int .i64 x1, .int .i64 x2] 75)) (.cells #[.int .u64 (x0 : Int), .int .i64 x1] 120)
  rw [World.size_alloc] at hg
  have HB : Hid _ := hb
  have HG : Hid _ := hg
  clear hb hg
  go_enter Tryz.func72, Tryz.ntmps72
  go_wp2
  refine bodyPost_ret (results_cell_row rfl _ _ (w.heap.size + 1) 120 _ (0, 0) _ rfl HG.out Tryz.underlying120 rfl sizeP) rfl ?_
  exact ⟨rfl, HB.out⟩

set_option maxHeartbeats 1000000 in
theorem keySb_any (x : Sb) (w : World) : Calls Tryz.prog 75 #[.agg (Sb.c x).toArray] w fun e w' => e = .returned (kP x.kk) ∧ Below w.heap.size w w' := by
  obtain ⟨x0, x1, x2, x3, x4, x5⟩ := x
  simp only [Sb.c, Sb.kk, kP]
  have hb : Below w.heap.size w ((w.alloc (.cells #[.int .u64 (x0 : Int), .int .u64 (x1 : Int), .int .i64 x2, .string (S x3), .string (S x4), .bool x5] 78)).alloc (.cells #[.int .u64 (x0 : Int), .int .i64 x2] 120)) := ((Below.refl _ w).alloc (Nat.le_refl _) _).alloc (by simp) _
  have hg := heap_alloc_new (w.alloc (.cells #[.int .u64 (x0 : Int), .int .u64 (x1 : Int), .int .i64 x2, .string (S x3), .string (S x4), .bool x5] 78)) (.cells #[.int .u64 (x0 : Int), .int .i64 x2] 120)
  rw [World.size_alloc] at hg
  have HB : Hid _ := hb
  have HG : Hid _ := hg
  clear hb hg
  go_enter Tryz.func75, Tryz.ntmps75
  go_wp2
  refine bodyPost_ret (results_cell_row rfl _ _ (w.heap.size + 1) 120 _ (0, 0) _ rfl HG.out Tryz.underlying120 rfl sizeP) rfl ?_
  exact ⟨rfl, HB.out⟩

set_option maxHeartbeats 1000000 in
theorem keyKp_any (x : Kp) (w : World) : Calls Tryz.prog 87 #[.agg (Kp.c x).toArray] w fun e w' => e = .returned (kP x.kk) ∧ Below w.heap.size w w' := by
  obtain ⟨x0, x1, x2⟩ := x
  simp only [Kp.c, Kp.kk, kP]
  have hb : Below w.heap.size w ((w.alloc (.cells #[.int .u64 (x0 : Int), .int .u64 (x1 : Int), .int .i64 x2] 81)).alloc (.cells #[.int .u64 (x0 : Int), .int .i64 x2] 120)) := ((Below.refl _ w).alloc (Nat.le_refl _) _).alloc (by simp) _
  have hg := heap_alloc_new (w.alloc (.cells #[.int .u64 (x0 : Int), .int .u64 (x1 : Int), .int .i64 x2] 81)) (.cells #[.int .u64 (x0 : Int), .int .i64 x2] 120)
  rw [World.size_alloc] at hg
  have HB : Hid _ := hb
  have HG : Hid _ := hg
  clear hb hg
  go_enter Tryz.func87, Tryz.ntmps87
  go_wp2
  refine bodyPost_ret (results_cell_row rfl _ _ (w.heap.size + 1) 120 _ (0, 0) _ rfl HG.out Tryz.underlying120 rfl sizeP) rfl ?_
  exact ⟨rfl, HB.out⟩

set_option maxHeartbeats 1000000 in
theorem keyLs_any (x : Ls) (w : World) (h6 : ∃ a n c, x.vv = .slice a n c) : Calls Tryz.prog 89 #[.agg (Ls.c x).toArray] w fun e w' => e = .returned (kP x.kk) ∧ Below w.heap.size w w' := by
  obtain ⟨sa, sn, sc, h6⟩ := h6
  obtain ⟨x0, x1, x2, x3, x4, x5, x6, _⟩ := x
  simp only at h6
  subst h6
  simp only [Ls.c, Ls.kk, kP]
  have hb : Below w.heap.size w ((w.alloc (.cells #[.int .u64 (x0 : Int), .int .u64 (x1 : Int), .int .i64 x2, .string (S x3), .string (S x4), .int .u64 (x5 : Int), (.slice sa sn sc)] 84)).alloc (.cells #[.int .u64 (x0 : Int), .int .i64 x2] 120)) := ((Below.refl _ w).alloc (Nat.le_refl _) _).alloc (by simp) _
  have hg := heap_alloc_new (w.alloc (.cells #[.int .u64 (x0 : Int), .int .u64 (x1 : Int), .int .i64 x2, .string (S x3), .string (S x4), .int .u64 (x5 : Int), .slice sa sn sc] 84)) (.cells #[.int .u64 (x0 : Int), .int .i64 x2] 120)
  rw [World.size_alloc] at hg
  have HB : Hid _ := hb
  have HG : Hid _ := hg
  clear hb hg
  go_enter Tryz.func89, Tryz.ntmps89
  go_wp2
  refine bodyPost_ret (results_cell_row rfl _ _ (w.heap.size + 1) 120 _ (0, 0) _ rfl HG.out Tryz.underlying120 rfl sizeP) rfl ?_
  exact ⟨rfl, HB.out⟩
end Go.Proofs.YtgklemopmiabcabGreat.f13

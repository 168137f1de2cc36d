/-
  Keys that are places.
-/
import Derived.Test.YtgklemopmiabcabGreatF13Kyp
import Derived.Deep.RegionHeld3
namespace Go.Proofs.YtgklemopmiabcabGreat.f13
open Go.RowKit Go.Shelf Go.Sort
open Go.Lib hiding intOf

theorem ltP_eq (a0 b0 : Nat) (a1 b1 : Int) : decide ((if cmpv (a0 : Int) (b0 : Int) = 0 then cmpv a1 b1 else cmpv (a0 : Int) (b0 : Int)) < 0) = ltP (a0, a1) (b0, b1) := by
  unfold ltP cmpv
  rcases Nat.lt_trichotomy a0 b0 with h | h | h
  · have h1 : (a0 : Int) < b0 := by omega
    simp [h1, h]
  · subst h
    simp
    by_cases h2 : a1 < b1
    · simp [h2]
    · by_cases h3 : b1 < a1
      · simp [h2, h3]
      · simp [h2, h3]
  · have h1 : ¬ (a0 : Int) < b0 := by omega
    have h2 : (b0 : Int) < a0 := by omega
    have h3 : ¬ a0 < b0 := by omega
    have h4 : ¬ a0 = b0 := by omega
    simp [h1, h2, h3, h4]
set_option maxRecDepth 100000 in
theorem eqP (a0 b0 : Nat) (a1 b1 : Int) (W : World) : (binOp .eql 120 (.agg #[.int .u64 (a0 : Int), .int .i64 a1]) (.agg #[.int .u64 (b0 : Int), .int .i64 b1])).run Tryz.prog W = .ok (.bool ((a0, a1) == (b0, b1))) W := by
  by_cases h0 : a0 = b0
  · subst h0
    by_cases h1 : a1 = b1
    · subst h1
      have hE : ((a0, a1) == (a0, a1)) = true := by simp
      rw [hE]
      go_simp
    · have hE : ((a0, a1) == (a0, b1)) = false := by simp [h1]
      have h2 : (a1 == b1) = false := beq_eq_false_iff_ne.2 h1
      rw [hE]
      go_simp
  · have hE : ((a0, a1) == (b0, b1)) = false := by simp [h0]
    have h2 : ((a0 : Int) == (b0 : Int)) = false := beq_eq_false_iff_ne.2 (by omega)
    rw [hE]
    go_simp
set_option maxHeartbeats 2000000 in
set_option maxRecDepth 100000 in
theorem lessP_any (a b : Nat × Int) (w : World) : Calls Tryz.prog 73 #[kP a, kP b] w fun e w' => e = .returned (.bool (ltP a b)) ∧ Below w.heap.size w w' := by
  obtain ⟨a0, a1⟩ := a
  obtain ⟨b0, b1⟩ := b
  simp only [kP]
  have HL : Hid _ := ltP_eq a0 b0 a1 b1
  have CU := cmpU_any (a0 : Int) (b0 : Int)
  have CI := cmpI_any a1 b1
  have hb0 : Below w.heap.size w ((w.alloc (.cells #[.int .u64 (a0 : Int), .int .i64 a1] 120)).alloc (.cells #[.int .u64 (b0 : Int), .int .i64 b1] 120)) := ((Below.refl _ w).alloc (Nat.le_refl _) _).alloc (by simp) _
  have HS : Hid (∀ W, Below ((w.alloc (.cells #[.int .u64 (a0 : Int), .int .i64 a1] 120)).alloc (.cells #[.int .u64 (b0 : Int), .int .i64 b1] 120)).heap.size ((w.alloc (.cells #[.int .u64 (a0 : Int), .int .i64 a1] 120)).alloc (.cells #[.int .u64 (b0 : Int), .int .i64 b1] 120)) W → W.cell? ⟨w.heap.size, 0, none⟩ = some (.int .u64 (a0 : Int)) ∧ W.cell? ⟨w.heap.size, 1, none⟩ = some (.int .i64 a1) ∧ W.cell? ⟨w.heap.size + 1, 0, none⟩ = some (.int .u64 (b0 : Int)) ∧ W.cell? ⟨w.heap.size + 1, 1, none⟩ = some (.int .i64 b1)) := by
    intro W hW
    have e0 : ((w.alloc (.cells #[.int .u64 (a0 : Int), .int .i64 a1] 120)).alloc (.cells #[.int .u64 (b0 : Int), .int .i64 b1] 120)).heap.size = w.heap.size + 2 := by simp
    rw [e0] at hW
    refine ⟨?_, ?_, ?_, ?_⟩
    · exact (hW.cell (p := ⟨w.heap.size, 0, none⟩) (by simp only; omega)).trans (by go_simp)
    · exact (hW.cell (p := ⟨w.heap.size, 1, none⟩) (by simp only; omega)).trans (by go_simp)
    · exact (hW.cell (p := ⟨w.heap.size + 1, 0, none⟩) (by simp only; omega)).trans (by go_simp)
    · exact (hW.cell (p := ⟨w.heap.size + 1, 1, none⟩) (by simp only; omega)).trans (by go_simp)
  have B0 : Hid (Below w.heap.size w ((w.alloc (.cells #[.int .u64 (a0 : Int), .int .i64 a1] 120)).alloc (.cells #[.int .u64 (b0 : Int), .int .i64 b1] 120))) := hb0
  clear hb0
  go_enter Tryz.func73, Tryz.ntmps73
  go_wp2
  generalize ((w.alloc (.cells #[.int .u64 (a0 : Int), .int .i64 a1] 120)).alloc (.cells #[.int .u64 (b0 : Int), .int .i64 b1] 120)) = W1 at *
  obtain ⟨c0, c1, c2, c3⟩ := HS.out _ (Below.refl _ _)
  generalize hA : cmpv (a0 : Int) (b0 : Int) = A at *
  generalize hC : cmpv a1 b1 = C at *
  obtain ⟨V, hV⟩ : ∃ V : Int, V = if A = 0 then C else A := ⟨_, rfl⟩
  rw [← hV] at HL
  have HO : Hid (∀ (W : World) (g cap : Nat), W.cell? ⟨g, 0, none⟩ = some (.int .i64 A) → W.cell? ⟨g, 1, none⟩ = some (.int .i64 C) → Calls Tryz.prog 132 #[.slice (some ⟨g, 0, none⟩) 2 cap] W fun e w' => e = .returned (.int .i64 V) ∧ w' = W) := fun W g cap q0 q1 => by rw [hV]; exact or_any q0 q1
  clear hV
  go_region_held3 (fun W => W.cell? ⟨w.heap.size, 0, none⟩ = some (.int .u64 (a0 : Int)) ∧ W.cell? ⟨w.heap.size, 1, none⟩ = some (.int .i64 a1) ∧ W.cell? ⟨w.heap.size + 1, 0, none⟩ = some (.int .u64 (b0 : Int)) ∧ W.cell? ⟨w.heap.size + 1, 1, none⟩ = some (.int .i64 b1))
    (first | go_keep | exact HS.out _ (Below.refl _ _) | exact HS.out _ (Below.refl _ _).drew | exact HS.out _ ((Below.refl _ _).alloc (Nat.le_refl _) _) | exact HS.out _ (((Below.refl _ _).drew).alloc (Nat.le_refl _) _))
    (first
      | (go_at_call 133; refine (CU _).mono ?_; rintro e u1 ⟨rfl, hu1⟩; rw [hu1]; clear hu1)
      | (go_at_call 134; refine (CI _).mono ?_; rintro e u2 ⟨rfl, hu2⟩; rw [hu2]; clear hu2)
      | (go_at_call 132; refine (HO.out _ _ _ (World.cell?_alloc_new _ _ _ _) (World.cell?_alloc_new _ _ _ _)).mono ?_; rintro e u3 ⟨rfl, hu3⟩; rw [hu3]; clear hu3))
  all_goals
    go_wp2
    go_ret
    rw [← HL.out]
    exact ⟨by simp, B0.out.trans (by first | exact ((Below.refl _ W1).drew).alloc B0.out.size _ | exact (Below.refl _ W1).alloc B0.out.size _ | exact ((Below.refl _ W1).alloc B0.out.size _).drew)⟩
end Go.Proofs.YtgklemopmiabcabGreat.f13
namespace Go.Proofs.YtgklemopmiabcabGreat.f13
open Go.RowKit Go.Shelf Go.Sort
open Go.Lib hiding intOf

set_option maxHeartbeats 2000000 in
set_option maxRecDepth 100000 in
theorem ofTm1_any (x : Tm) (y : Nat × Int) {w : World} {kb wb : Nat} (hk : w.cell? ⟨kb, 0, none⟩ = some (.func (.func 72) #[] #[])) (hy : w.cell? ⟨wb, 0, none⟩ = some (.int .u64 (y.1 : Int)) ∧ w.cell? ⟨wb, 1, none⟩ = some (.int .i64 y.2)) :
    Calls Tryz.prog 167 #[.agg (Tm.c x).toArray, .pointer (some ⟨kb, 0, none⟩), .pointer (some ⟨wb, 0, none⟩)] w fun e w' => e = .returned (.bool (x.kk == y)) ∧ Below w.heap.size w w' := by
  have CK := fun W => keyTm_any x W
  have hkl := World.block_lt_of_cell? w _ hk
  have hyl := World.block_lt_of_cell? w _ hy.1
  obtain ⟨y0, y1⟩ := y
  obtain ⟨x0, x1, x2⟩ := x
  simp only [Tm.c, Tm.kk, kP] at CK hy ⊢
  have hq := eqP x0 y0 x1 y1
  generalize ((x0, x1) == (y0, y1)) = bb at *
  have hb0 : Below w.heap.size w (w.alloc (.cells #[.int .u64 (x0 : Int), .int .i64 x1, .int .i64 x2] 75)) := (Below.refl _ w).alloc (Nat.le_refl _) _
  have HS : Hid (∀ W, Below (w.alloc (.cells #[.int .u64 (x0 : Int), .int .i64 x1, .int .i64 x2] 75)).heap.size (w.alloc (.cells #[.int .u64 (x0 : Int), .int .i64 x1, .int .i64 x2] 75)) W → W.cell? ⟨kb, 0, none⟩ = some (.func (.func 72) #[] #[]) ∧ W.cell? ⟨w.heap.size, 0, none⟩ = some (.int .u64 (x0 : Int)) ∧ W.cell? ⟨w.heap.size, 1, none⟩ = some (.int .i64 x1) ∧ W.cell? ⟨w.heap.size, 2, none⟩ = some (.int .i64 x2) ∧ W.cell? ⟨wb, 0, none⟩ = some (.int .u64 (y0 : Int)) ∧ W.cell? ⟨wb, 1, none⟩ = some (.int .i64 y1)) := by
    intro W hW
    have hsz : w.heap.size < (w.alloc (.cells #[.int .u64 (x0 : Int), .int .i64 x1, .int .i64 x2] 75)).heap.size := by simp
    exact ⟨(hW.cell (p := ⟨kb, 0, none⟩) (by simp at hkl ⊢; omega)).trans ((hb0.cell (p := ⟨kb, 0, none⟩) hkl).trans hk), (hW.cell (p := ⟨w.heap.size, 0, none⟩) hsz).trans (World.cell?_alloc_new _ _ _ _), (hW.cell (p := ⟨w.heap.size, 1, none⟩) hsz).trans (World.cell?_alloc_new _ _ _ _), (hW.cell (p := ⟨w.heap.size, 2, none⟩) hsz).trans (World.cell?_alloc_new _ _ _ _), (hW.cell (p := ⟨wb, 0, none⟩) (by simp at hyl ⊢; omega)).trans ((hb0.cell (p := ⟨wb, 0, none⟩) hyl).trans hy.1), (hW.cell (p := ⟨wb, 1, none⟩) (by simp at hyl ⊢; omega)).trans ((hb0.cell (p := ⟨wb, 1, none⟩) hyl).trans hy.2)⟩
  have B1 : Hid (Below w.heap.size w (w.alloc (.cells #[.int .u64 (x0 : Int), .int .i64 x1, .int .i64 x2] 75))) := hb0
  clear hb0 hk hy hkl hyl
  go_enter Tryz.func167, Tryz.ntmps167
  go_wp2
  generalize (w.alloc (.cells #[.int .u64 (x0 : Int), .int .i64 x1, .int .i64 x2] 75)) = W1 at *
  obtain ⟨c0, c1, c2, c3, c4, c5⟩ := HS.out _ (Below.refl _ _)
  go_region_held3 (fun W => W.cell? ⟨kb, 0, none⟩ = some (.func (.func 72) #[] #[]) ∧ W.cell? ⟨w.heap.size, 0, none⟩ = some (.int .u64 (x0 : Int)) ∧ W.cell? ⟨w.heap.size, 1, none⟩ = some (.int .i64 x1) ∧ W.cell? ⟨w.heap.size, 2, none⟩ = some (.int .i64 x2) ∧ W.cell? ⟨wb, 0, none⟩ = some (.int .u64 (y0 : Int)) ∧ W.cell? ⟨wb, 1, none⟩ = some (.int .i64 y1))
    (first | go_keep | exact HS.out _ (Below.refl _ _) | exact HS.out _ (Below.refl _ _).drew | exact HS.out _ hX)
    (first | (go_at_call 72; refine (CK _).mono ?_; rintro e u1 ⟨rfl, hX0⟩; (have hX : Below W1.heap.size W1 u1 := (Below.refl _ W1).drew.trans (hX0.mono (Nat.le_refl _))); (have B2 : Hid (Below w.heap.size w u1) := bel_of B1.out hX (Nat.le_refl _)); clear hX0))
  all_goals
    go_wp2
    go_ret
    exact ⟨rfl, B2.out⟩

set_option maxHeartbeats 1000000 in
theorem ofTm_any (y : Nat × Int) (w : World) : Calls Tryz.prog 129 #[(.func (.func 72) #[] #[]), kP y] w fun e w' => ∃ caps, e = .returned (.func (.func 167) #[] caps) ∧ (∀ (X : Nat → Prop), (∀ g, X g → g < w.heap.size) → ∀ x : Tm, Say X w' 167 caps #[.agg (Tm.c x).toArray] (x.kk == y)) ∧ Below w.heap.size w w' := by
  have HE : Hid (∀ (X : Nat → Prop), (∀ g, X g → g < w.heap.size) → ∀ x : Tm, Say X ((w.alloc (.cells #[(.func (.func 72) #[] #[])] 121)).alloc (.cells #[.int .u64 (y.1 : Int), .int .i64 y.2] 120)) 167 #[.pointer (some ⟨w.heap.size, 0, none⟩), .pointer (some ⟨w.heap.size + 1, 0, none⟩)] #[.agg (Tm.c x).toArray] (x.kk == y)) := by
    intro X hX x W hW
    have g0 := World.cell?_alloc_new (w.alloc (.cells #[(.func (.func 72) #[] #[])] 121)) #[.int .u64 (y.1 : Int), .int .i64 y.2] 120 0
    have g1 := World.cell?_alloc_new (w.alloc (.cells #[(.func (.func 72) #[] #[])] 121)) #[.int .u64 (y.1 : Int), .int .i64 y.2] 120 1
    rw [World.size_alloc] at g0 g1
    have hne : ¬ X (w.heap.size + 1) := fun e => by have := hX _ e; omega
    refine ofTm1_any x y (hW.cell (p := ⟨w.heap.size, 0, none⟩) ((Bx.new w (.func (.func 72) #[] #[]) 121).alloc _).cell (fun e => by have := hX _ e; simp only at this; omega)) ⟨hW.cell (p := ⟨w.heap.size + 1, 0, none⟩) g0 hne, hW.cell (p := ⟨w.heap.size + 1, 1, none⟩) g1 hne⟩
  have B1 : Hid (Below w.heap.size w ((w.alloc (.cells #[(.func (.func 72) #[] #[])] 121)).alloc (.cells #[.int .u64 (y.1 : Int), .int .i64 y.2] 120))) := ((Below.refl _ w).alloc (Nat.le_refl _) _).alloc (by simp) _
  simp only [kP] at HE B1 ⊢
  go_enter Tryz.func129, Tryz.ntmps129
  go_wp2
  go_ret
  exact ⟨_, rfl, HE.out, B1.out⟩

set_option maxHeartbeats 2000000 in
set_option maxRecDepth 100000 in
theorem ofSb1_any (x : Sb) (y : Nat × Int) {w : World} {kb wb : Nat} (hk : w.cell? ⟨kb, 0, none⟩ = some (.func (.func 75) #[] #[])) (hy : w.cell? ⟨wb, 0, none⟩ = some (.int .u64 (y.1 : Int)) ∧ w.cell? ⟨wb, 1, none⟩ = some (.int .i64 y.2)) :
    Calls Tryz.prog 138 #[.agg (Sb.c x).toArray, .pointer (some ⟨kb, 0, none⟩), .pointer (some ⟨wb, 0, none⟩)] w fun e w' => e = .returned (.bool (x.kk == y)) ∧ Below w.heap.size w w' := by
  have CK := fun W => keySb_any x W
  have hkl := World.block_lt_of_cell? w _ hk
  have hyl := World.block_lt_of_cell? w _ hy.1
  obtain ⟨y0, y1⟩ := y
  obtain ⟨x0, x1, x2, x3, x4, x5⟩ := x
  simp only [Sb.c, Sb.kk, kP] at CK hy ⊢
  have hq := eqP x0 y0 x2 y1
  generalize ((x0, x2) == (y0, y1)) = bb at *
  have hb0 : Below w.heap.size w (w.alloc (.cells #[.int .u64 (x0 : Int), .int .u64 (x1 : Int), .int .i64 x2, .string (S x3), .string (S x4), .bool x5] 78)) := (Below.refl _ w).alloc (Nat.le_refl _) _
  have HS : Hid (∀ W, Below (w.alloc (.cells #[.int .u64 (x0 : Int), .int .u64 (x1 : Int), .int .i64 x2, .string (S x3), .string (S x4), .bool x5] 78)).heap.size (w.alloc (.cells #[.int .u64 (x0 : Int), .int .u64 (x1 : Int), .int .i64 x2, .string (S x3), .string (S x4), .bool x5] 78)) W → W.cell? ⟨kb, 0, none⟩ = some (.func (.func 75) #[] #[]) ∧ W.cell? ⟨w.heap.size, 0, none⟩ = some (.int .u64 (x0 : Int)) ∧ W.cell? ⟨w.heap.size, 1, none⟩ = some (.int .u64 (x1 : Int)) ∧ W.cell? ⟨w.heap.size, 2, none⟩ = some (.int .i64 x2) ∧ W.cell? ⟨w.heap.size, 3, none⟩ = some (.string (S x3)) ∧ W.cell? ⟨w.heap.size, 4, none⟩ = some (.string (S x4)) ∧ W.cell? ⟨w.heap.size, 5, none⟩ = some (.bool x5) ∧ W.cell? ⟨wb, 0, none⟩ = some (.int .u64 (y0 : Int)) ∧ W.cell? ⟨wb, 1, none⟩ = some (.int .i64 y1)) := by
    intro W hW
    have hsz : w.heap.size < (w.alloc (.cells #[.int .u64 (x0 : Int), .int .u64 (x1 : Int), .int .i64 x2, .string (S x3), .string (S x4), .bool x5] 78)).heap.size := by simp
    exact ⟨(hW.cell (p := ⟨kb, 0, none⟩) (by simp at hkl ⊢; omega)).trans ((hb0.cell (p := ⟨kb, 0, none⟩) hkl).trans hk), (hW.cell (p := ⟨w.heap.size, 0, none⟩) hsz).trans (World.cell?_alloc_new _ _ _ _), (hW.cell (p := ⟨w.heap.size, 1, none⟩) hsz).trans (World.cell?_alloc_new _ _ _ _), (hW.cell (p := ⟨w.heap.size, 2, none⟩) hsz).trans (World.cell?_alloc_new _ _ _ _), (hW.cell (p := ⟨w.heap.size, 3, none⟩) hsz).trans (World.cell?_alloc_new _ _ _ _), (hW.cell (p := ⟨w.heap.size, 4, none⟩) hsz).trans (World.cell?_alloc_new _ _ _ _), (hW.cell (p := ⟨w.heap.size, 5, none⟩) hsz).trans (World.cell?_alloc_new _ _ _ _), (hW.cell (p := ⟨wb, 0, none⟩) (by simp at hyl ⊢; omega)).trans ((hb0.cell (p := ⟨wb, 0, none⟩) hyl).trans hy.1), (hW.cell (p := ⟨wb, 1, none⟩) (by simp at hyl ⊢; omega)).trans ((hb0.cell (p := ⟨wb, 1, none⟩) hyl).trans hy.2)⟩
  have B1 : Hid (Below w.heap.size w (w.alloc (.cells #[.int .u64 (x0 : Int), .int .u64 (x1 : Int), .int .i64 x2, .string (S x3), .string (S x4), .bool x5] 78))) := hb0
  clear hb0 hk hy hkl hyl
  go_enter Tryz.func138, Tryz.ntmps138
  go_wp2
  generalize (w.alloc (.cells #[.int .u64 (x0 : Int), .int .u64 (x1 : Int), .int .i64 x2, .string (S x3), .string (S x4), .bool x5] 78)) = W1 at *
  obtain ⟨c0, c1, c2, c3, c4, c5, c6, c7, c8⟩ := HS.out _ (Below.refl _ _)
  go_region_held3 (fun W => W.cell? ⟨kb, 0, none⟩ = some (.func (.func 75) #[] #[]) ∧ W.cell? ⟨w.heap.size, 0, none⟩ = some (.int .u64 (x0 : Int)) ∧ W.cell? ⟨w.heap.size, 1, none⟩ = some (.int .u64 (x1 : Int)) ∧ W.cell? ⟨w.heap.size, 2, none⟩ = some (.int .i64 x2) ∧ W.cell? ⟨w.heap.size, 3, none⟩ = some (.string (S x3)) ∧ W.cell? ⟨w.heap.size, 4, none⟩ = some (.string (S x4)) ∧ W.cell? ⟨w.heap.size, 5, none⟩ = some (.bool x5) ∧ W.cell? ⟨wb, 0, none⟩ = some (.int .u64 (y0 : Int)) ∧ W.cell? ⟨wb, 1, none⟩ = some (.int .i64 y1))
    (first | go_keep | exact HS.out _ (Below.refl _ _) | exact HS.out _ (Below.refl _ _).drew | exact HS.out _ hX)
    (first | (go_at_call 75; refine (CK _).mono ?_; rintro e u1 ⟨rfl, hX0⟩; (have hX : Below W1.heap.size W1 u1 := (Below.refl _ W1).drew.trans (hX0.mono (Nat.le_refl _))); (have B2 : Hid (Below w.heap.size w u1) := bel_of B1.out hX (Nat.le_refl _)); clear hX0))
  all_goals
    go_wp2
    go_ret
    exact ⟨rfl, B2.out⟩

set_option maxHeartbeats 1000000 in
theorem ofSb_any (y : Nat × Int) (w : World) : Calls Tryz.prog 77 #[(.func (.func 75) #[] #[]), kP y] w fun e w' => ∃ caps, e = .returned (.func (.func 138) #[] caps) ∧ (∀ (X : Nat → Prop), (∀ g, X g → g < w.heap.size) → ∀ x : Sb, Say X w' 138 caps #[.agg (Sb.c x).toArray] (x.kk == y)) ∧ Below w.heap.size w w' := by
  have HE : Hid (∀ (X : Nat → Prop), (∀ g, X g → g < w.heap.size) → ∀ x : Sb, Say X ((w.alloc (.cells #[(.func (.func 75) #[] #[])] 125)).alloc (.cells #[.int .u64 (y.1 : Int), .int .i64 y.2] 120)) 138 #[.pointer (some ⟨w.heap.size, 0, none⟩), .pointer (some ⟨w.heap.size + 1, 0, none⟩)] #[.agg (Sb.c x).toArray] (x.kk == y)) := by
    intro X hX x W hW
    have g0 := World.cell?_alloc_new (w.alloc (.cells #[(.func (.func 75) #[] #[])] 125)) #[.int .u64 (y.1 : Int), .int .i64 y.2] 120 0
    have g1 := World.cell?_alloc_new (w.alloc (.cells #[(.func (.func 75) #[] #[])] 125)) #[.int .u64 (y.1 : Int), .int .i64 y.2] 120 1
    rw [World.size_alloc] at g0 g1
    have hne : ¬ X (w.heap.size + 1) := fun e => by have := hX _ e; omega
    refine ofSb1_any x y (hW.cell (p := ⟨w.heap.size, 0, none⟩) ((Bx.new w (.func (.func 75) #[] #[]) 125).alloc _).cell (fun e => by have := hX _ e; simp only at this; omega)) ⟨hW.cell (p := ⟨w.heap.size + 1, 0, none⟩) g0 hne, hW.cell (p := ⟨w.heap.size + 1, 1, none⟩) g1 hne⟩
  have B1 : Hid (Below w.heap.size w ((w.alloc (.cells #[(.func (.func 75) #[] #[])] 125)).alloc (.cells #[.int .u64 (y.1 : Int), .int .i64 y.2] 120))) := ((Below.refl _ w).alloc (Nat.le_refl _) _).alloc (by simp) _
  simp only [kP] at HE B1 ⊢
  go_enter Tryz.func77, Tryz.ntmps77
  go_wp2
  go_ret
  exact ⟨_, rfl, HE.out, B1.out⟩

set_option maxHeartbeats 2000000 in
set_option maxRecDepth 100000 in
theorem ofKp1_any (x : Kp) (y : Nat × Int) {w : World} {kb wb : Nat} (hk : w.cell? ⟨kb, 0, none⟩ = some (.func (.func 87) #[] #[])) (hy : w.cell? ⟨wb, 0, none⟩ = some (.int .u64 (y.1 : Int)) ∧ w.cell? ⟨wb, 1, none⟩ = some (.int .i64 y.2)) :
    Calls Tryz.prog 173 #[.agg (Kp.c x).toArray, .pointer (some ⟨kb, 0, none⟩), .pointer (some ⟨wb, 0, none⟩)] w fun e w' => e = .returned (.bool (x.kk == y)) ∧ Below w.heap.size w w' := by
  have CK := fun W => keyKp_any x W
  have hkl := World.block_lt_of_cell? w _ hk
  have hyl := World.block_lt_of_cell? w _ hy.1
  obtain ⟨y0, y1⟩ := y
  obtain ⟨x0, x1, x2⟩ := x
  simp only [Kp.c, Kp.kk, kP] at CK hy ⊢
  have hq := eqP x0 y0 x2 y1
  generalize ((x0, x2) == (y0, y1)) = bb at *
  have hb0 : Below w.heap.size w (w.alloc (.cells #[.int .u64 (x0 : Int), .int .u64 (x1 : Int), .int .i64 x2] 81)) := (Below.refl _ w).alloc (Nat.le_refl _) _
  have HS : Hid (∀ W, Below (w.alloc (.cells #[.int .u64 (x0 : Int), .int .u64 (x1 : Int), .int .i64 x2] 81)).heap.size (w.alloc (.cells #[.int .u64 (x0 : Int), .int .u64 (x1 : Int), .int .i64 x2] 81)) W → W.cell? ⟨kb, 0, none⟩ = some (.func (.func 87) #[] #[]) ∧ W.cell? ⟨w.heap.size, 0, none⟩ = some (.int .u64 (x0 : Int)) ∧ W.cell? ⟨w.heap.size, 1, none⟩ = some (.int .u64 (x1 : Int)) ∧ W.cell? ⟨w.heap.size, 2, none⟩ = some (.int .i64 x2) ∧ W.cell? ⟨wb, 0, none⟩ = some (.int .u64 (y0 : Int)) ∧ W.cell? ⟨wb, 1, none⟩ = some (.int .i64 y1)) := by
    intro W hW
    have hsz : w.heap.size < (w.alloc (.cells #[.int .u64 (x0 : Int), .int .u64 (x1 : Int), .int .i64 x2] 81)).heap.size := by simp
    exact ⟨(hW.cell (p := ⟨kb, 0, none⟩) (by simp at hkl ⊢; omega)).trans ((hb0.cell (p := ⟨kb, 0, none⟩) hkl).trans hk), (hW.cell (p := ⟨w.heap.size, 0, none⟩) hsz).trans (World.cell?_alloc_new _ _ _ _), (hW.cell (p := ⟨w.heap.size, 1, none⟩) hsz).trans (World.cell?_alloc_new _ _ _ _), (hW.cell (p := ⟨w.heap.size, 2, none⟩) hsz).trans (World.cell?_alloc_new _ _ _ _), (hW.cell (p := ⟨wb, 0, none⟩) (by simp at hyl ⊢; omega)).trans ((hb0.cell (p := ⟨wb, 0, none⟩) hyl).trans hy.1), (hW.cell (p := ⟨wb, 1, none⟩) (by simp at hyl ⊢; omega)).trans ((hb0.cell (p := ⟨wb, 1, none⟩) hyl).trans hy.2)⟩
  have B1 : Hid (Below w.heap.size w (w.alloc (.cells #[.int .u64 (x0 : Int), .int .u64 (x1 : Int), .int .i64 x2] 81))) := hb0
  clear hb0 hk hy hkl hyl
  go_enter Tryz.func173, Tryz.ntmps173
  go_wp2
  generalize (w.alloc (.cells #[.int .u64 (x0 : Int), .int .u64 (x1 : Int), .int .i64 x2] 81)) = W1 at *
  obtain ⟨c0, c1, c2, c3, c4, c5⟩ := HS.out _ (Below.refl _ _)
  go_region_held3 (fun W => W.cell? ⟨kb, 0, none⟩ = some (.func (.func 87) #[] #[]) ∧ W.cell? ⟨w.heap.size, 0, none⟩ = some (.int .u64 (x0 : Int)) ∧ W.cell? ⟨w.heap.size, 1, none⟩ = some (.int .u64 (x1 : Int)) ∧ W.cell? ⟨w.heap.size, 2, none⟩ = some (.int .i64 x2) ∧ W.cell? ⟨wb, 0, none⟩ = some (.int .u64 (y0 : Int)) ∧ W.cell? ⟨wb, 1, none⟩ = some (.int .i64 y1))
    (first | go_keep | exact HS.out _ (Below.refl _ _) | exact HS.out _ (Below.refl _ _).drew | exact HS.out _ hX)
    (first | (go_at_call 87; refine (CK _).mono ?_; rintro e u1 ⟨rfl, hX0⟩; (have hX : Below W1.heap.size W1 u1 := (Below.refl _ W1).drew.trans (hX0.mono (Nat.le_refl _))); (have B2 : Hid (Below w.heap.size w u1) := bel_of B1.out hX (Nat.le_refl _)); clear hX0))
  all_goals
    go_wp2
    go_ret
    exact ⟨rfl, B2.out⟩

set_option maxHeartbeats 1000000 in
theorem ofKp_any (y : Nat × Int) (w : World) : Calls Tryz.prog 141 #[(.func (.func 87) #[] #[]), kP y] w fun e w' => ∃ caps, e = .returned (.func (.func 173) #[] caps) ∧ (∀ (X : Nat → Prop), (∀ g, X g → g < w.heap.size) → ∀ x : Kp, Say X w' 173 caps #[.agg (Kp.c x).toArray] (x.kk == y)) ∧ Below w.heap.size w w' := by
  have HE : Hid (∀ (X : Nat → Prop), (∀ g, X g → g < w.heap.size) → ∀ x : Kp, Say X ((w.alloc (.cells #[(.func (.func 87) #[] #[])] 140)).alloc (.cells #[.int .u64 (y.1 : Int), .int .i64 y.2] 120)) 173 #[.pointer (some ⟨w.heap.size, 0, none⟩), .pointer (some ⟨w.heap.size + 1, 0, none⟩)] #[.agg (Kp.c x).toArray] (x.kk == y)) := by
    intro X hX x W hW
    have g0 := World.cell?_alloc_new (w.alloc (.cells #[(.func (.func 87) #[] #[])] 140)) #[.int .u64 (y.1 : Int), .int .i64 y.2] 120 0
    have g1 := World.cell?_alloc_new (w.alloc (.cells #[(.func (.func 87) #[] #[])] 140)) #[.int .u64 (y.1 : Int), .int .i64 y.2] 120 1
    rw [World.size_alloc] at g0 g1
    have hne : ¬ X (w.heap.size + 1) := fun e => by have := hX _ e; omega
    refine ofKp1_any x y (hW.cell (p := ⟨w.heap.size, 0, none⟩) ((Bx.new w (.func (.func 87) #[] #[]) 140).alloc _).cell (fun e => by have := hX _ e; simp only at this; omega)) ⟨hW.cell (p := ⟨w.heap.size + 1, 0, none⟩) g0 hne, hW.cell (p := ⟨w.heap.size + 1, 1, none⟩) g1 hne⟩
  have B1 : Hid (Below w.heap.size w ((w.alloc (.cells #[(.func (.func 87) #[] #[])] 140)).alloc (.cells #[.int .u64 (y.1 : Int), .int .i64 y.2] 120))) := ((Below.refl _ w).alloc (Nat.le_refl _) _).alloc (by simp) _
  simp only [kP] at HE B1 ⊢
  go_enter Tryz.func141, Tryz.ntmps141
  go_wp2
  go_ret
  exact ⟨_, rfl, HE.out, B1.out⟩

set_option maxHeartbeats 2000000 in
set_option maxRecDepth 100000 in
theorem ofLs1_any (x : Ls) (y : Nat × Int) {w : World} {kb wb : Nat} (hk : w.cell? ⟨kb, 0, none⟩ = some (.func (.func 89) #[] #[])) (hy : w.cell? ⟨wb, 0, none⟩ = some (.int .u64 (y.1 : Int)) ∧ w.cell? ⟨wb, 1, none⟩ = some (.int .i64 y.2)) (h6 : ∃ a n c, x.vv = .slice a n c) :
    Calls Tryz.prog 152 #[.agg (Ls.c x).toArray, .pointer (some ⟨kb, 0, none⟩), .pointer (some ⟨wb, 0, none⟩)] w fun e w' => e = .returned (.bool (x.kk == y)) ∧ Below w.heap.size w w' := by
  have CK := fun W => keyLs_any x W h6
  have hkl := World.block_lt_of_cell? w _ hk
  have hyl := World.block_lt_of_cell? w _ hy.1
  obtain ⟨y0, y1⟩ := y
  obtain ⟨sa, sn, sc, h6⟩ := h6
  obtain ⟨x0, x1, x2, x3, x4, x5, x6, _⟩ := x
  simp only at h6
  subst h6
  simp only [Ls.c, Ls.kk, kP] at CK hy ⊢
  have hq := eqP x0 y0 x2 y1
  generalize ((x0, x2) == (y0, y1)) = bb at *
  have hb0 : Below w.heap.size w (w.alloc (.cells #[.int .u64 (x0 : Int), .int .u64 (x1 : Int), .int .i64 x2, .string (S x3), .string (S x4), .int .u64 (x5 : Int), .slice sa sn sc] 84)) := (Below.refl _ w).alloc (Nat.le_refl _) _
  have HS : Hid (∀ W, Below (w.alloc (.cells #[.int .u64 (x0 : Int), .int .u64 (x1 : Int), .int .i64 x2, .string (S x3), .string (S x4), .int .u64 (x5 : Int), .slice sa sn sc] 84)).heap.size (w.alloc (.cells #[.int .u64 (x0 : Int), .int .u64 (x1 : Int), .int .i64 x2, .string (S x3), .string (S x4), .int .u64 (x5 : Int), .slice sa sn sc] 84)) W → W.cell? ⟨kb, 0, none⟩ = some (.func (.func 89) #[] #[]) ∧ W.cell? ⟨w.heap.size, 0, none⟩ = some (.int .u64 (x0 : Int)) ∧ W.cell? ⟨w.heap.size, 1, none⟩ = some (.int .u64 (x1 : Int)) ∧ W.cell? ⟨w.heap.size, 2, none⟩ = some (.int .i64 x2) ∧ W.cell? ⟨w.heap.size, 3, none⟩ = some (.string (S x3)) ∧ W.cell? ⟨w.heap.size, 4, none⟩ = some (.string (S x4)) ∧ W.cell? ⟨w.heap.size, 5, none⟩ = some (.int .u64 (x5 : Int)) ∧ W.cell? ⟨w.heap.size, 6, none⟩ = some (.slice sa sn sc) ∧ W.cell? ⟨wb, 0, none⟩ = some (.int .u64 (y0 : Int)) ∧ W.cell? ⟨wb, 1, none⟩ = some (.int .i64 y1)) := by
    intro W hW
    have hsz : w.heap.size < (w.alloc (.cells #[.int .u64 (x0 : Int), .int .u64 (x1 : Int), .int .i64 x2, .string (S x3), .string (S x4), .int .u64 (x5 : Int), .slice sa sn sc] 84)).heap.size := by simp
    exact ⟨(hW.cell (p := ⟨kb, 0, none⟩) (by simp at hkl ⊢; omega)).trans ((hb0.cell (p := ⟨kb, 0, none⟩) hkl).trans hk), (hW.cell (p := ⟨w.heap.size, 0, none⟩) hsz).trans (World.cell?_alloc_new _ _ _ _), (hW.cell (p := ⟨w.heap.size, 1, none⟩) hsz).trans (World.cell?_alloc_new _ _ _ _), (hW.cell (p := ⟨w.heap.size, 2, none⟩) hsz).trans (World.cell?_alloc_new _ _ _ _), (hW.cell (p := ⟨w.heap.size, 3, none⟩) hsz).trans (World.cell?_alloc_new _ _ _ _), (hW.cell (p := ⟨w.heap.size, 4, none⟩) hsz).trans (World.cell?_alloc_new _ _ _ _), (hW.cell (p := ⟨w.heap.size, 5, none⟩) hsz).trans (World.cell?_alloc_new _ _ _ _), (hW.cell (p := ⟨w.heap.size, 6, none⟩) hsz).trans (World.cell?_alloc_new _ _ _ _), (hW.cell (p := ⟨wb, 0, none⟩) (by simp at hyl ⊢; omega)).trans ((hb0.cell (p := ⟨wb, 0, none⟩) hyl).trans hy.1), (hW.cell (p := ⟨wb, 1, none⟩) (by simp at hyl ⊢; omega)).trans ((hb0.cell (p := ⟨wb, 1, none⟩) hyl).trans hy.2)⟩
  have B1 : Hid (Below w.heap.size w (w.alloc (.cells #[.int .u64 (x0 : Int), .int .u64 (x1 : Int), .int .i64 x2, .string (S x3), .string (S x4), .int .u64 (x5 : Int), .slice sa sn sc] 84))) := hb0
  clear hb0 hk hy hkl hyl
  go_enter Tryz.func152, Tryz.ntmps152
  go_wp2
  generalize (w.alloc (.cells #[.int .u64 (x0 : Int), .int .u64 (x1 : Int), .int .i64 x2, .string (S x3), .string (S x4), .int .u64 (x5 : Int), .slice sa sn sc] 84)) = W1 at *
  obtain ⟨c0, c1, c2, c3, c4, c5, c6, c7, c8, c9⟩ := HS.out _ (Below.refl _ _)
  go_region_held3 (fun W => W.cell? ⟨kb, 0, none⟩ = some (.func (.func 89) #[] #[]) ∧ W.cell? ⟨w.heap.size, 0, none⟩ = some (.int .u64 (x0 : Int)) ∧ W.cell? ⟨w.heap.size, 1, none⟩ = some (.int .u64 (x1 : Int)) ∧ W.cell? ⟨w.heap.size, 2, none⟩ = some (.int .i64 x2) ∧ W.cell? ⟨w.heap.size, 3, none⟩ = some (.string (S x3)) ∧ W.cell? ⟨w.heap.size, 4, none⟩ = some (.string (S x4)) ∧ W.cell? ⟨w.heap.size, 5, none⟩ = some (.int .u64 (x5 : Int)) ∧ W.cell? ⟨w.heap.size, 6, none⟩ = some (.slice sa sn sc) ∧ W.cell? ⟨wb, 0, none⟩ = some (.int .u64 (y0 : Int)) ∧ W.cell? ⟨wb, 1, none⟩ = some (.int .i64 y1))
    (first | go_keep | exact HS.out _ (Below.refl _ _) | exact HS.out _ (Below.refl _ _).drew | exact HS.out _ hX)
    (first | (go_at_call 89; refine (CK _).mono ?_; rintro e u1 ⟨rfl, hX0⟩; (have hX : Below W1.heap.size W1 u1 := (Below.refl _ W1).drew.trans (hX0.mono (Nat.le_refl _))); (have B2 : Hid (Below w.heap.size w u1) := bel_of B1.out hX (Nat.le_refl _)); clear hX0))
  all_goals
    go_wp2
    go_ret
    exact ⟨rfl, B2.out⟩

set_option maxHeartbeats 1000000 in
theorem ofLs_any (y : Nat × Int) (w : World) : Calls Tryz.prog 94 #[(.func (.func 89) #[] #[]), kP y] w fun e w' => ∃ caps, e = .returned (.func (.func 152) #[] caps) ∧ (∀ (X : Nat → Prop), (∀ g, X g → g < w.heap.size) → ∀ x : Ls, (∃ a n c, x.vv = .slice a n c) → Say X w' 152 caps #[.agg (Ls.c x).toArray] (x.kk == y)) ∧ Below w.heap.size w w' := by
  have HE : Hid (∀ (X : Nat → Prop), (∀ g, X g → g < w.heap.size) → ∀ x : Ls, (∃ a n c, x.vv = .slice a n c) → Say X ((w.alloc (.cells #[(.func (.func 89) #[] #[])] 142)).alloc (.cells #[.int .u64 (y.1 : Int), .int .i64 y.2] 120)) 152 #[.pointer (some ⟨w.heap.size, 0, none⟩), .pointer (some ⟨w.heap.size + 1, 0, none⟩)] #[.agg (Ls.c x).toArray] (x.kk == y)) := by
    intro X hX x h6 W hW
    have g0 := World.cell?_alloc_new (w.alloc (.cells #[(.func (.func 89) #[] #[])] 142)) #[.int .u64 (y.1 : Int), .int .i64 y.2] 120 0
    have g1 := World.cell?_alloc_new (w.alloc (.cells #[(.func (.func 89) #[] #[])] 142)) #[.int .u64 (y.1 : Int), .int .i64 y.2] 120 1
    rw [World.size_alloc] at g0 g1
    have hne : ¬ X (w.heap.size + 1) := fun e => by have := hX _ e; omega
    refine ofLs1_any x y (hW.cell (p := ⟨w.heap.size, 0, none⟩) ((Bx.new w (.func (.func 89) #[] #[]) 142).alloc _).cell (fun e => by have := hX _ e; simp only at this; omega)) ⟨hW.cell (p := ⟨w.heap.size + 1, 0, none⟩) g0 hne, hW.cell (p := ⟨w.heap.size + 1, 1, none⟩) g1 hne⟩ h6
  have B1 : Hid (Below w.heap.size w ((w.alloc (.cells #[(.func (.func 89) #[] #[])] 142)).alloc (.cells #[.int .u64 (y.1 : Int), .int .i64 y.2] 120))) := ((Below.refl _ w).alloc (Nat.le_refl _) _).alloc (by simp) _
  simp only [kP] at HE B1 ⊢
  go_enter Tryz.func94, Tryz.ntmps94
  go_wp2
  go_ret
  exact ⟨_, rfl, HE.out, B1.out⟩
end Go.Proofs.YtgklemopmiabcabGreat.f13

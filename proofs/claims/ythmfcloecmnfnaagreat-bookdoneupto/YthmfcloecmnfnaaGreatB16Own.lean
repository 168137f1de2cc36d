/-
  Package flow's owned: a record whose list nobody else has.
-/
import Derived.Test.YthmfcloecmnfnaaGreatB16Box
namespace Go.Proofs.YthmfcloecmnfnaaGreat.f13
open Go.RowKit Go.Shelf Go.Sort
open Go.Lib hiding intOf

theorem size13 : (Tryz.prog.info? 63).map (·.size) = some 13 := by kernel_rfl
/-- all thirteen cells of a record are set -/
def set13 (w : World) (rb : Nat) (c0 c1 c2 c3 c4 c5 c6 c7 c8 c9 c10 c11 c12 : Value) : World := (((((((((((((w).setCell ⟨rb, 0, none⟩ c0).setCell ⟨rb, 1, none⟩ c1).setCell ⟨rb, 2, none⟩ c2).setCell ⟨rb, 3, none⟩ c3).setCell ⟨rb, 4, none⟩ c4).setCell ⟨rb, 5, none⟩ c5).setCell ⟨rb, 6, none⟩ c6).setCell ⟨rb, 7, none⟩ c7).setCell ⟨rb, 8, none⟩ c8).setCell ⟨rb, 9, none⟩ c9).setCell ⟨rb, 10, none⟩ c10).setCell ⟨rb, 11, none⟩ c11).setCell ⟨rb, 12, none⟩ c12
theorem set13_ch (w : World) (rb : Nat) (c0 c1 c2 c3 c4 c5 c6 c7 c8 c9 c10 c11 c12 : Value) : Ch (fun g => g = rb) w (set13 w rb c0 c1 c2 c3 c4 c5 c6 c7 c8 c9 c10 c11 c12) := ((((((((((((((Ch.refl (fun g => g = rb) w)).setCell ⟨rb, 0, none⟩ c0 (fun _ => rfl)).setCell ⟨rb, 1, none⟩ c1 (fun _ => rfl)).setCell ⟨rb, 2, none⟩ c2 (fun _ => rfl)).setCell ⟨rb, 3, none⟩ c3 (fun _ => rfl)).setCell ⟨rb, 4, none⟩ c4 (fun _ => rfl)).setCell ⟨rb, 5, none⟩ c5 (fun _ => rfl)).setCell ⟨rb, 6, none⟩ c6 (fun _ => rfl)).setCell ⟨rb, 7, none⟩ c7 (fun _ => rfl)).setCell ⟨rb, 8, none⟩ c8 (fun _ => rfl)).setCell ⟨rb, 9, none⟩ c9 (fun _ => rfl)).setCell ⟨rb, 10, none⟩ c10 (fun _ => rfl)).setCell ⟨rb, 11, none⟩ c11 (fun _ => rfl)).setCell ⟨rb, 12, none⟩ c12 (fun _ => rfl)
theorem set13_obj {W : World} {g : Nat} {t : TypeId} {z0 z1 z2 z3 z4 z5 z6 z7 z8 z9 z10 z11 z12 : Value} (c0 c1 c2 c3 c4 c5 c6 c7 c8 c9 c10 c11 c12 : Value) (h : W.heap[g]? = some (.cells #[z0, z1, z2, z3, z4, z5, z6, z7, z8, z9, z10, z11, z12] t (0, 0))) : (set13 W g c0 c1 c2 c3 c4 c5 c6 c7 c8 c9 c10 c11 c12).heap[g]? = some (.cells #[c0, c1, c2, c3, c4, c5, c6, c7, c8, c9, c10, c11, c12] t (0, 0)) := by
  obtain ⟨cur, h1, -, h3⟩ := setCells_same g t [c0, c1, c2, c3, c4, c5, c6, c7, c8, c9, c10, c11, c12] 0 W _ h (by simp)
  have e : cur = #[c0, c1, c2, c3, c4, c5, c6, c7, c8, c9, c10, c11, c12] := Array.toList_inj.1 (by rw [h3]; simp)
  rw [e] at h1
  exact h1
set_option maxHeartbeats 4000000 in
set_option maxRecDepth 100000 in
theorem owned_any {w : World} {r : Rc} (hr : Rr 4 Vr.c w r.vv r.v) (hn : r.v.length * 48 ≤ 211106232528000) :
    Calls Tryz.prog 48 #[.agg r.cs.toArray] w fun e w' => ∃ v', e = .returned (.agg ({ r with vv := v' } : Rc).cs.toArray) ∧ w'.ownsRow w.heap.size 101 4 v' r.v.length (r.v.flatMap Vr.c) ∧ Below w.heap.size w w' := by
  obtain ⟨i0, hi0, hz0, hz1, hz2⟩ := info_parts infoVr
  have hr0 := hr
  obtain ⟨ra, rp, hra, hcp, -⟩ := id hr
  obtain ⟨r0, r1, r2, r3, r4, r5, r6, r7, r8, r9, r10, r11, rvv, rv⟩ := r
  simp only at hra hr hn hcp hr0
  subst hra
  simp only [Rc.cs]
  obtain ⟨W2, hW2⟩ : ∃ W2, (w.alloc (.cells #[.int .i64 r0, .int .i64 r1, .int .u64 (r2 : Int), .int .i64 r3, .int .u64 (r4 : Int), .int .u64 (r5 : Int), .int .u64 (r6 : Int), .int .i64 r7, .int .i64 r8, .string (S r9), .string (S r10), .string (S r11), .slice ra rv.length rp] 63)).alloc (.cells #[.int .i64 0, .int .i64 0, .int .u64 0, .int .i64 0, .int .u64 0, .int .u64 0, .int .u64 0, .int .i64 0, .int .i64 0, .string ⟨#[]⟩, .string ⟨#[]⟩, .string ⟨#[]⟩, .slice none 0 0] 63) = W2 := ⟨_, rfl⟩
  have hb0 : Below w.heap.size w W2 := by rw [← hW2]; exact ((Below.refl _ w).alloc (Nat.le_refl _) _).alloc (by simp) _
  have hs2 : W2.heap.size = w.heap.size + 2 := by rw [← hW2]; simp
  have ho1 : W2.heap[w.heap.size]? = some (.cells #[.int .i64 r0, .int .i64 r1, .int .u64 (r2 : Int), .int .i64 r3, .int .u64 (r4 : Int), .int .u64 (r5 : Int), .int .u64 (r6 : Int), .int .i64 r7, .int .i64 r8, .string (S r9), .string (S r10), .string (S r11), .slice ra rv.length rp] 63 (0, 0)) := by
    rw [← hW2]; exact (Below.heap_alloc _ _ _ (by simp)).trans (heap_alloc_new w _)
  have ho2 : W2.heap[w.heap.size + 1]? = some (.cells #[.int .i64 0, .int .i64 0, .int .u64 0, .int .i64 0, .int .u64 0, .int .u64 0, .int .u64 0, .int .i64 0, .int .i64 0, .string ⟨#[]⟩, .string ⟨#[]⟩, .string ⟨#[]⟩, .slice none 0 0] 63 (0, 0)) := by
    rw [← hW2]
    have := heap_alloc_new (w.alloc (.cells #[.int .i64 r0, .int .i64 r1, .int .u64 (r2 : Int), .int .i64 r3, .int .u64 (r4 : Int), .int .u64 (r5 : Int), .int .u64 (r6 : Int), .int .i64 r7, .int .i64 r8, .string (S r9), .string (S r10), .string (S r11), .slice ra rv.length rp] 63)) (.cells #[.int .i64 0, .int .i64 0, .int .u64 0, .int .i64 0, .int .u64 0, .int .u64 0, .int .u64 0, .int .i64 0, .int .i64 0, .string ⟨#[]⟩, .string ⟨#[]⟩, .string ⟨#[]⟩, .slice none 0 0] 63)
    simp only [World.size_alloc] at this
    exact this
  have HA : ∃ v2 w2, (Builtin.append_ #[61, 61] 61 #[.slice none 0 0, .slice ra rv.length rp]).run Tryz.prog W2 = .ok v2 w2 ∧ (∃ a n c, v2 = .slice a n c) ∧ w2.ownsRow W2.heap.size 101 4 v2 rv.length (rv.flatMap Vr.c) ∧ Below W2.heap.size W2 w2 := by
    have HR := World.ownsRow_nil W2 W2.heap.size 101 4
    cases ra with
    | none =>
      have hl : rv = [] := List.eq_nil_of_length_eq_zero (by have := hcp.1; have := hcp.2 rfl; omega)
      subst hl
      obtain rfl := hcp.2 rfl
      exact ⟨_, _, run_append_owned_none (P := Tryz.prog) W2 W2.heap.size 61 61 101 i0 4 Tryz.underlying61 hi0 _ _ _ HR, ⟨_, _, _, rfl⟩, HR, Below.refl _ _⟩
    | some ad =>
      have h2 := hr0.up hb0
      have hcl := h2.cells Vr.k (by decide)
      obtain ⟨v2, w2, hrun, hown, hgrow, -⟩ := run_append_own_wide (P := Tryz.prog) W2 W2.heap.size 61 61 101 i0 _ 4 48 Tryz.underlying61 hi0 hz0 hz1 hz2 rfl (by decide) _ _ _ HR ad rv.length rp (rv.flatMap Vr.c) (fm_len Vr.k rv) hcl (Vr.one (l := rv)) (by unfold maxLen; omega) (by omega) (by omega)
      obtain ⟨a2, c2, rfl, -⟩ := row_slice hown
      exact ⟨_, w2, hrun, ⟨_, _, _, rfl⟩, by simpa using hown, (Below.refl _ W2).grown hgrow (Nat.le_refl _) (fun k hk => by cases hk)⟩
  obtain ⟨v2, w2, hrun, ⟨a2, n2, c2, rfl⟩, hown2, hbel2⟩ := HA
  have q1 := (hbel2.block _ (by omega)).trans ho1
  have q2 := (hbel2.block _ (by omega)).trans ho2
  have HB : Hid (Below w.heap.size w w2) := hb0.trans (hbel2.mono (by omega))
  have HO : Hid (w2.ownsRow W2.heap.size 101 4 (.slice a2 n2 c2) rv.length (rv.flatMap Vr.c)) := hown2
  have HQ : Hid _ := q2
  have HS : Hid (W2.heap.size = w.heap.size + 2) := hs2
  have p12 : W2.cell? ⟨w.heap.size, 12, none⟩ = some (.slice ra rv.length rp) := by simp [World.cell?, ho1]
  have x0 : w2.cell? ⟨w.heap.size, 0, none⟩ = some (.int .i64 r0) := by simp [World.cell?, q1]
  have x1 : w2.cell? ⟨w.heap.size, 1, none⟩ = some (.int .i64 r1) := by simp [World.cell?, q1]
  have x2 : w2.cell? ⟨w.heap.size, 2, none⟩ = some (.int .u64 (r2 : Int)) := by simp [World.cell?, q1]
  have x3 : w2.cell? ⟨w.heap.size, 3, none⟩ = some (.int .i64 r3) := by simp [World.cell?, q1]
  have x4 : w2.cell? ⟨w.heap.size, 4, none⟩ = some (.int .u64 (r4 : Int)) := by simp [World.cell?, q1]
  have x5 : w2.cell? ⟨w.heap.size, 5, none⟩ = some (.int .u64 (r5 : Int)) := by simp [World.cell?, q1]
  have x6 : w2.cell? ⟨w.heap.size, 6, none⟩ = some (.int .u64 (r6 : Int)) := by simp [World.cell?, q1]
  have x7 : w2.cell? ⟨w.heap.size, 7, none⟩ = some (.int .i64 r7) := by simp [World.cell?, q1]
  have x8 : w2.cell? ⟨w.heap.size, 8, none⟩ = some (.int .i64 r8) := by simp [World.cell?, q1]
  have x9 : w2.cell? ⟨w.heap.size, 9, none⟩ = some (.string (S r9)) := by simp [World.cell?, q1]
  have x10 : w2.cell? ⟨w.heap.size, 10, none⟩ = some (.string (S r10)) := by simp [World.cell?, q1]
  have x11 : w2.cell? ⟨w.heap.size, 11, none⟩ = some (.string (S r11)) := by simp [World.cell?, q1]
  have f12 : w2.frozen? ⟨w.heap.size, 12, none⟩ = false := by simp [World.frozen?, q1]
  have x12 : w2.cell? ⟨w.heap.size, 12, none⟩ = some (.slice ra rv.length rp) := by simp [World.cell?, q1]
  have y0 : w2.cell? ⟨w.heap.size + 1, 0, none⟩ = some (.int .i64 0) := by simp [World.cell?, q2]
  have g0 : w2.frozen? ⟨w.heap.size + 1, 0, none⟩ = false := by simp [World.frozen?, q2]
  have y1 : w2.cell? ⟨w.heap.size + 1, 1, none⟩ = some (.int .i64 0) := by simp [World.cell?, q2]
  have g1 : w2.frozen? ⟨w.heap.size + 1, 1, none⟩ = false := by simp [World.frozen?, q2]
  have y2 : w2.cell? ⟨w.heap.size + 1, 2, none⟩ = some (.int .u64 0) := by simp [World.cell?, q2]
  have g2 : w2.frozen? ⟨w.heap.size + 1, 2, none⟩ = false := by simp [World.frozen?, q2]
  have y3 : w2.cell? ⟨w.heap.size + 1, 3, none⟩ = some (.int .i64 0) := by simp [World.cell?, q2]
  have g3 : w2.frozen? ⟨w.heap.size + 1, 3, none⟩ = false := by simp [World.frozen?, q2]
  have y4 : w2.cell? ⟨w.heap.size + 1, 4, none⟩ = some (.int .u64 0) := by simp [World.cell?, q2]
  have g4 : w2.frozen? ⟨w.heap.size + 1, 4, none⟩ = false := by simp [World.frozen?, q2]
  have y5 : w2.cell? ⟨w.heap.size + 1, 5, none⟩ = some (.int .u64 0) := by simp [World.cell?, q2]
  have g5 : w2.frozen? ⟨w.heap.size + 1, 5, none⟩ = false := by simp [World.frozen?, q2]
  have y6 : w2.cell? ⟨w.heap.size + 1, 6, none⟩ = some (.int .u64 0) := by simp [World.cell?, q2]
  have g6 : w2.frozen? ⟨w.heap.size + 1, 6, none⟩ = false := by simp [World.frozen?, q2]
  have y7 : w2.cell? ⟨w.heap.size + 1, 7, none⟩ = some (.int .i64 0) := by simp [World.cell?, q2]
  have g7 : w2.frozen? ⟨w.heap.size + 1, 7, none⟩ = false := by simp [World.frozen?, q2]
  have y8 : w2.cell? ⟨w.heap.size + 1, 8, none⟩ = some (.int .i64 0) := by simp [World.cell?, q2]
  have g8 : w2.frozen? ⟨w.heap.size + 1, 8, none⟩ = false := by simp [World.frozen?, q2]
  have y9 : w2.cell? ⟨w.heap.size + 1, 9, none⟩ = some (.string ⟨#[]⟩) := by simp [World.cell?, q2]
  have g9 : w2.frozen? ⟨w.heap.size + 1, 9, none⟩ = false := by simp [World.frozen?, q2]
  have y10 : w2.cell? ⟨w.heap.size + 1, 10, none⟩ = some (.string ⟨#[]⟩) := by simp [World.cell?, q2]
  have g10 : w2.frozen? ⟨w.heap.size + 1, 10, none⟩ = false := by simp [World.frozen?, q2]
  have y11 : w2.cell? ⟨w.heap.size + 1, 11, none⟩ = some (.string ⟨#[]⟩) := by simp [World.cell?, q2]
  have g11 : w2.frozen? ⟨w.heap.size + 1, 11, none⟩ = false := by simp [World.frozen?, q2]
  have y12 : w2.cell? ⟨w.heap.size + 1, 12, none⟩ = some (.slice none 0 0) := by simp [World.cell?, q2]
  have g12 : w2.frozen? ⟨w.heap.size + 1, 12, none⟩ = false := by simp [World.frozen?, q2]
  clear hr hr0 hcp hb0 ho1 ho2 hown2 hbel2 q1 q2 hz0 hz1 hz2 hi0 hn hs2
  go_enter Tryz.func48, Tryz.ntmps48
  go_wp2_with (at_builtin; (try rw [hW2]); refine Lib.wpList_append_run _ rfl _ _ _ _ rfl _ _ rfl rfl _ _ hrun ?_)
  obtain ⟨W9, hW9⟩ : ∃ W9, set13 (w2.setCell ⟨w.heap.size, 12, none⟩ (.slice a2 n2 c2)) (w.heap.size + 1) (.int .i64 r0) (.int .i64 r1) (.int .u64 (r2 : Int)) (.int .i64 r3) (.int .u64 (r4 : Int)) (.int .u64 (r5 : Int)) (.int .u64 (r6 : Int)) (.int .i64 r7) (.int .i64 r8) (.string (S r9)) (.string (S r10)) (.string (S r11)) (.slice a2 n2 c2) = W9 := ⟨_, rfl⟩
  have ho9 : (w2.setCell ⟨w.heap.size, 12, none⟩ (.slice a2 n2 c2)).heap[w.heap.size + 1]? = some (.cells #[.int .i64 0, .int .i64 0, .int .u64 0, .int .i64 0, .int .u64 0, .int .u64 0, .int .u64 0, .int .i64 0, .int .i64 0, .string ⟨#[]⟩, .string ⟨#[]⟩, .string ⟨#[]⟩, .slice none 0 0] 63 (0, 0)) := ((ch_cell w2 w.heap.size 12 (.slice a2 n2 c2)).block _ (Array.getElem?_eq_some_iff.1 HQ.out).1 (fun e => by injection e with e; omega)).trans HQ.out
  have hg9 := set13_obj (.int .i64 r0) (.int .i64 r1) (.int .u64 (r2 : Int)) (.int .i64 r3) (.int .u64 (r4 : Int)) (.int .u64 (r5 : Int)) (.int .u64 (r6 : Int)) (.int .i64 r7) (.int .i64 r8) (.string (S r9)) (.string (S r10)) (.string (S r11)) (.slice a2 n2 c2) ho9
  have hc9 : Ch (fun g => g = w.heap.size ∨ g = w.heap.size + 1) w2 W9 := by
    rw [← hW9]
    exact (((Ch.refl _ w2).setCell ⟨w.heap.size, 12, none⟩ (.slice a2 n2 c2) (fun _ => .inl rfl))).trans ((set13_ch _ _ _ _ _ _ _ _ _ _ _ _ _ _ _).mono (fun _ _ e => .inr e))
  rw [hW9] at hg9
  refine bodyPost_ret (results_cell_row rfl _ _ (w.heap.size + 1) 63 #[.int .i64 r0, .int .i64 r1, .int .u64 (r2 : Int), .int .i64 r3, .int .u64 (r4 : Int), .int .u64 (r5 : Int), .int .u64 (r6 : Int), .int .i64 r7, .int .i64 r8, .string (S r9), .string (S r10), .string (S r11), .slice a2 n2 c2] (0, 0) _ rfl (by unfold set13 at hW9; rw [hW9]; exact hg9) Tryz.underlying63 rfl size13) rfl ?_
  unfold set13 at hW9
  rw [hW9]
  refine ⟨.slice a2 n2 c2, rfl, ?_, HB.out.trans (hc9.below HB.out.size (fun k hk e => by omega))⟩
  refine row_base (row_zero (hc9.row HO.out (fun b hb e => ?_))) (fun b hb => ?_)
  · have := (HO.out.lt b hb).1
    have := HS.out
    omega
  · have := (HO.out.lt b hb).1
    have := HS.out
    omega
end Go.Proofs.YthmfcloecmnfnaaGreat.f13

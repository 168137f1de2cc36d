/-
  Package model: the rules of ways.
-/
import Derived.Test.YtlmdoiagjepmbaaGreatDoorM11Flr
namespace Go.Proofs.YtlmdoiagjepmbaaGreatDoor.m11
open Go.Proofs.YtlmdoiagjepmbaaGreatDoor.x10
open Go.RowKit Go.Shelf Go.Sort
open Go.Lib hiding intOf

/-- Outs of a process that lies in a block: how many there are -/
theorem Outs_len {w : World} {pb : Nat} {nv fv : Value} {P : Pc} (hb : Pb w pb nv fv P) (hz : Pz P) (i : Int) (W : World) (hW : Below w.heap.size w W) : Calls Tryz.prog 42 #[.agg #[.string (S P.id), nv, fv], .int .i64 i] W fun e w' => (∃ a c, e = .returned (.slice a (ous P i).length c)) ∧ Below W.heap.size W w' := (Outs_any (hb.po.up hW) hz i).mono fun _ _ ⟨a, c, he, _, h2⟩ => ⟨⟨a, c, he⟩, h2⟩
theorem Ins_len {w : World} {pb : Nat} {nv fv : Value} {P : Pc} (hb : Pb w pb nv fv P) (hz : Pz P) (i : Int) (W : World) (hW : Below w.heap.size w W) : Calls Tryz.prog 80 #[.agg #[.string (S P.id), nv, fv], .int .i64 i] W fun e w' => (∃ a c, e = .returned (.slice a (ins P i).length c)) ∧ Below W.heap.size W w' := (Ins_any (hb.po.up hW) hz i).mono fun _ _ ⟨a, c, he, _, h2⟩ => ⟨⟨a, c, he⟩, h2⟩

set_option maxRecDepth 100000 in
set_option maxHeartbeats 1000000 in
theorem wr1_any {w : World} {pb : Nat} {nv fv : Value} {P : Pc} (hb : Pb w pb nv fv P) (hz : Pz P) (i : Int) (x : Nd) : Calls Tryz.prog 78 #[.int .i64 i, nA x, .pointer (some ⟨pb, 0, none⟩)] w fun e w' => e = .returned (.bool (if [(2 : Int)].contains x.kind then (ous P i).length == 0 else if [(4 : Int), 5].contains x.kind then decide (0 < (ous P i).length) else (ous P i).length == 1)) ∧ Below w.heap.size w w' := by
  obtain ⟨k, p, h, nm, ty, ke, n⟩ := x
  have hB1 : Below w.heap.size w (w.alloc (.cells #[.int .i64 k, .int .i64 p, .int .i64 h, .string (S nm), .string (S ty), .string (S ke), .int .i64 n] 32)) := (Below.refl _ w).alloc (Nat.le_refl _) _
  have HC := Outs_len hb hz i _ hB1
  obtain ⟨b0, b1, b2, blt, bpo⟩ := hb.up hB1
  have HX : Hid (∀ w1, Below (w.alloc (.cells #[.int .i64 k, .int .i64 p, .int .i64 h, .string (S nm), .string (S ty), .string (S ke), .int .i64 n] 32)).heap.size (w.alloc (.cells #[.int .i64 k, .int .i64 p, .int .i64 h, .string (S nm), .string (S ty), .string (S ke), .int .i64 n] 32)) w1 → Nc w1 w.heap.size 0 ⟨k, p, h, nm, ty, ke, n⟩ ∧ Below w.heap.size w w1) := fun w1 h1 => ⟨(nc_new w k p h nm ty ke n).below h1 (by simp), bel_of hB1 h1 (Nat.le_refl _)⟩
  have CA : Hid (∀ W : World, Calls Tryz.prog 35 #[nA ⟨k, p, h, nm, ty, ke, n⟩, .slice (some ⟨W.heap.size, 0, none⟩) 1 1] (W.alloc (.cells #[.int .i64 2] 3)) fun e w' => e = .returned (.bool ([(2 : Int)].contains k)) ∧ Below W.heap.size W w') := fun W => isOf_lit ⟨k, p, h, nm, ty, ke, n⟩ W W.heap.size rfl [(2 : Int)] (by decide) 3
  have CB : Hid (∀ W : World, Calls Tryz.prog 35 #[nA ⟨k, p, h, nm, ty, ke, n⟩, .slice (some ⟨W.heap.size, 0, none⟩) 2 2] (W.alloc (.cells #[.int .i64 4, .int .i64 5] 3)) fun e w' => e = .returned (.bool ([(4 : Int), 5].contains k)) ∧ Below W.heap.size W w') := fun W => isOf_lit ⟨k, p, h, nm, ty, ke, n⟩ W W.heap.size rfl [(4 : Int), 5] (by decide) 3
  obtain ⟨na, nc, rfl, -⟩ := hb.po.ns
  obtain ⟨fa, fc, rfl, -⟩ := hb.po.fs
  unfold nA at CA CB ⊢
  simp only at CA CB ⊢
  generalize (ous P i).length = L at *
  generalize [(2 : Int)].contains k = r1 at *
  generalize [(4 : Int), 5].contains k = r2 at *
  have HBS : Hid (Below w.heap.size w (w.alloc (.cells #[.int .i64 k, .int .i64 p, .int .i64 h, .string (S nm), .string (S ty), .string (S ke), .int .i64 n] 32))) := hB1
  clear hb hz bpo hB1
  cases r1 with
  | true =>
    rw [if_pos rfl]
    have HR : Hid ((((L : Nat) : Int) == 0) = (L == 0)) := by show _ = _; cases L <;> rfl
    go_enter Tryz.func78, Tryz.ntmps78
    go_wp2_with (first
      | (go_at_call 42; refine HC.mono ?_; rintro e w1 ⟨⟨oa, oc, rfl⟩, hb1⟩; obtain ⟨⟨c0, c1, c2, c3, c4, c5, c6⟩, hb2⟩ := HX.out w1 hb1; simp only at c0 c1 c2 c3 c4 c5 c6; (have B2 : Hid (Below w.heap.size w w1) := hb2); (have CI := CA.out w1); clear hb1 hb2 HC HX CA)
      | (go_at_call 35; refine CI.mono ?_; rintro e w2 ⟨rfl, hb2⟩; (have B3 : Hid (Below w.heap.size w w2) := bel_of B2.out hb2 (Nat.le_refl _)); clear hb2 CI))
    go_ret
    exact ⟨by first | (rw [← HR.out]; rfl) | (rw [← HR.out]; simp), B3.out⟩
  | false =>
    rw [if_neg (by simp)]
    cases r2 with
    | true =>
      rw [if_pos rfl]
      have HR : Hid (decide ((0 : Int) < (L : Int)) = decide (0 < L)) := by show _ = _; simp
      go_enter Tryz.func78, Tryz.ntmps78
      go_wp2_with (first
        | (go_at_call 42; refine HC.mono ?_; rintro e w1 ⟨⟨oa, oc, rfl⟩, hb1⟩; obtain ⟨⟨c0, c1, c2, c3, c4, c5, c6⟩, hb2⟩ := HX.out w1 hb1; simp only at c0 c1 c2 c3 c4 c5 c6; (have B2 : Hid (Below w.heap.size w w1) := hb2); (have HN : Hid (Nc w1 w.heap.size 0 ⟨k, p, h, nm, ty, ke, n⟩ ∧ w.heap.size < w1.heap.size) := ⟨(HX.out w1 hb1).1, Nat.lt_of_lt_of_le (by simp) hb1.size⟩); (have CI := CA.out w1); clear hb1 hb2 HC HX CA)
        | (go_at_call_of 35 (Value.slice (some ⟨w1.heap.size, 0, none⟩) 1 1); refine CI.mono ?_; rintro e w2 ⟨rfl, hb2⟩; (have B3 : Hid (Below w.heap.size w w2) := bel_of B2.out hb2 (Nat.le_refl _)); obtain ⟨e0, e1, e2, e3, e4, e5, e6⟩ := HN.out.1.below hb2 HN.out.2; simp only at e0 e1 e2 e3 e4 e5 e6; (have CJ := CB.out w2); clear hb2 CI CB HN)
        | (go_at_call 35; refine CJ.mono ?_; rintro e w3 ⟨rfl, hb3⟩; (have B4 : Hid (Below w.heap.size w w3) := bel_of B3.out hb3 (Nat.le_refl _)); clear hb3 CJ))
      go_ret
      exact ⟨by first | (rw [← HR.out]; rfl) | (rw [← HR.out]; simp), B4.out⟩
    | false =>
      rw [if_neg (by simp)]
      have HR : Hid ((((L : Nat) : Int) == 1) = (L == 1)) := by
        show _ = _
        by_cases hl : L = 1
        · subst hl; rfl
        · have : ((L : Nat) : Int) ≠ 1 := by omega
          rw [beq_eq_false_iff_ne.2 hl, beq_eq_false_iff_ne.2 this]
      go_enter Tryz.func78, Tryz.ntmps78
      go_wp2_with (first
        | (go_at_call 42; refine HC.mono ?_; rintro e w1 ⟨⟨oa, oc, rfl⟩, hb1⟩; obtain ⟨⟨c0, c1, c2, c3, c4, c5, c6⟩, hb2⟩ := HX.out w1 hb1; simp only at c0 c1 c2 c3 c4 c5 c6; (have B2 : Hid (Below w.heap.size w w1) := hb2); (have HN : Hid (Nc w1 w.heap.size 0 ⟨k, p, h, nm, ty, ke, n⟩ ∧ w.heap.size < w1.heap.size) := ⟨(HX.out w1 hb1).1, Nat.lt_of_lt_of_le (by simp) hb1.size⟩); (have CI := CA.out w1); clear hb1 hb2 HC HX CA)
        | (go_at_call_of 35 (Value.slice (some ⟨w1.heap.size, 0, none⟩) 1 1); refine CI.mono ?_; rintro e w2 ⟨rfl, hb2⟩; (have B3 : Hid (Below w.heap.size w w2) := bel_of B2.out hb2 (Nat.le_refl _)); obtain ⟨e0, e1, e2, e3, e4, e5, e6⟩ := HN.out.1.below hb2 HN.out.2; simp only at e0 e1 e2 e3 e4 e5 e6; (have CJ := CB.out w2); clear hb2 CI CB HN)
        | (go_at_call 35; refine CJ.mono ?_; rintro e w3 ⟨rfl, hb3⟩; (have B4 : Hid (Below w.heap.size w w3) := bel_of B3.out hb3 (Nat.le_refl _)); clear hb3 CJ))
      go_ret
      exact ⟨by first | (rw [← HR.out]; rfl) | (rw [← HR.out]; simp), B4.out⟩

set_option maxRecDepth 100000 in
set_option maxHeartbeats 1000000 in
theorem wr2_any {w : World} {pb : Nat} {nv fv : Value} {P : Pc} (hb : Pb w pb nv fv P) (hz : Pz P) (i : Int) (x : Nd) : Calls Tryz.prog 79 #[.int .i64 i, nA x, .pointer (some ⟨pb, 0, none⟩)] w fun e w' => e = .returned (.bool (nwi x.kind == ((ins P i).length == 0))) ∧ Below w.heap.size w w' := by
  obtain ⟨k, p, h, nm, ty, ke, n⟩ := x
  have hB1 : Below w.heap.size w (w.alloc (.cells #[.int .i64 k, .int .i64 p, .int .i64 h, .string (S nm), .string (S ty), .string (S ke), .int .i64 n] 32)) := (Below.refl _ w).alloc (Nat.le_refl _) _
  have CI : ∀ W, Below (w.alloc (.cells #[.int .i64 k, .int .i64 p, .int .i64 h, .string (S nm), .string (S ty), .string (S ke), .int .i64 n] 32)).heap.size (w.alloc (.cells #[.int .i64 k, .int .i64 p, .int .i64 h, .string (S nm), .string (S ty), .string (S ke), .int .i64 n] 32)) W → Calls Tryz.prog 80 #[.agg #[.string (S P.id), nv, fv], .int .i64 i] W fun e w' => (∃ a c, e = .returned (.slice a (ins P i).length c)) ∧ Below (w.alloc (.cells #[.int .i64 k, .int .i64 p, .int .i64 h, .string (S nm), .string (S ty), .string (S ke), .int .i64 n] 32)).heap.size (w.alloc (.cells #[.int .i64 k, .int .i64 p, .int .i64 h, .string (S nm), .string (S ty), .string (S ke), .int .i64 n] 32)) w' := fun W hW => (Ins_len hb hz i W (bel_of hB1 hW (Nat.le_refl _))).mono fun e w' hh => ⟨hh.1, bel_of hW hh.2 (Nat.le_refl _)⟩
  have CN : ∀ W, Below (w.alloc (.cells #[.int .i64 k, .int .i64 p, .int .i64 h, .string (S nm), .string (S ty), .string (S ke), .int .i64 n] 32)).heap.size (w.alloc (.cells #[.int .i64 k, .int .i64 p, .int .i64 h, .string (S nm), .string (S ty), .string (S ke), .int .i64 n] 32)) W → Calls Tryz.prog 74 #[nA ⟨k, p, h, nm, ty, ke, n⟩] W fun e w' => e = .returned (.bool (nwi k)) ∧ Below (w.alloc (.cells #[.int .i64 k, .int .i64 p, .int .i64 h, .string (S nm), .string (S ty), .string (S ke), .int .i64 n] 32)).heap.size (w.alloc (.cells #[.int .i64 k, .int .i64 p, .int .i64 h, .string (S nm), .string (S ty), .string (S ke), .int .i64 n] 32)) w' := fun W hW => (noWayIn_any ⟨k, p, h, nm, ty, ke, n⟩ W).mono fun e w' hh => ⟨hh.1, bel_of hW hh.2 (Nat.le_refl _)⟩
  obtain ⟨b0, b1, b2, blt, bpo⟩ := hb.up hB1
  obtain ⟨c0, c1, c2, c3, c4, c5, c6⟩ := nc_new w k p h nm ty ke n
  obtain ⟨na, nc, rfl, -⟩ := hb.po.ns
  obtain ⟨fa, fc, rfl, -⟩ := hb.po.fs
  have hbs : w.heap.size < (w.alloc (.cells #[.int .i64 k, .int .i64 p, .int .i64 h, .string (S nm), .string (S ty), .string (S ke), .int .i64 n] 32)).heap.size := by simp
  simp only at c0 c1 c2 c3 c4 c5 c6
  have HS : Hid (∀ W, Below (w.alloc (.cells #[.int .i64 k, .int .i64 p, .int .i64 h, .string (S nm), .string (S ty), .string (S ke), .int .i64 n] 32)).heap.size (w.alloc (.cells #[.int .i64 k, .int .i64 p, .int .i64 h, .string (S nm), .string (S ty), .string (S ke), .int .i64 n] 32)) W → W.cell? ⟨w.heap.size, 0, none⟩ = some (.int .i64 k) ∧ W.cell? ⟨w.heap.size, 1, none⟩ = some (.int .i64 p) ∧ W.cell? ⟨w.heap.size, 2, none⟩ = some (.int .i64 h) ∧ W.cell? ⟨w.heap.size, 3, none⟩ = some (.string (S nm)) ∧ W.cell? ⟨w.heap.size, 4, none⟩ = some (.string (S ty)) ∧ W.cell? ⟨w.heap.size, 5, none⟩ = some (.string (S ke)) ∧ W.cell? ⟨w.heap.size, 6, none⟩ = some (.int .i64 n) ∧ W.cell? ⟨pb, 0, none⟩ = some (.string (S P.id)) ∧ W.cell? ⟨pb, 1, none⟩ = some (.slice na P.nodes.length nc) ∧ W.cell? ⟨pb, 2, none⟩ = some (.slice fa P.flows.length fc)) := fun W hW => ⟨(hW.cell (p := ⟨w.heap.size, 0, none⟩) hbs).trans c0, (hW.cell (p := ⟨w.heap.size, 1, none⟩) hbs).trans c1, (hW.cell (p := ⟨w.heap.size, 2, none⟩) hbs).trans c2, (hW.cell (p := ⟨w.heap.size, 3, none⟩) hbs).trans c3, (hW.cell (p := ⟨w.heap.size, 4, none⟩) hbs).trans c4, (hW.cell (p := ⟨w.heap.size, 5, none⟩) hbs).trans c5, (hW.cell (p := ⟨w.heap.size, 6, none⟩) hbs).trans c6, (hW.cell (p := ⟨pb, 0, none⟩) blt).trans b0, (hW.cell (p := ⟨pb, 1, none⟩) blt).trans b1, (hW.cell (p := ⟨pb, 2, none⟩) blt).trans b2⟩
  have B1 : Hid (Below w.heap.size w (w.alloc (.cells #[.int .i64 k, .int .i64 p, .int .i64 h, .string (S nm), .string (S ty), .string (S ke), .int .i64 n] 32))) := hB1
  unfold nA at CN ⊢
  simp only at CN ⊢
  generalize (ins P i).length = L at *
  generalize nwi k = r at *
  have HR : Hid ((((L : Nat) : Int) == 0) = (L == 0)) := by show _ = _; cases L <;> rfl
  clear hb hz bpo hB1
  go_enter Tryz.func79, Tryz.ntmps79
  go_wp2
  generalize w.alloc (.cells #[.int .i64 k, .int .i64 p, .int .i64 h, .string (S nm), .string (S ty), .string (S ke), .int .i64 n] 32) = W1 at *
  go_region_held3 (fun W => W.cell? ⟨w.heap.size, 0, none⟩ = some (.int .i64 k) ∧ W.cell? ⟨w.heap.size, 1, none⟩ = some (.int .i64 p) ∧ W.cell? ⟨w.heap.size, 2, none⟩ = some (.int .i64 h) ∧ W.cell? ⟨w.heap.size, 3, none⟩ = some (.string (S nm)) ∧ W.cell? ⟨w.heap.size, 4, none⟩ = some (.string (S ty)) ∧ W.cell? ⟨w.heap.size, 5, none⟩ = some (.string (S ke)) ∧ W.cell? ⟨w.heap.size, 6, none⟩ = some (.int .i64 n) ∧ W.cell? ⟨pb, 0, none⟩ = some (.string (S P.id)) ∧ W.cell? ⟨pb, 1, none⟩ = some (.slice na P.nodes.length nc) ∧ W.cell? ⟨pb, 2, none⟩ = some (.slice fa P.flows.length fc))
    (first | go_keep | exact HS.out _ (Below.refl _ _) | exact HS.out _ hX | exact HS.out _ hY)
    (first
      | (go_at_call 74; refine (CN _ (by first | exact Below.refl _ _ | exact (Below.refl _ _).drew | exact below_drewN (Below.refl _ _) _)).mono ?_; rintro e u1 ⟨rfl, hX⟩)
      | (go_at_call 80; refine (CI _ (by first | exact hX | exact hX.drew | exact below_drewN hX _ | exact Below.refl _ _)).mono ?_; rintro e u2 ⟨⟨oa, oc, rfl⟩, hY⟩; (have B3 : Hid (Below w.heap.size w u2) := bel_of B1.out hY (Nat.le_refl _))))
  all_goals
    go_wp2
    go_ret
    exact ⟨by first | (rw [← HR.out]; rfl) | (rw [← HR.out]; simp), B3.out⟩
end Go.Proofs.YtlmdoiagjepmbaaGreatDoor.m11

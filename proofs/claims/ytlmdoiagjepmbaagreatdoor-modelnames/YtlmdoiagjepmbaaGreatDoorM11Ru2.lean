/-
  Package model: the rules of nodes, one by one.
-/
import Derived.Test.YtlmdoiagjepmbaaGreatDoorM11Ru1
namespace Go.Proofs.YtlmdoiagjepmbaaGreatDoor.m11
open Go.Proofs.YtlmdoiagjepmbaaGreatDoor.x10
open Go.RowKit Go.Shelf Go.Sort
open Go.Lib hiding intOf

theorem is1 {W : World} {b : Nat} {z : Int} (h : W.cell? ⟨b, 0, none⟩ = some (.int .i64 z)) (hb : b < W.heap.size) : Is W (.slice (some ⟨b, 0, none⟩) 1 1) [z] := ⟨_, _, rfl, .inr ⟨_, _, rfl, hb, fun j hj => by
  have : j = 0 := by simp at hj; omega
  subst this
  exact h⟩⟩

set_option maxHeartbeats 1000000 in
theorem nr3_any {w : World} {pb : Nat} {nv fv : Value} {P : Pc} (hb : Pb w pb nv fv P) {i : Nat} (hi : i < P.nodes.length) : Calls Tryz.prog 62 #[.int .i64 (i : Int), nA P.nodes[i], .pointer (some ⟨pb, 0, none⟩)] w fun e w' => e = .returned (.bool (P.nodes[i].parent == -1 || (isPl i P.nodes[i].parent && [(8 : Int)].contains (P.nd P.nodes[i].parent).kind))) ∧ Below w.heap.size w w' := by
  have HL : Hid (i ≤ P.nodes.length) := Nat.le_of_lt hi
  generalize P.nodes[i] = x at *
  obtain ⟨k, p, h, nm, ty, ke, n⟩ := x
  have hB1 : Below w.heap.size w (w.alloc (.cells #[.int .i64 k, .int .i64 p, .int .i64 h, .string (S nm), .string (S ty), .string (S ke), .int .i64 n] 32)) := (Below.refl _ w).alloc (Nat.le_refl _) _
  obtain ⟨b0, b1, b2, blt, bpo⟩ := hb.up hB1
  have B1 : Hid (Below w.heap.size w (w.alloc (.cells #[.int .i64 k, .int .i64 p, .int .i64 h, .string (S nm), .string (S ty), .string (S ke), .int .i64 n] 32))) := hB1
  obtain ⟨c0, c1, c2, c3, c4, c5, c6⟩ := nc_new w k p h nm ty ke n
  obtain ⟨b', off, cap', hsl, hcap, hbl, hcell⟩ := bpo.ns.at hi
  subst hsl
  have hlt : (P.nodes.take i).length = i := by have := HL.out; simp; omega
  have CP : ∀ W, Calls Tryz.prog 63 #[.slice (some ⟨b', off, none⟩) i cap', .int .i64 p] W fun e w' => e = .returned (.bool (isPl i p)) ∧ w' = W := fun W => by
    have := isPlace_any (w := W) p (bpo.ns.take HL.out)
    rwa [hlt] at this
  have i1 : (0 : Int) ≤ (i : Int) := by omega
  have i2 : (i : Int) ≤ (cap' : Int) := by omega
  have i3 : i ≤ cap' := by omega
  unfold nA
  simp only at c0 c1 c2 c3 c4 c5 c6 ⊢
  clear hB1 hb hlt
  by_cases h1 : p = -1
  · subst h1
    clear CP hcell
    go_enter Tryz.func62, Tryz.ntmps62
    go_wp2
    go_quiet (fail)
    go_wp2
    go_ret
    exact ⟨by simp, below_drewN B1.out _⟩
  have h1' : (p == -1) = false := by simpa using h1
  have HG : Hid ((p == -1) = false) := h1'
  cases hp : isPl i p with
  | false =>
    rw [hp] at CP
    clear hcell h1 hp
    go_enter Tryz.func62, Tryz.ntmps62
    go_wp2
    go_quiet (first | (go_at_call 63; refine Calls.quiet_of_same (CP _)))
    go_wp2
    go_ret
    exact ⟨by rw [HG.out]; simp, below_drewN B1.out _⟩
  | true =>
    rw [hp] at CP
    obtain ⟨m, hm, hmi⟩ := isPl_iff.1 hp
    subst hm
    have hml : m < P.nodes.length := by omega
    have HE : Hid (P.nd (m : Int) = P.nodes[m]) := nd_at P hml
    obtain ⟨d0, d1, d2, d3, d4, d5, d6⟩ := hcell _ (Below.refl _ _) m hml
    have j1 : (0 : Int) ≤ (m : Int) := by omega
    have j2 : (m : Int) < (P.nodes.length : Int) := by omega
    rw [HE.out]
    generalize P.nodes[m] = y at *
    obtain ⟨y0, y1, y2, y3, y4, y5, y6⟩ := y
    simp only at d0 d1 d2 d3 d4 d5 d6 ⊢
    have hbs : w.heap.size < (w.alloc (.cells #[.int .i64 k, .int .i64 (m : Int), .int .i64 h, .string (S nm), .string (S ty), .string (S ke), .int .i64 n] 32)).heap.size := by simp
    have HS : Hid (∀ W, Below (w.alloc (.cells #[.int .i64 k, .int .i64 (m : Int), .int .i64 h, .string (S nm), .string (S ty), .string (S ke), .int .i64 n] 32)).heap.size (w.alloc (.cells #[.int .i64 k, .int .i64 (m : Int), .int .i64 h, .string (S nm), .string (S ty), .string (S ke), .int .i64 n] 32)) W → W.cell? ⟨w.heap.size, 1, none⟩ = some (.int .i64 (m : Int)) ∧ W.cell? ⟨pb, 1, none⟩ = some (.slice (some ⟨b', off, none⟩) P.nodes.length cap') ∧ W.cell? ⟨b', off + m * 7, none⟩ = some (.int .i64 y0) ∧ W.cell? ⟨b', off + m * 7 + 1, none⟩ = some (.int .i64 y1) ∧ W.cell? ⟨b', off + m * 7 + 2, none⟩ = some (.int .i64 y2) ∧ W.cell? ⟨b', off + m * 7 + 3, none⟩ = some (.string (S y3)) ∧ W.cell? ⟨b', off + m * 7 + 4, none⟩ = some (.string (S y4)) ∧ W.cell? ⟨b', off + m * 7 + 5, none⟩ = some (.string (S y5)) ∧ W.cell? ⟨b', off + m * 7 + 6, none⟩ = some (.int .i64 y6)) := fun W hW => ⟨(hW.cell (p := ⟨w.heap.size, 1, none⟩) hbs).trans c1, (hW.cell (p := ⟨pb, 1, none⟩) blt).trans b1, (hW.cell (p := ⟨b', off + m * 7, none⟩) hbl).trans d0, (hW.cell (p := ⟨b', off + m * 7 + 1, none⟩) hbl).trans d1, (hW.cell (p := ⟨b', off + m * 7 + 2, none⟩) hbl).trans d2, (hW.cell (p := ⟨b', off + m * 7 + 3, none⟩) hbl).trans d3, (hW.cell (p := ⟨b', off + m * 7 + 4, none⟩) hbl).trans d4, (hW.cell (p := ⟨b', off + m * 7 + 5, none⟩) hbl).trans d5, (hW.cell (p := ⟨b', off + m * 7 + 6, none⟩) hbl).trans d6⟩
    have CI : ∀ W v, Is W v [(8 : Int)] → Below (w.alloc (.cells #[.int .i64 k, .int .i64 (m : Int), .int .i64 h, .string (S nm), .string (S ty), .string (S ke), .int .i64 n] 32)).heap.size (w.alloc (.cells #[.int .i64 k, .int .i64 (m : Int), .int .i64 h, .string (S nm), .string (S ty), .string (S ke), .int .i64 n] 32)) W → Calls Tryz.prog 35 #[nA ⟨y0, y1, y2, y3, y4, y5, y6⟩, v] W fun e w' => e = .returned (.bool ([(8 : Int)].contains y0)) ∧ Below (w.alloc (.cells #[.int .i64 k, .int .i64 (m : Int), .int .i64 h, .string (S nm), .string (S ty), .string (S ke), .int .i64 n] 32)).heap.size (w.alloc (.cells #[.int .i64 k, .int .i64 (m : Int), .int .i64 h, .string (S nm), .string (S ty), .string (S ke), .int .i64 n] 32)) w' := fun W v hv hW => (isOf_any ⟨y0, y1, y2, y3, y4, y5, y6⟩ hv (by simp)).mono fun e w' hh => ⟨hh.1, bel_of hW hh.2 (Nat.le_refl _)⟩
    unfold nA at CI
    simp only at CI
    generalize [(8 : Int)].contains y0 = r at *
    clear hcell HE hp h1
    go_enter Tryz.func62, Tryz.ntmps62
    go_wp2
    generalize w.alloc (.cells #[.int .i64 k, .int .i64 (m : Int), .int .i64 h, .string (S nm), .string (S ty), .string (S ke), .int .i64 n] 32) = W1 at *
    go_region_held3 (fun W => W.cell? ⟨w.heap.size, 1, none⟩ = some (.int .i64 (m : Int)) ∧ W.cell? ⟨pb, 1, none⟩ = some (.slice (some ⟨b', off, none⟩) P.nodes.length cap') ∧ W.cell? ⟨b', off + m * 7, none⟩ = some (.int .i64 y0) ∧ W.cell? ⟨b', off + m * 7 + 1, none⟩ = some (.int .i64 y1) ∧ W.cell? ⟨b', off + m * 7 + 2, none⟩ = some (.int .i64 y2) ∧ W.cell? ⟨b', off + m * 7 + 3, none⟩ = some (.string (S y3)) ∧ W.cell? ⟨b', off + m * 7 + 4, none⟩ = some (.string (S y4)) ∧ W.cell? ⟨b', off + m * 7 + 5, none⟩ = some (.string (S y5)) ∧ W.cell? ⟨b', off + m * 7 + 6, none⟩ = some (.int .i64 y6))
      (first | go_keep | exact HS.out _ (Below.refl _ _) | exact HS.out _ hX)
      (first
        | (go_at_call 63; refine (CP _).mono ?_; rintro e u1 ⟨rfl, hu1⟩; rw [hu1]; clear hu1)
        | (go_at_call 35; refine (CI _ _ (is1 (by go_simp) (by simp)) (by first | exact (Below.refl _ _).alloc (Nat.le_refl _) _ | exact ((Below.refl _ _).alloc (Nat.le_refl _) _).drew | exact ((Below.refl _ _).drew).alloc (Nat.le_refl _) _ | exact below_drewN ((Below.refl _ _).alloc (Nat.le_refl _) _) _ | exact (below_drewN (Below.refl _ _) _).alloc (Nat.le_refl _) _)).mono ?_; rintro e u1 ⟨rfl, hX⟩; (have B2 : Hid (Below w.heap.size w u1) := bel_of B1.out hX (Nat.le_refl _))))
    all_goals
      go_wp2
      go_ret
      exact ⟨by rw [HG.out]; simp, B2.out⟩
end Go.Proofs.YtlmdoiagjepmbaaGreatDoor.m11

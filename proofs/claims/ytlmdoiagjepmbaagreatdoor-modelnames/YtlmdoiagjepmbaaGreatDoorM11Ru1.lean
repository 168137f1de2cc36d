/-
  Package model: the rules of nodes, one by one.
-/
import Derived.Test.YtlmdoiagjepmbaaGreatDoorM11Ru0
namespace Go.Proofs.YtlmdoiagjepmbaaGreatDoor.m11
open Go.Proofs.YtlmdoiagjepmbaaGreatDoor.x10
open Go.RowKit Go.Shelf Go.Sort
open Go.Lib hiding intOf

theorem nc_new (w : World) (k p h : Int) (nm ty ke : List UInt8) (n : Int) : Nc (w.alloc (.cells #[.int .i64 k, .int .i64 p, .int .i64 h, .string (S nm), .string (S ty), .string (S ke), .int .i64 n] 32)) w.heap.size 0 ⟨k, p, h, nm, ty, ke, n⟩ := ⟨World.cell?_alloc_new _ _ _ _, World.cell?_alloc_new _ _ _ _, World.cell?_alloc_new _ _ _ _, World.cell?_alloc_new _ _ _ _, World.cell?_alloc_new _ _ _ _, World.cell?_alloc_new _ _ _ _, World.cell?_alloc_new _ _ _ _⟩

set_option maxHeartbeats 400000 in
theorem nr1_any (x : Nd) (i : Int) (w : World) : Calls Tryz.prog 59 #[.int .i64 i, nA x] w fun e w' => e = .returned (.bool (decide (1 ≤ x.kind) && decide (x.kind ≤ 10))) ∧ Below w.heap.size w w' := by
  obtain ⟨k, p, h, nm, ty, ke, n⟩ := x
  have B1 : Hid (Below w.heap.size w (w.alloc (.cells #[.int .i64 k, .int .i64 p, .int .i64 h, .string (S nm), .string (S ty), .string (S ke), .int .i64 n] 32))) := (Below.refl _ w).alloc (Nat.le_refl _) _
  unfold nA
  simp only
  by_cases h1 : 1 ≤ k
  · by_cases h2 : k ≤ 10
    · go_enter Tryz.func59, Tryz.ntmps59
      go_wp2
      go_ret
      exact ⟨by simp [h1, h2], B1.out⟩
    · go_enter Tryz.func59, Tryz.ntmps59
      go_wp2
      go_ret
      exact ⟨by simp [h2], B1.out⟩
  · go_enter Tryz.func59, Tryz.ntmps59
    go_wp2
    go_ret
    exact ⟨by simp; omega, B1.out⟩

set_option maxHeartbeats 1000000 in
theorem nr2_any {w : World} {pb : Nat} {nv fv : Value} {P : Pc} (hb : Pb w pb nv fv P) (hz : Pz P) {i : Nat} (hi : i < P.nodes.length) : Calls Tryz.prog 60 #[.int .i64 (i : Int), nA P.nodes[i], .pointer (some ⟨pb, 0, none⟩)] w fun e w' => e = .returned (.bool (namV P.nodes[i].name && !((P.nodes.take i).any fun y => y.name == P.nodes[i].name))) ∧ Below w.heap.size w w' := by
  have hnz := hz.nz _ (List.getElem_mem hi)
  have HN : Hid (∀ W v, Ns W v (P.nodes.take i) → ∀ s, Calls Tryz.prog 61 #[v, .string (S s)] W fun e w' => e = .returned (.bool ((P.nodes.take i).any fun y => y.name == s)) ∧ Below W.heap.size W w') := fun W v h s => isNamed_any s h (by have := hz.nl; simp; omega)
  have HL : Hid (i ≤ P.nodes.length) := Nat.le_of_lt hi
  generalize P.nodes[i] = x at *
  obtain ⟨k, p, h, nm, ty, ke, n⟩ := x
  have CN := fun w => Named_any (S nm) (by rw [S_size]; have := hnz.1; simp only at this; omega) w
  rw [S_data] at CN
  have hB1 : Below w.heap.size w (w.alloc (.cells #[.int .i64 k, .int .i64 p, .int .i64 h, .string (S nm), .string (S ty), .string (S ke), .int .i64 n] 32)) := (Below.refl _ w).alloc (Nat.le_refl _) _
  obtain ⟨b0, b1, b2, blt, bpo⟩ := hb.up hB1
  have B1 : Hid (Below w.heap.size w (w.alloc (.cells #[.int .i64 k, .int .i64 p, .int .i64 h, .string (S nm), .string (S ty), .string (S ke), .int .i64 n] 32))) := hB1
  obtain ⟨c0, c1, c2, c3, c4, c5, c6⟩ := nc_new w k p h nm ty ke n
  obtain ⟨b', off, cap', hsl, hcap, -, -⟩ := bpo.ns.at hi
  subst hsl
  have CI : ∀ W, Below (w.alloc (.cells #[.int .i64 k, .int .i64 p, .int .i64 h, .string (S nm), .string (S ty), .string (S ke), .int .i64 n] 32)).heap.size (w.alloc (.cells #[.int .i64 k, .int .i64 p, .int .i64 h, .string (S nm), .string (S ty), .string (S ke), .int .i64 n] 32)) W → Calls Tryz.prog 61 #[.slice (some ⟨b', off, none⟩) i cap', .string (S nm)] W fun e w' => e = .returned (.bool ((P.nodes.take i).any fun y => y.name == nm)) ∧ Below (w.alloc (.cells #[.int .i64 k, .int .i64 p, .int .i64 h, .string (S nm), .string (S ty), .string (S ke), .int .i64 n] 32)).heap.size (w.alloc (.cells #[.int .i64 k, .int .i64 p, .int .i64 h, .string (S nm), .string (S ty), .string (S ke), .int .i64 n] 32)) w' := fun W hW => (HN.out W _ ((hb.po.ns.take HL.out).up (bel_of hB1 hW (Nat.le_refl _))) nm).mono fun e w' hh => ⟨hh.1, bel_of hW hh.2 (Nat.le_refl _)⟩
  have HS : Hid (∀ W, Below (w.alloc (.cells #[.int .i64 k, .int .i64 p, .int .i64 h, .string (S nm), .string (S ty), .string (S ke), .int .i64 n] 32)).heap.size (w.alloc (.cells #[.int .i64 k, .int .i64 p, .int .i64 h, .string (S nm), .string (S ty), .string (S ke), .int .i64 n] 32)) W → W.cell? ⟨w.heap.size, 3, none⟩ = some (.string (S nm)) ∧ W.cell? ⟨pb, 1, none⟩ = some (.slice (some ⟨b', off, none⟩) P.nodes.length cap')) := fun W hW => ⟨(hW.cell (p := ⟨w.heap.size, 3, none⟩) (by simp)).trans c3, (hW.cell (p := ⟨pb, 1, none⟩) blt).trans b1⟩
  have i1 : (0 : Int) ≤ (i : Int) := by omega
  have i2 : (i : Int) ≤ (cap' : Int) := by omega
  have i3 : i ≤ cap' := by omega
  unfold nA
  simp only at c0 c1 c2 c3 c4 c5 c6 ⊢
  clear HN bpo hB1 hnz hb
  generalize ((P.nodes.take i).any fun y => y.name == nm) = r2 at *
  generalize namV nm = r1 at *
  cases r1 with
  | false =>
    clear CI HS
    go_enter Tryz.func60, Tryz.ntmps60
    go_wp2
    go_quiet (first | (go_at_call 31; refine Calls.quiet_of_same (CN _)))
    go_wp2
    go_ret
    exact ⟨by simp, below_drewN B1.out _⟩
  | true =>
    go_enter Tryz.func60, Tryz.ntmps60
    go_wp2
    generalize w.alloc (.cells #[.int .i64 k, .int .i64 p, .int .i64 h, .string (S nm), .string (S ty), .string (S ke), .int .i64 n] 32) = W1 at *
    go_region_held3 (fun W => W.cell? ⟨w.heap.size, 3, none⟩ = some (.string (S nm)) ∧ W.cell? ⟨pb, 1, none⟩ = some (.slice (some ⟨b', off, none⟩) P.nodes.length cap'))
      (first | go_keep | exact HS.out _ (Below.refl _ _) | exact HS.out _ (Below.refl _ _).drew | exact HS.out _ hX)
      (first
        | (go_at_call 31; refine (CN _).mono ?_; rintro e u1 ⟨rfl, hu1⟩; rw [hu1]; clear hu1)
        | (go_at_call 61; refine (CI _ (by first | exact Below.refl _ _ | exact (Below.refl _ _).drew | exact below_drewN (Below.refl _ _) _)).mono ?_; rintro e u1 ⟨rfl, hX⟩; (have B2 : Hid (Below w.heap.size w u1) := bel_of B1.out hX (Nat.le_refl _))))
    all_goals
      go_wp2
      go_ret
      exact ⟨by simp, B2.out⟩
end Go.Proofs.YtlmdoiagjepmbaaGreatDoor.m11

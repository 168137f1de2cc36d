/-
  A row of truths in memory; the document's Waits.
-/
import Derived.Test.YtlmdoiagjepmbaaGreatDoorGRound
import Derived.Test.YtlmdoiagjepmbaaGreatDoorGLoops
import Derived.Test.YtlmdoiagjepmbaaGreatDoorGTake
namespace Go.Proofs.YtlmdoiagjepmbaaGreatDoor.m11
open Go.Proofs.YtlmdoiagjepmbaaGreatDoor.x10 hiding bel_of
open Go.RowKit Go.Shelf Go.Sort
open Go.Lib hiding intOf

theorem infoB : (Tryz.prog.info? 4).map (fun i => (i.zero, i.size, i.bytes)) = some (some (.bool false), 1, 1) := by kernel_rfl
/-- block b has the truths D -/
def Cb (w : World) (b : Nat) (D : List Bool) : Prop := ∃ a, Bo 4 w b a ∧ ∀ (j : Nat) (h : j < D.length), a[j]? = some (.bool D[j])
theorem Cb.c {w : World} {b : Nat} {D : List Bool} (h : Cb w b D) {j : Nat} {v : Bool} (hj : D[j]? = some v) : w.cell? ⟨b, j, none⟩ = some (.bool v) := by
  obtain ⟨a, h1, h2⟩ := h
  obtain ⟨hl, he⟩ := List.getElem?_eq_some_iff.1 hj
  rw [h1.c, h2 j hl, he]
theorem Cb.f {w : World} {b : Nat} {D : List Bool} (h : Cb w b D) (j : Nat) : w.frozen? ⟨b, j, none⟩ = false := by obtain ⟨a, h1, -⟩ := h; exact h1.f j
theorem Cb.up {w w' : World} {b : Nat} {D : List Bool} (h : Cb w b D) (hb : Below w.heap.size w w') : Cb w' b D := by obtain ⟨a, h1, h2⟩ := h; exact ⟨a, (hb.block b h1.lt).trans h1, h2⟩
theorem Cb.set {w : World} {b : Nat} {D : List Bool} (h : Cb w b D) (m : Nat) (v : Bool) : Cb (w.setCell ⟨b, m, none⟩ (.bool v)) b (D.set m v) := by
  obtain ⟨a, h1, h2⟩ := h
  refine ⟨_, h1.set m _, fun j hj => ?_⟩
  rw [List.length_set] at hj
  have hs : j < a.size := (Array.getElem?_eq_some_iff.1 (h2 j hj)).1
  by_cases e : m = j
  · subst e; simp [hs]
  · rw [Array.getElem?_setIfInBounds_ne e, h2 j hj, List.getElem_set_ne e]
theorem zerosB {n : Nat} (j : Nat) (hj : j < n) : (madeCells (Value.bool false).cells (n * 1))[j]? = some (.bool false) := by
  unfold madeCells
  simp [Value.cells, hj, Nat.mod_one]
theorem Cb.new (w : World) (n : Nat) : Cb (w.alloc (.cells (madeCells (Value.bool false).cells (n * 1)) 4)) w.heap.size (List.replicate n false) := ⟨_, Array.getElem?_push_size, fun j hj => by rw [zerosB j (by simpa using hj)]; simp⟩
theorem mk_bools {i0 : TypeInfo} (hi0 : Tryz.prog.info? 4 = some i0) (hz0 : i0.zero = some (.bool false)) (hz1 : i0.size = 1) (hz2 : i0.bytes = 1) (n : Nat) (hn : n ≤ 4398046511104) (w : World) : (Instr.makeSlice 34 (.int .i64 (n : Int)) (.int .i64 (n : Int))).run Tryz.prog w = .ok (.slice (some ⟨w.heap.size, 0, none⟩) n n) (w.alloc (.cells (madeCells (Value.bool false).cells (n * 1)) 4)) := by
  have := run_make (P := Tryz.prog) w 34 4 i0 _ Tryz.underlying34 hi0 hz0 .i64 .i64 n n (by omega) (Int.le_refl _) (by rw [hz2]; omega) (by omega)
  rw [hz1, Int.toNat_natCast] at this
  exact this
/-- the row of what is done, behind W1 -/
structure Rw (W1 : World) (b : Nat) (wr : World) (D : List Bool) : Prop where
  lo : W1.heap.size ≤ b
  bel : Below W1.heap.size W1 wr
  row : Cb wr b D
theorem Rw.set {W1 : World} {b : Nat} {wr : World} {D : List Bool} (h : Rw W1 b wr D) (m : Nat) : Rw W1 b (wr.setCell ⟨b, m, none⟩ (.bool true)) (D.set m true) := ⟨h.lo, h.bel.setCell h.lo _, h.row.set m true⟩
set_option maxHeartbeats 400000 in
theorem refWaits_any (k : Int) (w : World) : Calls Tryz.prog 8 #[.int .i64 k] w fun e w' => e = .returned (.bool (wai k)) ∧ w' = w := by
  by_cases h3 : k = 3
  · subst h3
    go_enter Tryz.func8, Tryz.ntmps8
    go_wp2
    go_ret
    exact ⟨rfl, rfl⟩
  by_cases h6 : k = 6
  · subst h6
    go_enter Tryz.func8, Tryz.ntmps8
    go_wp2
    go_ret
    exact ⟨rfl, rfl⟩
  by_cases h7 : k = 7
  · subst h7
    go_enter Tryz.func8, Tryz.ntmps8
    go_wp2
    go_ret
    exact ⟨rfl, rfl⟩
  by_cases h8 : k = 8
  · subst h8
    go_enter Tryz.func8, Tryz.ntmps8
    go_wp2
    go_ret
    exact ⟨rfl, rfl⟩
  have HE : Hid (wai k = false) := by show _ = _; unfold wai; simp [h3, h6, h7, h8]
  have k3 : (k == 3) = false := by simpa using h3
  have k6 : (k == 6) = false := by simpa using h6
  have k7 : (k == 7) = false := by simpa using h7
  have k8 : (k == 8) = false := by simpa using h8
  go_enter Tryz.func8, Tryz.ntmps8
  go_wp2
  go_ret
  rw [HE.out]
  exact ⟨rfl, rfl⟩
end Go.Proofs.YtlmdoiagjepmbaaGreatDoor.m11

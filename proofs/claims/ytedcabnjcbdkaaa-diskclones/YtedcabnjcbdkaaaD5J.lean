/-
  The document's Clone: a new disk that has the same.
-/
import Derived.Test.YtedcabnjcbdkaaaD5I
import Derived.Deep.RegionLaw
import Derived.Deep.AppendLies
import Derived.Deep.Upon
namespace Go.Proofs.Ytedcabnjcbdkaaa
open Go.RowKit Go.Shelf Go.Sort
open Go.Lib hiding intOf
variable {w : World} {B db : Nat} {fs : List Fil} {p : Int} {off : Bool} {sv : Value} {st : Ab}

theorem fcells_one : ∀ u ∈ fcells fs, u.oneCell' = true := by
  intro u hu
  unfold fcells at hu
  obtain ⟨f, _, h⟩ := List.mem_flatMap.1 hu
  simp at h
  rcases h with rfl | rfl | rfl <;> rfl
theorem dcl_end {w1 w4 : World} {n gg cap : Nat} (hbel : Below n w w1) (hnew : w1.heap[n]? = some (.cells #[.slice none 0 0, .int .i64 p, .bool off] 37))
    (hown : w4.ownsRow (n + 1) 47 3 (.slice (some ⟨gg, 0, none⟩) (0 + fs.length) cap) (0 + fs.length) ([] ++ fcells fs)) (hgrow : w1.drew.grownBy w4 (Value.slice none 0 0).ownBlock) :
    Dk (w4.setCell ⟨n, 0, none⟩ (.slice (some ⟨gg, 0, none⟩) fs.length cap)) n n fs p off (.slice (some ⟨gg, 0, none⟩) fs.length cap) ∧ Below n w (w4.setCell ⟨n, 0, none⟩ (.slice (some ⟨gg, 0, none⟩) fs.length cap)) := by
  have hn : n < w1.heap.size := (Array.getElem?_eq_some_iff.1 hnew).1
  have C : Ch (fun _ => False) w1.drew w4 := Ch.of_grown hgrow (fun _ e => by cases e)
  have h4 : w4.heap[n]? = some (.cells #[.slice none 0 0, .int .i64 p, .bool off] 37) := (C.5 n hn id).trans hnew
  rw [Nat.zero_add, List.nil_append] at hown
  refine ⟨⟨heap_setCell_same w4 n 0 _ _ _ h4, row_low (((Ch.refl (fun k => k = n) w4).setCell ⟨n, 0, none⟩ _ (fun _ => rfl)).row hown (fun k hk e => ?_)) (Nat.le_succ n)⟩, ((hbel.drew).grown hgrow (by exact Nat.le_of_lt hn) (fun k hk => by cases hk)).setCell (Nat.le_refl _) _⟩
  have := (hown.lt k hk).1
  omega
set_option maxRecDepth 100000 in
set_option maxHeartbeats 8000000 in
theorem dclone_some (h : Dk w db B fs p off sv) (hn : 0 < fs.length) (hf : fs.length ≤ 256) :
    Calls Try.prog 13 #[.pointer (some ⟨db, 0, none⟩)] w fun e w' => ∃ sv', e = .returned (.pointer (some ⟨w.heap.size, 0, none⟩)) ∧ Dk w' w.heap.size w.heap.size fs p off sv' ∧ Below w.heap.size w w' := by
  obtain ⟨i0, hi0, hz0, hz1, hz2⟩ := info_parts infoFile
  have c0 := h.c0
  have c1 := h.c1
  have c2 := h.c2
  obtain ⟨g, c, rfl⟩ := h.slice hn
  have H : Hid (Dk w db B fs p off (.slice (some ⟨g, 0, none⟩) fs.length c)) := h
  clear h
  have hlt := H.out.lt
  go_enter Try.func13, Try.ntmps13
  go_wp2
  go_region
  go_wp2
  have hbel : Below w.heap.size w (w.alloc (.cells #[.slice none 0 0, .int .i64 p, .bool off] 37)).drew := ((Below.refl _ w).alloc (Nat.le_refl _) _).drew
  have H2 : Hid (Dk (w.alloc (.cells #[.slice none 0 0, .int .i64 p, .bool off] 37)).drew db B fs p off (.slice (some ⟨g, 0, none⟩) fs.length c)) := H.out.below hbel
  have hnew : (w.alloc (.cells #[.slice none 0 0, .int .i64 p, .bool off] 37)).drew.heap[w.heap.size]? = some (.cells #[.slice none 0 0, .int .i64 p, .bool off] 37) := heap_alloc_new w _
  have hsz : (w.alloc (.cells #[.slice none 0 0, .int .i64 p, .bool off] 37)).drew.heap.size = w.heap.size + 1 := by
    show (w.alloc _).heap.size = _
    simp
  have d0 := H2.out.c0
  have n0 : (w.alloc (.cells #[.slice none 0 0, .int .i64 p, .bool off] 37)).drew.cell? ⟨w.heap.size, 0, none⟩ = some (.slice none 0 0) := cell_of_row _ _ _ _ _ _ hnew
  generalize (w.alloc (.cells #[.slice none 0 0, .int .i64 p, .bool off] 37)).drew = w1 at *
  have hnews : ∀ (n : Nat) (j : Nat) (u : Value), (fcells fs)[j]? = some u → (w1.drewN n).cell? ((⟨g, 0, none⟩ : Addr).add j) = some u := fun n j u hu => by
    have := row_cell H2.out.row hu
    rw [show (⟨g, 0, none⟩ : Addr).add j = ⟨g, j, none⟩ by rw [Addr.add_lit, Nat.zero_add]]
    exact this
  clear H
  have nf : w1.frozen? ⟨w.heap.size, 0, none⟩ = false := by
    unfold World.frozen?
    rw [hnew]
    rfl
  go_region_law (refine step_append_lies _ (by rfl) _ _ _ (by rfl) (w.heap.size + 1) 47 i0 _ 3 48 Try.underlying35 hi0 hz0 hz1 hz2 rfl (by omega) (.slice none 0 0) 0 [] (by rfl) (World.ownsRow_nil _ _ _ _) ⟨g, 0, none⟩ fs.length c (fcells fs) (by rfl) (fcells_len fs) (hnews 0) fcells_one (by omega) (by unfold maxLen; omega) (by omega) (by simp; omega) w1.heap.size (by simp) ?_; intro gg cap w4 hown1 hgrow hat hlt4; have nf4 := (hgrow.frozen_far ⟨w.heap.size, 0, none⟩ (by simp; omega) (by simp [Value.ownBlock])).trans nf; have nc4 := (hgrow.cell_far ⟨w.heap.size, 0, none⟩ (by simp; omega) (by simp [Value.ownBlock])).trans n0)
  all_goals
    go_wp2
    go_ret
    have := dcl_end (p := p) (off := off) hbel hnew hown1 hgrow
    exact ⟨_, rfl, this.1, this.2⟩
set_option maxRecDepth 100000 in
set_option maxHeartbeats 8000000 in
theorem dclone_none (h : Dk w db B [] p off sv) :
    Calls Try.prog 13 #[.pointer (some ⟨db, 0, none⟩)] w fun e w' => ∃ sv', e = .returned (.pointer (some ⟨w.heap.size, 0, none⟩)) ∧ Dk w' w.heap.size w.heap.size [] p off sv' ∧ Below w.heap.size w w' := by
  obtain ⟨i0, hi0, hz0, hz1, hz2⟩ := info_parts infoFile
  have c0 := h.c0
  have c1 := h.c1
  have c2 := h.c2
  obtain ⟨a, c, rfl⟩ : ∃ a c, sv = .slice a 0 c := by
    rcases h.row.2 with ⟨rfl, _⟩ | ⟨g, cap, cur, rfl, _⟩
    · exact ⟨none, 0, rfl⟩
    · exact ⟨_, _, rfl⟩
  have H : Hid (Dk w db B [] p off (.slice a 0 c)) := h
  clear h
  have hlt := H.out.lt
  go_enter Try.func13, Try.ntmps13
  go_wp2
  go_region
  go_wp2
  have hbel : Below w.heap.size w (w.alloc (.cells #[.slice none 0 0, .int .i64 p, .bool off] 37)).drew := ((Below.refl _ w).alloc (Nat.le_refl _) _).drew
  have hnew : (w.alloc (.cells #[.slice none 0 0, .int .i64 p, .bool off] 37)).drew.heap[w.heap.size]? = some (.cells #[.slice none 0 0, .int .i64 p, .bool off] 37) := heap_alloc_new w _
  have d0 := (H.out.below hbel).c0
  have n0 : (w.alloc (.cells #[.slice none 0 0, .int .i64 p, .bool off] 37)).drew.cell? ⟨w.heap.size, 0, none⟩ = some (.slice none 0 0) := cell_of_row _ _ _ _ _ _ hnew
  generalize (w.alloc (.cells #[.slice none 0 0, .int .i64 p, .bool off] 37)).drew = w1 at *
  have nf : w1.frozen? ⟨w.heap.size, 0, none⟩ = false := by
    unfold World.frozen?
    rw [hnew]
    rfl
  cases a
  all_goals go_region
  all_goals
    go_wp2
    go_ret
    exact ⟨_, rfl, ⟨heap_setCell_same _ _ 0 _ _ _ (by exact hnew), World.ownsRow_nil _ _ _ _⟩, hbel.drew.setCell (Nat.le_refl _) _⟩
/-- the document's Clone: a new disk that has the same -/
theorem dClone (h : Dk w db B fs p off sv) (hf : fs.length ≤ 256) :
    Calls Try.prog 13 #[.pointer (some ⟨db, 0, none⟩)] w fun e w' => ∃ sv', e = .returned (.pointer (some ⟨w.heap.size, 0, none⟩)) ∧ Dk w' w.heap.size w.heap.size fs p off sv' ∧ Below w.heap.size w w' := by
  cases fs with
  | nil => exact dclone_none h
  | cons x r => exact dclone_some h (by simp) hf
end Go.Proofs.Ytedcabnjcbdkaaa

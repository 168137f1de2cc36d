/-
  A log, a box with a slice of strings, and a slice of numbers beside them: what SeglogSure has gathered.
-/
import Derived.Test.YteifkkceldlfnaaGreatDoorG6Beh
import Derived.Test.YteifkkceldlfnaaGreatDoorG6Rds
namespace Go.Proofs.YteifkkceldlfnaaGreatDoor
open Go.RowKit Go.Shelf Go.Sort
open Go.Lib hiding intOf

def endC (ends : List Nat) : List Value := ends.map fun n : Nat => Value.int .i64 (n : Int)
structure Rz (W0 wr : World) (N lb d : Nat) (lg : Lg) (st : Ab) (all : List (List UInt8)) (v ev : Value) (ends : List Nat) : Prop where
  bx : Bx wr N v 35
  row : wr.ownsRow W0.heap.size 9 1 v all.length (strCs all)
  er : wr.ownsRow W0.heap.size 3 1 ev ends.length (endC ends)
  ls : Ls (fun x => W0.heap.size ≤ x ∧ x ≠ N ∧ v.ownBlock ≠ some x ∧ ev.ownBlock ≠ some x) wr W0.heap.size lb d lg st
  bw : Below W0.heap.size W0 wr
  lo : W0.heap.size ≤ N
section
variable {W0 wr w' : World} {N lb d : Nat} {lg lg' : Lg} {st st' : Ab} {all l : List (List UInt8)} {v ev av : Value} {ends : List Nat}
theorem Rz.below (h : Rz W0 wr N lb d lg st all v ev ends) (hb : Below wr.heap.size wr w') : Rz W0 w' N lb d lg st all v ev ends :=
  ⟨h.bx.below hb h.bx.lt, (show Ch (fun _ => False) wr w' from Ch.of_below hb).row h.row (fun _ _ => id), (show Ch (fun _ => False) wr w' from Ch.of_below hb).row h.er (fun _ _ => id), h.ls.below hb, h.bw.trans (hb.mono h.bw.size), h.lo⟩
theorem Rz.lt (h : Rz W0 wr N lb d lg st all v ev ends) {x : Nat} (hx : v.ownBlock = some x ∨ ev.ownBlock = some x) : x < wr.heap.size := by
  rcases hx with hx | hx
  · obtain ⟨_, cur, h1⟩ := row_obj h.row hx
    exact (Array.getElem?_eq_some_iff.1 h1).1
  · obtain ⟨_, cur, h1⟩ := row_obj h.er hx
    exact (Array.getElem?_eq_some_iff.1 h1).1
/-- a call of the log leaves all else -/
theorem Rz.left (h : Rz W0 wr N lb d lg st all v ev ends) (hl : Lft (fun x => W0.heap.size ≤ x ∧ x ≠ N ∧ v.ownBlock ≠ some x ∧ ev.ownBlock ≠ some x) wr W0.heap.size lb d lg' st' w') : Rz W0 w' N lb d lg' st' all v ev ends := by
  obtain ⟨L, c⟩ := hl
  have hz := c.size
  have hN := h.bx.lt
  refine ⟨h.bx.ch c (fun e => e.2.1 rfl), c.row h.row (fun k hk e => e.2.2.1 hk), c.row h.er (fun k hk e => e.2.2.2 hk), L.mono (fun x hx => ?_), h.bw.trans (c.below h.bw.size (fun k hk e => by omega)), h.lo⟩
  rcases hx with hx | hx
  · exact hx
  · exact ⟨by have := h.bw.size; omega, by omega, fun e => by have := h.lt (.inl e); omega, fun e => by have := h.lt (.inr e); omega⟩
theorem Rz.append (h : Rz W0 wr N lb d lg st all v ev ends) (hv : Gv W0.heap.size W0) (hs : Strs W0 av l) (hl : l.length ≤ 9223372036854775807) :
    Calls Tryz.prog 24 #[.pointer (some ⟨lb, 0, none⟩), av] wr (fun e w' => e = .returned (.tuple #[.int .u64 ((gAppend lg st l).1.1 : Int), .int .i64 (gAppend lg st l).1.2]) ∧ Rz W0 w' N lb d (gAppend lg st l).2.1 (gAppend lg st l).2.2 all v ev ends) := by
  have hA := gAppend_any h.ls (hv.below h.bw) (fun x hx => hx.1) (hs.below h.bw (Nat.le_refl _)) (fun h0 b o m c e hx => by
    obtain ⟨a, c', rfl, h1⟩ := hs
    rcases h1 with h1 | ⟨b', o', rfl, hb', _⟩
    · exact absurd h1 h0
    · cases e
      have := hx.1
      omega) hl
  exact hA.mono fun e w' x => ⟨x.1, h.left x.2⟩
theorem Rz.flush (h : Rz W0 wr N lb d lg st all v ev ends) : Calls Tryz.prog 25 #[.pointer (some ⟨lb, 0, none⟩)] wr (fun e w' => e = .returned (.int .i64 (gFlush lg st).1) ∧ Rz W0 w' N lb d (gFlush lg st).2.1 (gFlush lg st).2.2 all v ev ends) :=
  (gFlush_any h.ls).mono fun _ _ x => ⟨x.1, h.left x.2⟩
/-- rows of other things lie apart -/
theorem Rz.apart (h : Rz W0 wr N lb d lg st all v ev ends) {x : Nat} (hx : v.ownBlock = some x) : x ≠ N ∧ ev.ownBlock ≠ some x := by
  refine ⟨fun e => row_box h.row h.bx (by decide) hx e, fun e => ?_⟩
  obtain ⟨_, c1, h1⟩ := row_obj h.row hx
  obtain ⟨_, c2, h2⟩ := row_obj h.er e
  rw [h1] at h2
  injection h2 with h2
  injection h2 with _ h3 _
  exact absurd h3 (by decide)
theorem Rz.apart' (h : Rz W0 wr N lb d lg st all v ev ends) {x : Nat} (hx : ev.ownBlock = some x) : x ≠ N ∧ v.ownBlock ≠ some x :=
  ⟨fun e => row_box h.er h.bx (by decide) hx e, fun e => (h.apart e).2 hx⟩
/-- a batch is gathered -/
theorem Rz.gather (h : Rz W0 wr N lb d lg st all v ev ends) {ad : Addr} {c : Nat} (hc : ∀ j w, (strCs l)[j]? = some w → wr.cell? (ad.add j) = some w) (hb : all.length + l.length ≤ 1099511630000) :
    ∃ a1 c1 w1, (Builtin.append_ #[35, 35] 35 #[v, .slice (some ad) l.length c]).run Tryz.prog wr = .ok (.slice a1 (all.length + l.length) c1) w1 ∧ w1.cell? ⟨N, 0, none⟩ = some v ∧ w1.frozen? ⟨N, 0, none⟩ = false ∧ Rz W0 (w1.setCell ⟨N, 0, none⟩ (.slice a1 (all.length + l.length) c1)) N lb d lg st (all ++ l) (.slice a1 (all.length + l.length) c1) ev ends := by
  obtain ⟨i0, hi0, hz0, hz1, hz2⟩ := info_parts infoStr
  obtain ⟨v1, w1, r1, r2, r3, -, r5⟩ := run_append_own_at (P := Tryz.prog) (w := wr) W0.heap.size 35 35 9 i0 (.string ⟨#[]⟩) 1 16 Tryz.underlying35 hi0 hz0 hz1 hz2 rfl (by decide) v all.length _ h.row ad l.length c (strCs l) (by rw [strCs_length]; simp) hc (by intro x hx; obtain ⟨y, _, rfl⟩ := List.mem_map.1 hx; rfl) (by unfold maxLen; omega) (by omega) h.bw.size
  have c1 : Ch (fun k => v.ownBlock = some k) wr w1 := Ch.of_grown r3 (fun k e _ => e)
  have hN := h.bx.lt
  have b1 := h.bx.ch c1 (fun e => (h.apart e).1 rfl)
  have c2 : Ch (fun k => k = N) w1 (w1.setCell ⟨N, 0, none⟩ v1) := (Ch.refl _ w1).setCell _ _ (fun _ => rfl)
  have c3 : Ch (fun k => k = N ∨ v.ownBlock = some k) wr (w1.setCell ⟨N, 0, none⟩ v1) := (c1.mono (fun k _ h => .inr h)).joinG c2 (fun k _ h => .inl h)
  have hv1 : ∀ x, v1.ownBlock = some x → v.ownBlock = some x ∨ x = wr.heap.size := fun x hx => by
    rcases r5 with e | e
    · exact .inl (e ▸ hx)
    · rw [e] at hx; cases hx; exact .inr rfl
  obtain ⟨a1, k1, rfl, -⟩ := row_slice r2
  refine ⟨a1, k1, w1, r1, b1.cell, b1.fro, ⟨one0 b1 _, ?_, c3.row h.er (fun x hx e => ?_), ?_, h.bw.trans (c3.below h.bw.size (fun k hk e => ?_)), h.lo⟩⟩
  · rw [List.length_append, show strCs (all ++ l) = strCs all ++ strCs l by simp [strCs]]
    exact c2.row r2 (fun x hx e => by
      rcases hv1 x hx with e2 | e2
      · exact (h.apart e2).1 e
      · omega)
  · rcases e with e | e
    · exact (h.apart' hx).1 e
    · exact (h.apart e).2 hx
  · refine (h.ls.tight.ch c3 (fun x hx e => ?_)).mono (fun x hx => ⟨hx.1.1, hx.1.2.1, fun e => ?_, hx.1.2.2.2⟩)
    · rcases e with e | e
      · exact hx.1.2.1 e
      · exact hx.1.2.2.1 e
    · rcases hv1 x e with e2 | e2
      · exact hx.1.2.2.1 e2
      · have := hx.2; omega
  · rcases e with e | e
    · have := h.lo; omega
    · have := (row_obj h.row e).1; omega
/-- a number behind the others -/
theorem Rz.push (h : Rz W0 wr N lb d lg st all v ev ends) {o : Obj} {w5 : World} {ev' : Value} {m : Nat} (hg : (wr.alloc o).grownBy w5 ev.ownBlock) (hr : w5.ownsRow W0.heap.size 3 1 ev' (ends.length + 1) (endC ends ++ [.int .i64 (m : Int)])) (hn : ∀ x, ev'.ownBlock = some x → ev.ownBlock = some x ∨ wr.heap.size ≤ x) : Rz W0 w5 N lb d lg st all v ev' (ends ++ [m]) := by
  have c : Ch (fun k => ev.ownBlock = some k) wr w5 := ((Ch.refl _ wr).alloc o).trans (Ch.of_grown hg (fun k e _ => e))
  have hN := h.bx.lt
  refine ⟨h.bx.ch c (fun e => (h.apart' e).1 rfl), c.row h.row (fun x hx e => (h.apart' e).2 hx), ?_, ?_, h.bw.trans (c.below h.bw.size (fun k hk e => by have := (row_obj h.er e).1; omega)), h.lo⟩
  · rw [List.length_append, List.length_singleton, show endC (ends ++ [m]) = endC ends ++ [.int .i64 (m : Int)] by simp [endC]]
    exact hr
  · refine (h.ls.tight.ch c (fun x hx e => hx.1.2.2.2 e)).mono (fun x hx => ⟨hx.1.1, hx.1.2.1, hx.1.2.2.1, fun e => ?_⟩)
    rcases hn x e with e2 | e2
    · exact hx.1.2.2.2 e2
    · have := hx.2; omega
end
end Go.Proofs.YteifkkceldlfnaaGreatDoor

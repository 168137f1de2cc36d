/-
  Package expr: do parts stand as those of a text do?
-/
import Derived.Test.YtpdengbdnijcfaaGreatDoorGExprH
namespace Go.Proofs.YtpdengbdnijcfaaGreatDoor.x10
open Go.RowKit Go.Shelf Go.Sort
open Go.Lib hiding intOf

/-- the places of the parts that none is of, behind these parts -/
def shpS : List P10 → Nat → List Int → Option (List Int)
  | [], _, f => some f
  | p :: t, i, f =>
    if hnd p.1 < 0 ∨ (f.length : Int) < hnd p.1 ∨ hol p = false then none
    else if isO p (f.drop (f.length - (hnd p.1).toNat)) = false then none
    else shpS t (i + 1) (f.take (f.length - (hnd p.1).toNat) ++ [(i : Int)])
def shpF (r : Option (List Int)) : Bool := match r with
  | some f => decide (f.length = 1)
  | none => false
def shp (l : List P10) : Bool := decide (l.length ≤ 100) && shpF (shpS l 0 [])
theorem infoInt : (Tryz.prog.info? 3).map (fun i => (i.zero, i.size, i.bytes)) = some (some (.int .i64 0), 1, 8) := by kernel_rfl
def iv (f : List Int) : List Value := f.map (fun x => Value.int .i64 x)
/-- a row of numbers is a slice of them, from a place on -/
theorem is_tail {w : World} {B g cap : Nat} {f : List Int} (h : w.ownsRow B 3 1 (.slice (some ⟨g, 0, none⟩) f.length cap) f.length (iv f)) (k c : Nat) {m : Nat} (hm : m = f.length - k) : Is w (.slice (some ⟨g, k, none⟩) m c) (f.drop k) := by
  obtain ⟨h1, h2⟩ := h
  subst hm
  refine ⟨_, c, by rw [List.length_drop], .inr ⟨g, k, rfl, ?_⟩⟩
  rcases h2 with ⟨h3, -⟩ | ⟨g', cap', cur, h3, h4, h5, h6, h7, h8, h9⟩
  · cases h3
  · cases h3
    refine ⟨(Array.getElem?_eq_some_iff.1 h5).1, fun j hj => ?_⟩
    rw [List.length_drop] at hj
    have h10 : (iv f)[k + j]? = some (.int .i64 (f.drop k)[j]) := by simp [iv]
    rw [← h9, List.getElem?_take] at h10
    split at h10
    · rw [Array.getElem?_toList] at h10
      simpa [World.cell?, h5] using h10
    · cases h10
/-- its beginning is a row too -/
theorem row_head {w : World} {B g cap : Nat} {f : List Int} (h : w.ownsRow B 3 1 (.slice (some ⟨g, 0, none⟩) f.length cap) f.length (iv f)) (k : Nat) (hk : k ≤ f.length) : w.ownsRow B 3 1 (.slice (some ⟨g, 0, none⟩) k cap) k (iv (f.take k)) := by
  obtain ⟨h1, h2⟩ := h
  rcases h2 with ⟨h3, -⟩ | ⟨g', cap', cur, h3, h4, h5, h6, h7, h8, h9⟩
  · cases h3
  · cases h3
    refine ⟨by simp [iv]; omega, .inr ⟨g, cap, cur, rfl, h4, h5, by omega, h7, h8, ?_⟩⟩
    have : (iv f).take k = iv (f.take k) := by simp [iv, List.map_take]
    rw [← this, ← h9, List.take_take]
    congr 1
    omega
theorem shpS_cons (p : P10) (t : List P10) (i : Nat) (f : List Int) : shpS (p :: t) i f = if hnd p.1 < 0 ∨ (f.length : Int) < hnd p.1 ∨ hol p = false then none else if isO p (f.drop (f.length - (hnd p.1).toNat)) = false then none else shpS t (i + 1) (f.take (f.length - (hnd p.1).toNat) ++ [(i : Int)]) := rfl
theorem shd_below {w w2 w5 : World} {rv : Value} {k : Nat} {xs : List Value} {o : Obj} (hb : Below w.heap.size w w2) (hr : w2.ownsRow w.heap.size 3 1 rv k xs) (hg : (w2.alloc o).grownBy w5 rv.ownBlock) : Below w.heap.size w w5 :=
  (hb.alloc hb.size _).grown hg (by have := hb.size; simp; omega) (fun k hk => (hr.lt k hk).1)
theorem is_nil (w : World) : Is w (.slice none 0 0) [] := ⟨none, 0, rfl, .inl rfl⟩
theorem iv_snoc (f : List Int) (x : Int) : iv f ++ [.int .i64 x] = iv (f ++ [x]) := by simp [iv]
theorem hnd_le (o : Int) : -1 ≤ hnd o ∧ hnd o ≤ 2 := by
  unfold hnd
  split
  · omega
  · split
    · omega
    · split <;> omega
end Go.Proofs.YtpdengbdnijcfaaGreatDoor.x10

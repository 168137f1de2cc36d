/-
  What stands in From's loop over the segments.
-/
import Derived.Test.YteifkkceldlfnaaGreatDoorG6FromP
namespace Go.Proofs.YteifkkceldlfnaaGreatDoor
open Go.RowKit Go.Shelf Go.Sort
open Go.Lib hiding intOf

abbrev mkD (D : Nat) : Deferred := { target := .collected D, args := #[] }
/-- what is kept from segment to segment: R: the blocks that the range has made; ds: the marks of its ranges -/
structure Fsg (J : (Nat → Prop) → List (Nat × List UInt8) → World → Prop) (W1 : World) (y : Value) (eb nx : Nat) (X R : Nat → Prop) (pre : List (Nat × List UInt8)) (ds : List Nat) (W : World) : Prop where
  j : J R pre W
  ry : R W1.heap.size
  re : R eb
  y : Bx W W1.heap.size y 124
  e : Bx W eb (.int .u64 (nx : Int)) 36
  kq : Kq X W1 W
  nd : ds.Nodup
  mks : ∀ D ∈ ds, W1.heap.size ≤ D ∧ D < W.heap.size ∧ W.heap[D]? = some (.deferred (some []))
variable {J Jx : (Nat → Prop) → List (Nat × List UInt8) → World → Prop} {W1 W W' : World} {y : Value} {eb nx n s : Nat} {X R R' : Nat → Prop} {pre l : List (Nat × List UInt8)} {ds : List Nat} {x : Nat × List UInt8}
theorem Fsg.st (h : Fsg J W1 y eb nx X R pre ds W) (hC : ConsR (fun x => #[encE1 x, encE2 x]) y l X W1 J Jx) (hX : ∀ k, X k → k < W1.heap.size) (hs : Sb n s W W') (hR : ∀ k, n ≤ k → k < s → R k) (hn : W1.heap.size < n) (he : eb < n) (hD : ∀ D ∈ ds, D < n)
    (h1 : ∀ k, R' k → R k ∨ (W.heap.size ≤ k ∧ k < W'.heap.size)) (h2 : R' W1.heap.size) (h3 : R' eb) : Fsg J W1 y eb nx X R' pre ds W' where
  j := hC.st R R' pre W W' h.j (Sr.of_sb hs (by omega) hR) h1
  ry := h2
  re := h3
  y := hs.bx h.y (.inl hn)
  e := hs.bx h.e (.inl he)
  kq := h.kq.trans (Kq.of_ch hs (fun k hk hx => by have := hX k hk; omega))
  nd := h.nd
  mks D hd := by
    obtain ⟨a, b, c⟩ := h.mks D hd
    exact ⟨a, Nat.lt_of_lt_of_le b hs.size, Ch.obj hs c (fun hx => by have := hD D hd; omega)⟩
/-- behind a call of yield -/
theorem Fsg.go (h : Fsg J W1 y eb nx X R pre ds W) (hk : KeepsFrom W1.heap.size W W') (hq : Kq (fun k => X k ∨ R k) W W') (hj : J R (pre ++ [x]) W') : Fsg J W1 y eb nx X R (pre ++ [x]) ds W' where
  j := hj
  ry := h.ry
  re := h.re
  y := kq_bx hq (.inr h.ry) h.y
  e := kq_bx hq (.inr h.re) h.e
  kq := h.kq.trans (hq.sub (fun k hk => .inl hk))
  nd := h.nd
  mks D hd := by
    obtain ⟨a, b, c⟩ := h.mks D hd
    exact ⟨a, Nat.lt_of_lt_of_le b hq.1, hk.same D _ a c rfl⟩
/-- left by a call of yield -/
structure Fsx (Jx : (Nat → Prop) → List (Nat × List UInt8) → World → Prop) (W1 : World) (ds : List Nat) (W : World) : Prop where
  j : ∃ R pre, Jx R pre W
  nd : ds.Nodup
  mks : ∀ D ∈ ds, W1.heap.size ≤ D ∧ D < W.heap.size ∧ W.heap[D]? = some (.deferred (some []))
theorem Fsg.left (h : Fsg J W1 y eb nx X R pre ds W) (hk : KeepsFrom W1.heap.size W W') (hq : Kq (fun k => X k ∨ R k) W W') (hj : Jx R (pre ++ [x]) W') : Fsx Jx W1 ds W' where
  j := ⟨_, _, hj⟩
  nd := h.nd
  mks D hd := by
    obtain ⟨a, b, c⟩ := h.mks D hd
    exact ⟨a, Nat.lt_of_lt_of_le b hq.1, hk.same D _ a c rfl⟩
theorem Fsg.mark (h : Fsg J W1 y eb nx X R pre ds W) {D : Nat} (h1 : W1.heap.size ≤ D) (h2 : ∀ D' ∈ ds, D' < D) (h3 : W.heap[D]? = some (.deferred (some []))) : Fsg J W1 y eb nx X R pre (D :: ds) W :=
  ⟨h.j, h.ry, h.re, h.y, h.e, h.kq, List.nodup_cons.2 ⟨fun hd => by have := h2 D hd; omega, h.nd⟩, fun D' hd => by
    rcases List.mem_cons.1 hd with rfl | hd
    · exact ⟨h1, (Array.getElem?_eq_some_iff.1 h3).1, h3⟩
    · exact h.mks D' hd⟩
/-- what is still to be told -/
def restE (vs : List Sv) (pos i : Nat) : List (Nat × List UInt8) := ((vs.drop i).map fun v => segE v.sg pos).flatten
theorem restE_step {vs : List Sv} {pos i : Nat} (h : i < vs.length) : restE vs pos i = segE vs[i].sg pos ++ restE vs pos (i + 1) := by
  unfold restE
  rw [List.drop_eq_getElem_cons h, List.map_cons, List.flatten_cons]
theorem restE_all {vs : List Sv} {pos : Nat} {lg : Lg} (ok : Ok lg) (hs : vs.map Sv.sg = lg.segs) : restE vs pos (idx lg.segs pos) = gFrom lg pos := by
  rw [gFrom_segs ok, ← hs]
  unfold restE
  rw [← List.map_drop, List.map_map]
  rfl
end Go.Proofs.YteifkkceldlfnaaGreatDoor

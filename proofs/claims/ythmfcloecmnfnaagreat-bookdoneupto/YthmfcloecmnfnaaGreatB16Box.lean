/-
  Cells in a block of their own, of whatever type; a work: its state, and the events so far.
-/
import Derived.Test.YthmfcloecmnfnaaGreatF13Ef0
import Derived.Laws.ResultCell
namespace Go.Proofs.YthmfcloecmnfnaaGreat.f13
open Go.RowKit Go.Shelf Go.Sort
open Go.Lib hiding intOf

def ob (t : TypeId) (k g : Nat) (cs : List Value) : Rw := ⟨t, k, .slice (some ⟨g, 0, none⟩) 1 1, 1, cs⟩
theorem ob.cell {B : Nat} {w : World} {t : TypeId} {k g : Nat} {cs : List Value} {L : List Rw} (h : Own B w L) (hm : ob t k g cs ∈ L) {j : Nat} {u : Value} (hj : cs[j]? = some u) : w.cell? ⟨g, j, none⟩ = some u := row_cell (h.own _ hm) hj
theorem ob.fro {B : Nat} {w : World} {t : TypeId} {k g : Nat} {cs : List Value} {L : List Rw} (h : Own B w L) (hm : ob t k g cs ∈ L) (j : Nat) : w.frozen? ⟨g, j, none⟩ = false := row_fro (h.own _ hm) j
theorem ob.lt {B : Nat} {w : World} {t : TypeId} {k g : Nat} {cs : List Value} {L : List Rw} (h : Own B w L) (hm : ob t k g cs ∈ L) : B ≤ g ∧ g < w.heap.size := (h.own _ hm).lt g rfl
theorem ob.ok {B : Nat} {w : World} {t : TypeId} {k g : Nat} {cs : List Value} (hB : B ≤ g) (ho : w.heap[g]? = some (.cells cs.toArray t (0, 0))) (hl : cs.length = k) : (ob t k g cs).ok B w := by
  refine ⟨by show cs.length = 1 * k; omega, .inr ⟨g, 1, cs.toArray, rfl, hB, ho, Nat.le_refl _, by unfold maxLen; omega, ?_, ?_⟩⟩
  · show cs.toArray.size = 1 * k
    rw [List.size_toArray]; omega
  · show cs.toArray.toList.take (1 * k) = cs
    rw [List.take_of_length_le (by simp; omega)]
theorem ob.obj {B : Nat} {w : World} {t : TypeId} {k g : Nat} {cs : List Value} {L : List Rw} (h : Own B w L) (hm : ob t k g cs ∈ L) : w.heap[g]? = some (.cells cs.toArray t (0, 0)) := by
  obtain ⟨h1, h2⟩ := h.own _ hm
  rcases h2 with ⟨e, -⟩ | ⟨b, cap, cur, e, hb, hg, hnc, hcm, hcs, htake⟩
  · cases e
  · simp only [ob, Value.slice.injEq, Option.some.injEq, Addr.mk.injEq] at e
    obtain ⟨⟨rfl, -⟩, -, rfl⟩ := e
    rw [hg]
    simp only [ob] at htake hcs
    rw [List.take_of_length_le (by simp [hcs])] at htake
    rw [← htake]
    simp [ob]
/-- its cells become others -/
theorem ob.turn {B : Nat} {w w' : World} {t : TypeId} {k g : Nat} {cs ds : List Value} {L : List Rw} (h : Own B w (ob t k g cs :: L)) (hc : Ch (fun b => b = g) w w') (ho : w'.heap[g]? = some (.cells ds.toArray t (0, 0))) (hl : ds.length = k) : Own B w' (ob t k g ds :: L) :=
  h.turn (r' := ob t k g ds) (hc.mono (fun b _ e => by rw [e]; rfl)) (ob.ok (h.own _ (List.mem_cons_self ..) |>.lt g rfl).1 ho hl) (fun _ hg => .inl hg)
theorem ob.new {B : Nat} {w : World} {L : List Rw} (t : TypeId) (h : Own B w L) (hB : B ≤ w.heap.size) (cs : List Value) {k : Nat} (hl : cs.length = k) : Own B (w.alloc (.cells cs.toArray t)) (ob t k w.heap.size cs :: L) :=
  h.add (r := ob t k w.heap.size cs) ((Below.refl _ w).alloc (Nat.le_refl _) _) (ob.ok (Nat.le_refl _) (heap_alloc_new w _) hl) hB
theorem Rc.k (x : Rc) : x.cs.length = 13 := rfl
theorem Rc.one {l : List Rc} (h0 : ∀ x ∈ l, x.vv.oneCell' = true) : ∀ u ∈ l.flatMap Rc.cs, u.oneCell' = true := by
  intro u hu
  obtain ⟨x, hx0, hx⟩ := List.mem_flatMap.1 hu
  simp only [Rc.cs, List.mem_cons, List.not_mem_nil, or_false] at hx
  rcases hx with rfl | rfl | rfl | rfl | rfl | rfl | rfl | rfl | rfl | rfl | rfl | rfl | rfl <;> first | rfl | exact h0 _ hx0
theorem infoRc : (Tryz.prog.info? 63).map (fun i => (i.zero, i.size, i.bytes)) = some (some (.agg #[.int .i64 0, .int .i64 0, .int .u64 0, .int .i64 0, .int .u64 0, .int .u64 0, .int .u64 0, .int .i64 0, .int .i64 0, .string ⟨#[]⟩, .string ⟨#[]⟩, .string ⟨#[]⟩, .slice none 0 0]), 13, 144) := by kernel_rfl
def Rc.rw (v : Value) (l : List Rc) : Rw := ⟨63, 13, v, l.length, l.flatMap Rc.cs⟩
def Rc.r (x : Rc) : Rw := ⟨101, 4, x.vv, x.v.length, x.v.flatMap Vr.c⟩
def Rc.e (x : Rc) : Rc := { x with vv := .slice none 0 0 }
/-- a work -/
structure Wo where
  s : St
  pt : Int
  ps : Nat
  nw : Int
  ev : Value
  el : List Rc
def Wo.c (k : Wo) : List Value := k.s.c ++ [.int .i64 k.pt, .int .u64 (k.ps : Int), .int .i64 k.nw, k.ev]
def Wo.rows (k : Wo) : List Rw := Rc.rw k.ev k.el :: (k.s.rows ++ k.el.map Rc.r)
/-- b is one of its blocks -/
def Wo.has (k : Wo) (g b : Nat) : Prop := ∃ r ∈ ob 80 16 g k.c :: k.rows, r.v.ownBlock = some b
/-- the work in block g, all of it from block B on -/
def Wk (B : Nat) (w : World) (g : Nat) (k : Wo) : Prop := Own B w (ob 80 16 g k.c :: k.rows)
theorem Wk.up {B : Nat} {w w' : World} {g : Nat} {k : Wo} (h : Wk B w g k) (hb : Below w.heap.size w w') : Wk B w' g k := Own.up h hb
theorem Wk.lt {B : Nat} {w : World} {g : Nat} {k : Wo} (h : Wk B w g k) : B ≤ g ∧ g < w.heap.size := ob.lt h (List.mem_cons_self ..)
theorem Wk.cell {B : Nat} {w : World} {g : Nat} {k : Wo} (h : Wk B w g k) {j : Nat} {u : Value} (hj : k.c[j]? = some u) : w.cell? ⟨g, j, none⟩ = some u := ob.cell h (List.mem_cons_self ..) hj
theorem Wk.fro {B : Nat} {w : World} {g : Nat} {k : Wo} (h : Wk B w g k) (j : Nat) : w.frozen? ⟨g, j, none⟩ = false := ob.fro h (List.mem_cons_self ..) j
theorem Wk.st {B : Nat} {w : World} {g : Nat} {k : Wo} (h : Wk B w g k) : Own B w k.s.rows := Own.sub h ((List.sublist_append_left _ _).trans ((List.sublist_cons_self _ _).trans (List.sublist_cons_self _ _)))
theorem Wk.sv {B : Nat} {w : World} {g : Nat} {k : Wo} (h : Wk B w g k) : Sv w k.s := Own.sv h.st
theorem Wk.ev {B : Nat} {w : World} {g : Nat} {k : Wo} (h : Wk B w g k) : w.ownsRow B 63 13 k.ev k.el.length (k.el.flatMap Rc.cs) := Own.own h (Rc.rw k.ev k.el) (List.mem_cons_of_mem _ (List.mem_cons_self ..))
theorem set12_obj0 {W : World} {g : Nat} {t : TypeId} {z0 z1 z2 z3 z4 z5 z6 z7 z8 z9 z10 z11 : Value} (c0 c1 c2 c3 c4 c5 c6 c7 c8 c9 c10 c11 : Value) (h : W.heap[g]? = some (.cells #[z0, z1, z2, z3, z4, z5, z6, z7, z8, z9, z10, z11] t (0, 0))) : (set12 W g c0 c1 c2 c3 c4 c5 c6 c7 c8 c9 c10 c11).heap[g]? = some (.cells #[c0, c1, c2, c3, c4, c5, c6, c7, c8, c9, c10, c11] t (0, 0)) := by
  obtain ⟨cur, h1, -, h3⟩ := setCells_same g t [c0, c1, c2, c3, c4, c5, c6, c7, c8, c9, c10, c11] 0 W _ h (by simp)
  have e : cur = #[c0, c1, c2, c3, c4, c5, c6, c7, c8, c9, c10, c11] := Array.toList_inj.1 (by rw [h3]; simp)
  rw [e] at h1
  exact h1
theorem set12_obj16 {W : World} {g : Nat} {t : TypeId} {z0 z1 z2 z3 z4 z5 z6 z7 z8 z9 z10 z11 z12 z13 z14 z15 : Value} (c0 c1 c2 c3 c4 c5 c6 c7 c8 c9 c10 c11 : Value) (h : W.heap[g]? = some (.cells #[z0, z1, z2, z3, z4, z5, z6, z7, z8, z9, z10, z11, z12, z13, z14, z15] t (0, 0))) : (set12 W g c0 c1 c2 c3 c4 c5 c6 c7 c8 c9 c10 c11).heap[g]? = some (.cells #[c0, c1, c2, c3, c4, c5, c6, c7, c8, c9, c10, c11, z12, z13, z14, z15] t (0, 0)) := by
  obtain ⟨cur, h1, -, h3⟩ := setCells_same g t [c0, c1, c2, c3, c4, c5, c6, c7, c8, c9, c10, c11] 0 W _ h (by simp)
  have e : cur = #[c0, c1, c2, c3, c4, c5, c6, c7, c8, c9, c10, c11, z12, z13, z14, z15] := Array.toList_inj.1 (by rw [h3]; simp)
  rw [e] at h1
  exact h1
theorem Own.of12' {B : Nat} {w : World} {L : List Rw} {g : Nat} (c0 c1 c2 c3 c4 c5 c6 c7 c8 c9 c10 c11 : Value) (h : Own B w L) (hg : g < B) : Own B (set12 w g c0 c1 c2 c3 c4 c5 c6 c7 c8 c9 c10 c11) L :=
  ⟨fun r hr => (h.own r hr).ch (set12_ch w g c0 c1 c2 c3 c4 c5 c6 c7 c8 c9 c10 c11) (fun b hb e => by have := ((h.own r hr).lt b hb).1; omega), h.apart⟩
theorem Wk.has_lt {B : Nat} {w : World} {g : Nat} {k : Wo} (h : Wk B w g k) {b : Nat} (hb : k.has g b) : B ≤ b ∧ b < w.heap.size := by
  obtain ⟨r, hr, e⟩ := hb
  exact (Own.own h r hr).lt b e
theorem Wk.ch {B : Nat} {w w' : World} {g : Nat} {k : Wo} {X : Nat → Prop} (h : Wk B w g k) (hc : Ch X w w') (hX : ∀ b, k.has g b → ¬ X b) : Wk B w' g k := ⟨fun r hr => (Own.own h r hr).ch hc (fun b hb => hX b ⟨r, hr, hb⟩), h.apart⟩
theorem Wk.base {B B' : Nat} {w : World} {g : Nat} {k : Wo} (h : Wk B w g k) (hB : B' ≤ B) : Wk B' w g k := Own.base h hB
end Go.Proofs.YthmfcloecmnfnaaGreat.f13

/-
  Processes in memory.
-/
import Derived.Test.YtlmdoiagjepmbaaGreatDoorM11Pure
import Derived.Test.YtlmdoiagjepmbaaGreatDoorV9Nam
namespace Go.Proofs.YtlmdoiagjepmbaaGreatDoor.m11
open Go.Proofs.YtlmdoiagjepmbaaGreatDoor.x10
open Go.RowKit Go.Shelf Go.Sort
open Go.Lib hiding intOf

/-- a node as a value -/
def nA (x : Nd) : Value := .agg #[.int .i64 x.kind, .int .i64 x.parent, .int .i64 x.host, .string (S x.name), .string (S x.typ), .string (S x.key), .int .i64 x.n]
def fA (x : Fl) : Value := .agg #[.int .i64 x.src, .int .i64 x.dst, .string (S x.cond)]
/-- a node's cells -/
structure Nc (w : World) (b o : Nat) (x : Nd) : Prop where
  c0 : w.cell? ⟨b, o, none⟩ = some (.int .i64 x.kind)
  c1 : w.cell? ⟨b, o + 1, none⟩ = some (.int .i64 x.parent)
  c2 : w.cell? ⟨b, o + 2, none⟩ = some (.int .i64 x.host)
  c3 : w.cell? ⟨b, o + 3, none⟩ = some (.string (S x.name))
  c4 : w.cell? ⟨b, o + 4, none⟩ = some (.string (S x.typ))
  c5 : w.cell? ⟨b, o + 5, none⟩ = some (.string (S x.key))
  c6 : w.cell? ⟨b, o + 6, none⟩ = some (.int .i64 x.n)
structure Fc (w : World) (b o : Nat) (x : Fl) : Prop where
  c0 : w.cell? ⟨b, o, none⟩ = some (.int .i64 x.src)
  c1 : w.cell? ⟨b, o + 1, none⟩ = some (.int .i64 x.dst)
  c2 : w.cell? ⟨b, o + 2, none⟩ = some (.string (S x.cond))
theorem Nc.below {w w' : World} {b o B : Nat} {x : Nd} (h : Nc w b o x) (hb : Below B w w') (hB : b < B) : Nc w' b o x :=
  ⟨(hb.cell (p := ⟨b, o, none⟩) hB).trans h.c0, (hb.cell (p := ⟨b, o + 1, none⟩) hB).trans h.c1, (hb.cell (p := ⟨b, o + 2, none⟩) hB).trans h.c2, (hb.cell (p := ⟨b, o + 3, none⟩) hB).trans h.c3, (hb.cell (p := ⟨b, o + 4, none⟩) hB).trans h.c4, (hb.cell (p := ⟨b, o + 5, none⟩) hB).trans h.c5, (hb.cell (p := ⟨b, o + 6, none⟩) hB).trans h.c6⟩
theorem Fc.below {w w' : World} {b o B : Nat} {x : Fl} (h : Fc w b o x) (hb : Below B w w') (hB : b < B) : Fc w' b o x :=
  ⟨(hb.cell (p := ⟨b, o, none⟩) hB).trans h.c0, (hb.cell (p := ⟨b, o + 1, none⟩) hB).trans h.c1, (hb.cell (p := ⟨b, o + 2, none⟩) hB).trans h.c2⟩
/-- v is a slice of these nodes -/
def Ns (w : World) (v : Value) (l : List Nd) : Prop :=
  ∃ a cap, v = .slice a l.length cap ∧ (l.length ≤ cap ∧ (a = none → cap = 0)) ∧ (l = [] ∨ ∃ b off, a = some ⟨b, off, none⟩ ∧ b < w.heap.size ∧ ∀ (j : Nat) (h : j < l.length), Nc w b (off + j * 7) l[j])
def Fs (w : World) (v : Value) (l : List Fl) : Prop :=
  ∃ a cap, v = .slice a l.length cap ∧ (l.length ≤ cap ∧ (a = none → cap = 0)) ∧ (l = [] ∨ ∃ b off, a = some ⟨b, off, none⟩ ∧ b < w.heap.size ∧ ∀ (j : Nat) (h : j < l.length), Fc w b (off + j * 3) l[j])
theorem Ns.below {w w' : World} {v : Value} {l : List Nd} (h : Ns w v l) {B : Nat} (hb : Below B w w') (hB : w.heap.size ≤ B) : Ns w' v l := by
  obtain ⟨a, cap, rfl, hc, h⟩ := h
  refine ⟨a, cap, rfl, hc, h.imp id ?_⟩
  rintro ⟨b, off, rfl, hlt, hc⟩
  exact ⟨b, off, rfl, Nat.lt_of_lt_of_le hlt hb.size, fun j hj => (hc j hj).below hb (by omega)⟩
theorem Fs.below {w w' : World} {v : Value} {l : List Fl} (h : Fs w v l) {B : Nat} (hb : Below B w w') (hB : w.heap.size ≤ B) : Fs w' v l := by
  obtain ⟨a, cap, rfl, hc, h⟩ := h
  refine ⟨a, cap, rfl, hc, h.imp id ?_⟩
  rintro ⟨b, off, rfl, hlt, hc⟩
  exact ⟨b, off, rfl, Nat.lt_of_lt_of_le hlt hb.size, fun j hj => (hc j hj).below hb (by omega)⟩
theorem Ns.up {w w' : World} {v : Value} {l : List Nd} (h : Ns w v l) (hb : Below w.heap.size w w') : Ns w' v l := h.below hb (Nat.le_refl _)
theorem Fs.up {w w' : World} {v : Value} {l : List Fl} (h : Fs w v l) (hb : Below w.heap.size w w') : Fs w' v l := h.below hb (Nat.le_refl _)
theorem Ns.nil (w : World) : Ns w (.slice none 0 0) [] := ⟨none, 0, rfl, ⟨Nat.le_refl _, fun _ => rfl⟩, .inl rfl⟩
theorem Fs.nil (w : World) : Fs w (.slice none 0 0) [] := ⟨none, 0, rfl, ⟨Nat.le_refl _, fun _ => rfl⟩, .inl rfl⟩
/-- the cells of one -/
theorem Ns.at {w : World} {v : Value} {l : List Nd} (h : Ns w v l) {i : Nat} (hi : i < l.length) : ∃ b off cap, v = .slice (some ⟨b, off, none⟩) l.length cap ∧ l.length ≤ cap ∧ b < w.heap.size ∧ ∀ w', Below w.heap.size w w' → ∀ (j : Nat) (h : j < l.length), Nc w' b (off + j * 7) l[j] := by
  obtain ⟨a, cap, rfl, hcap, h⟩ := h
  rcases h with rfl | ⟨b, off, rfl, hlt, hc⟩
  · cases hi
  · exact ⟨b, off, cap, rfl, hcap.1, hlt, fun w' hb j hj => (hc j hj).below hb hlt⟩
theorem Fs.at {w : World} {v : Value} {l : List Fl} (h : Fs w v l) {i : Nat} (hi : i < l.length) : ∃ b off cap, v = .slice (some ⟨b, off, none⟩) l.length cap ∧ l.length ≤ cap ∧ b < w.heap.size ∧ ∀ w', Below w.heap.size w w' → ∀ (j : Nat) (h : j < l.length), Fc w' b (off + j * 3) l[j] := by
  obtain ⟨a, cap, rfl, hcap, h⟩ := h
  rcases h with rfl | ⟨b, off, rfl, hlt, hc⟩
  · cases hi
  · exact ⟨b, off, cap, rfl, hcap.1, hlt, fun w' hb j hj => (hc j hj).below hb hlt⟩
/-- the first ones of a slice -/
theorem Ns.take {w : World} {b off cap n : Nat} {l : List Nd} (h : Ns w (.slice (some ⟨b, off, none⟩) n cap) l) {i : Nat} (hi : i ≤ l.length) : Ns w (.slice (some ⟨b, off, none⟩) i cap) (l.take i) := by
  obtain ⟨a, c, hv, hcap, h⟩ := h
  cases hv
  have hl : (l.take i).length = i := by simp; omega
  refine ⟨_, _, by rw [hl], ⟨by rw [hl]; omega, fun e => by cases e⟩, ?_⟩
  rcases h with rfl | ⟨b', off', e, hlt, hc⟩
  · left; simp
  · cases e
    right
    refine ⟨_, _, rfl, hlt, fun j hj => ?_⟩
    rw [hl] at hj
    have := hc j (by omega)
    rwa [List.getElem_take]
theorem Fs.take {w : World} {b off cap n : Nat} {l : List Fl} (h : Fs w (.slice (some ⟨b, off, none⟩) n cap) l) {i : Nat} (hi : i ≤ l.length) : Fs w (.slice (some ⟨b, off, none⟩) i cap) (l.take i) := by
  obtain ⟨a, c, hv, hcap, h⟩ := h
  cases hv
  have hl : (l.take i).length = i := by simp; omega
  refine ⟨_, _, by rw [hl], ⟨by rw [hl]; omega, fun e => by cases e⟩, ?_⟩
  rcases h with rfl | ⟨b', off', e, hlt, hc⟩
  · left; simp
  · cases e
    right
    refine ⟨_, _, rfl, hlt, fun j hj => ?_⟩
    rw [hl] at hj
    have := hc j (by omega)
    rwa [List.getElem_take]
/-- texts that lie in memory -/
def Nz (x : Nd) : Prop := x.name.length ≤ 140737488355328 ∧ x.typ.length ≤ 140737488355328 ∧ x.key.length ≤ 140737488355328 ∧ (-9223372036854775808 ≤ x.kind ∧ x.kind ≤ 9223372036854775807) ∧ (-9223372036854775808 ≤ x.parent ∧ x.parent ≤ 9223372036854775807) ∧ (-9223372036854775808 ≤ x.host ∧ x.host ≤ 9223372036854775807) ∧ (-9223372036854775808 ≤ x.n ∧ x.n ≤ 9223372036854775807)
def Fz (x : Fl) : Prop := x.cond.length ≤ 140737488355328 ∧ (-9223372036854775808 ≤ x.src ∧ x.src ≤ 9223372036854775807) ∧ (-9223372036854775808 ≤ x.dst ∧ x.dst ≤ 9223372036854775807)
/-- sizes of a process -/
structure Pz (P : Pc) : Prop where
  id : P.id.length ≤ 140737488355328
  nl : P.nodes.length ≤ 4398046511104
  fl : P.flows.length ≤ 4398046511104
  nz : ∀ x ∈ P.nodes, Nz x
  fz : ∀ x ∈ P.flows, Fz x
/-- a process as a value -/
def pV (id : List UInt8) (nv fv : Value) : Value := .agg #[.string (S id), nv, fv]
structure Po (w : World) (nv fv : Value) (P : Pc) : Prop where
  ns : Ns w nv P.nodes
  fs : Fs w fv P.flows
theorem Po.up {w w' : World} {nv fv : Value} {P : Pc} (h : Po w nv fv P) (hb : Below w.heap.size w w') : Po w' nv fv P := ⟨h.ns.up hb, h.fs.up hb⟩
/-- the process lies in block pb -/
structure Pb (w : World) (pb : Nat) (nv fv : Value) (P : Pc) : Prop where
  c0 : w.cell? ⟨pb, 0, none⟩ = some (.string (S P.id))
  c1 : w.cell? ⟨pb, 1, none⟩ = some nv
  c2 : w.cell? ⟨pb, 2, none⟩ = some fv
  lt : pb < w.heap.size
  po : Po w nv fv P
theorem Pb.up {w w' : World} {pb : Nat} {nv fv : Value} {P : Pc} (h : Pb w pb nv fv P) (hb : Below w.heap.size w w') : Pb w' pb nv fv P :=
  ⟨(hb.cell (p := ⟨pb, 0, none⟩) h.lt).trans h.c0, (hb.cell (p := ⟨pb, 1, none⟩) h.lt).trans h.c1, (hb.cell (p := ⟨pb, 2, none⟩) h.lt).trans h.c2, Nat.lt_of_lt_of_le h.lt hb.size, h.po.up hb⟩
theorem Pb.new {w : World} {nv fv : Value} {P : Pc} (h : Po w nv fv P) : Pb (w.alloc (.cells #[.string (S P.id), nv, fv] 25)) w.heap.size nv fv P :=
  ⟨World.cell?_alloc_new _ _ _ _, World.cell?_alloc_new _ _ _ _, World.cell?_alloc_new _ _ _ _, by simp, h.up ((Below.refl _ w).alloc (Nat.le_refl _) _)⟩
/-- v is a slice of the numbers l -/
def Is (w : World) (v : Value) (l : List Int) : Prop :=
  ∃ a cap, v = .slice a l.length cap ∧ (l = [] ∨ ∃ b off, a = some ⟨b, off, none⟩ ∧ b < w.heap.size ∧ ∀ (j : Nat) (h : j < l.length), w.cell? ⟨b, off + j, none⟩ = some (.int .i64 l[j]))
theorem Is.up {w w' : World} {v : Value} {l : List Int} (h : Is w v l) (hb : Below w.heap.size w w') : Is w' v l := by
  obtain ⟨a, cap, rfl, h⟩ := h
  refine ⟨a, cap, rfl, h.imp id ?_⟩
  rintro ⟨b, off, rfl, hlt, hc⟩
  exact ⟨b, off, rfl, Nat.lt_of_lt_of_le hlt hb.size, fun j hj => (hb.cell (p := ⟨b, off + j, none⟩) hlt).trans (hc j hj)⟩
theorem Is.new (w : World) (vs : List Int) (t : TypeId) : Is (w.alloc (.cells (vs.map fun x => Value.int .i64 x).toArray t)) (.slice (some ⟨w.heap.size, 0, none⟩) vs.length vs.length) vs :=
  ⟨_, _, rfl, .inr ⟨_, _, rfl, by simp, fun j hj => by rw [Nat.zero_add, World.cell?_alloc_new]; simp [hj]⟩⟩
theorem bel_of {u v w : World} {B : Nat} (h : Below u.heap.size u v) (k : Below B v w) (hB : v.heap.size ≤ B) : Below u.heap.size u w := h.trans (k.mono (by have := h.size; omega))
theorem S_data (l : List UInt8) : (S l).data.toList = l := by simp [S]
theorem nd_at (P : Pc) {i : Nat} (h : i < P.nodes.length) : P.nd (i : Int) = P.nodes[i] := by
  unfold Pc.nd
  rw [Int.toNat_natCast, List.getElem?_eq_getElem h]; rfl
theorem isPl_iff {n : Nat} {i : Int} : isPl n i = true ↔ ∃ k : Nat, i = (k : Int) ∧ k < n := by
  unfold isPl
  simp only [Bool.and_eq_true, decide_eq_true_eq]
  constructor
  · rintro ⟨h1, h2⟩; exact ⟨i.toNat, by omega, by omega⟩
  · rintro ⟨k, rfl, h⟩; omega
end Go.Proofs.YtlmdoiagjepmbaaGreatDoor.m11

/-
  Package disk: its files in memory, and what each call of it comes to.
-/
import Derived.Test.YteifkkceldlfnaaGreatDoorProg
import Derived.WalkKit
import Derived.WalkSpells
import Derived.Lib.Walk
import Derived.BigQuiet
import Derived.Deep.QuietTactic
import Derived.Deep.RegionHeld3
import Derived.Maps.AppendAt
import Derived.Laws.NewBlocks
import Derived.Laws.AppendOwnNone
import Derived.Lib.AppendZerosOnto
import Derived.Sort.Walk0
import Derived.Lib.Strings
import Derived.Below
import Derived.Shelf.Abstract
import Derived.ProofKit
import Derived.Maps.OwnSet
import Derived.Maps.Ext
import Derived.Lib.AppendStr
import Derived.Shelf.SlIter.Nil
import Derived.Shelf.SortM.Plain
import Derived.Shelf.SortM.SortNone
import Derived.Shelf.Pu.Clone
namespace Go.Proofs.YteifkkceldlfnaaGreatDoor
open Go.RowKit Go.Shelf Go.Sort
open Go.Lib hiding intOf
variable {V : Type}

/-- one text is less than another one, by bytes -/
def lt (a b : ByteArray) : Bool := Op.bytesLess a.toList b.toList

theorem lt_iff (a b : ByteArray) : lt a b = true ↔ a.data.toList < b.data.toList := by
  unfold lt
  rw [Proofs.bytesLess_eq]
  simp [Lib.toList_data]

theorem key_ext {a b : ByteArray} (h : a.data.toList = b.data.toList) : a = b := by
  apply ByteArray.ext
  exact Array.toList_inj.1 h

theorem lt_irrefl (a : ByteArray) : lt a a = false := by
  rw [← Bool.not_eq_true, lt_iff]; exact List.lt_irrefl _

theorem lt_trans {a b c : ByteArray} (h : lt a b = true) (k : lt b c = true) : lt a c = true := by
  rw [lt_iff] at *; exact List.lt_trans h k

theorem lt_asymm {a b : ByteArray} (h : lt a b = true) : lt b a = false := by
  rw [← Bool.not_eq_true]; intro k
  have := lt_trans h k
  rw [lt_irrefl] at this
  cases this

theorem lt_total {a b : ByteArray} (h : lt a b = false) (k : lt b a = false) : a = b := by
  rw [← Bool.not_eq_true, lt_iff] at h k
  exact key_ext (List.le_antisymm (List.not_lt.1 k) (List.not_lt.1 h))

/-- how many entries have a key that is less: the place of a key -/
def pos : List (ByteArray × V) → ByteArray → Nat
  | [], _ => 0
  | e :: r, k => if lt e.1 k then pos r k + 1 else 0

/-- the keys rise -/
def Rise (es : List (ByteArray × V)) : Prop := es.Pairwise (fun a b => lt a.1 b.1 = true)

theorem pos_le : ∀ (es : List (ByteArray × V)) (k : ByteArray), pos es k ≤ es.length
  | [], _ => Nat.le_refl _
  | e :: r, k => by
    rw [pos]
    split
    · have := pos_le r k; simp; omega
    · exact Nat.zero_le _

theorem Rise.tail {e : ByteArray × V} {r : List (ByteArray × V)} (h : Rise (e :: r)) : Rise r := (List.pairwise_cons.1 h).2

theorem pos_lt : ∀ (es : List (ByteArray × V)) (k : ByteArray) (j : Nat), Rise es → (h : j < es.length) → (lt es[j].1 k = true ↔ j < pos es k)
  | e :: r, k, 0, _, _ => by
    rw [pos]
    by_cases hk : lt e.1 k = true <;> simp [hk]
  | e :: r, k, j + 1, h, hj => by
    have ih := pos_lt r k j h.tail (by simpa using hj)
    rw [pos]
    by_cases hk : lt e.1 k = true
    · simp only [hk, if_true, List.getElem_cons_succ]
      rw [ih]; omega
    · simp only [hk, Bool.false_eq_true, if_false, List.getElem_cons_succ]
      constructor
      · intro hy
        exact absurd (lt_trans ((List.pairwise_cons.1 h).1 _ (List.getElem_mem (by simpa using hj))) hy) hk
      · intro h0; omega

/-- the key is there -/
def has (es : List (ByteArray × V)) (k : ByteArray) : Bool :=
  match es[pos es k]? with
  | some e => e.1.toList == k.toList
  | none => false

theorem row_cell {w : World} {e : TypeId} {size : Nat} {g n cap : Nat} {xs : List Value} {base : Nat} (h : w.ownsRow base e size (.slice (some ⟨g, 0, none⟩) n cap) n xs) {j : Nat} {v : Value} (hj : xs[j]? = some v) :
    w.cell? ⟨g, j, none⟩ = some v := by
  obtain ⟨hl, hn | ⟨g', cap', cur, hs, _, hg, _, _, hcs, ht⟩⟩ := h
  · cases hn.1
  · cases hs
    simp only [World.cell?, hg]
    have hj' := (List.getElem?_eq_some_iff.1 hj).1
    rw [← ht] at hj
    rw [List.getElem?_take] at hj
    split at hj
    · simpa using hj
    · cases hj

/-- all blocks but those of X are as they were -/
structure Ch (X : Nat → Prop) (w w' : World) : Prop where
  os : w'.os = w.os
  tape : w'.tape = w.tape
  output : w'.output = w.output
  size : w.heap.size ≤ w'.heap.size
  block : ∀ k, k < w.heap.size → ¬ X k → w'.heap[k]? = w.heap[k]?

theorem Ch.refl (X : Nat → Prop) (w : World) : Ch X w w := ⟨rfl, rfl, rfl, Nat.le_refl _, fun _ _ _ => rfl⟩

theorem Ch.trans {X : Nat → Prop} {a b c : World} (h : Ch X a b) (k : Ch X b c) : Ch X a c :=
  ⟨k.os.trans h.os, k.tape.trans h.tape, k.output.trans h.output, Nat.le_trans h.size k.size, fun i hi hX => (k.block i (Nat.lt_of_lt_of_le hi h.size) hX).trans (h.block i hi hX)⟩

theorem Ch.mono {X Y : Nat → Prop} {a b : World} (h : Ch X a b) (hXY : ∀ k, k < a.heap.size → X k → Y k) : Ch Y a b :=
  ⟨h.os, h.tape, h.output, h.size, fun i hi hY => h.block i hi (fun hX => hY (hXY i hi hX))⟩

theorem Ch.below {X : Nat → Prop} {a b : World} {B : Nat} (h : Ch X a b) (hB : B ≤ a.heap.size) (hX : ∀ k, k < B → ¬ X k) : Below B a b :=
  ⟨h.os, h.tape, h.output, h.size, fun k hk => h.block k (by omega) (hX k hk)⟩

theorem Ch.of_below {X : Nat → Prop} {a b : World} (h : Below a.heap.size a b) : Ch X a b := ⟨h.os, h.tape, h.output, h.size, fun k hk _ => h.block k hk⟩

theorem Ch.of_grown {X : Nat → Prop} {a b : World} {r : Option Nat} (h : a.grownBy b r) (hr : ∀ k, r = some k → k < a.heap.size → X k) : Ch X a b :=
  ⟨h.os, h.tape, h.output, h.size, fun k hk hX => h.block k hk (fun e => hX (hr k e.symm hk))⟩

theorem Ch.drew {X : Nat → Prop} {a b : World} (h : Ch X a b) : Ch X a b.drew := ⟨h.os, h.tape, h.output, h.size, h.block⟩

theorem Ch.alloc {X : Nat → Prop} {a b : World} (h : Ch X a b) (o : Obj) : Ch X a (b.alloc o) :=
  h.trans (Ch.of_grown (World.grownBy_alloc b o none) (fun _ e => by cases e))

theorem Ch.setCell {X : Nat → Prop} {a b : World} (h : Ch X a b) (p : Addr) (v : Value) (hp : p.block < a.heap.size → X p.block) : Ch X a (b.setCell p v) := by
  refine ⟨h.os, h.tape, h.output, by simpa using h.size, fun k hk hX => ?_⟩
  rw [heap_setCell_other b p k v (fun e => by subst e; exact hX (hp hk))]
  exact h.block k hk hX

theorem Ch.cell {X : Nat → Prop} {a b : World} (h : Ch X a b) {p : Addr} {v : Value} (hp : a.cell? p = some v) (hX : ¬ X p.block) : b.cell? p = some v :=
  (World.cell?_of_block (h.block p.block (World.block_lt_of_cell? a p hp) hX)).trans hp

theorem Ch.obj {X : Nat → Prop} {a b : World} (h : Ch X a b) {k : Nat} {o : Obj} (hp : a.heap[k]? = some o) (hX : ¬ X k) : b.heap[k]? = some o :=
  (h.block k (Array.getElem?_eq_some_iff.1 hp).1 hX).trans hp

theorem Ch.row {X : Nat → Prop} {a b : World} (h : Ch X a b) {base : Nat} {e : TypeId} {size : Nat} {v : Value} {n : Nat} {xs : List Value} (hr : a.ownsRow base e size v n xs) (hX : ∀ k, v.ownBlock = some k → ¬ X k) : b.ownsRow base e size v n xs := by
  refine ⟨hr.1, ?_⟩
  rcases hr.2 with hn | ⟨g, cap, cur, rfl, hb, hgg, rest⟩
  · exact .inl hn
  · exact .inr ⟨g, cap, cur, rfl, hb, h.obj hgg (hX g rfl), rest⟩

theorem row_slice {w : World} {base : Nat} {e : TypeId} {size : Nat} {sv : Value} {n : Nat} {cs : List Value} (hrow : w.ownsRow base e size sv n cs) :
    ∃ a c, sv = .slice a n c ∧ (a = none → n = 0) ∧ n ≤ c ∧ c ≤ 9223372036854775807 := by
  rcases hrow.2 with ⟨rfl, h0⟩ | ⟨g, cap, cur, rfl, _, hg, hnc, hcm, _⟩
  · exact ⟨none, 0, by rw [h0], fun _ => h0, by omega, by omega⟩
  · unfold maxLen at hcm; exact ⟨_, cap, rfl, (fun e => by cases e), hnc, by omega⟩

theorem two0 {w : World} {b : Nat} {x y : Value} {t : TypeId} (h : w.heap[b]? = some (.cells #[x, y] t (0, 0))) (v : Value) : (w.setCell ⟨b, 0, none⟩ v).heap[b]? = some (.cells #[v, y] t (0, 0)) := heap_setCell_same w b 0 _ t v h

theorem two1 {w : World} {b : Nat} {x y : Value} {t : TypeId} (h : w.heap[b]? = some (.cells #[x, y] t (0, 0))) (v : Value) : (w.setCell ⟨b, 1, none⟩ v).heap[b]? = some (.cells #[x, v] t (0, 0)) := heap_setCell_same w b 1 _ t v h

/-- what the map has behind Put -/
def put {V : Type} (es : List (ByteArray × V)) (k : ByteArray) (v : V) : List (ByteArray × V) :=
  if has es k then es.set (pos es k) (k, v) else es.take (pos es k) ++ (k, v) :: es.drop (pos es k)

/-- what the map has behind Del -/
def del {V : Type} (es : List (ByteArray × V)) (k : ByteArray) : List (ByteArray × V) :=
  if has es k then es.take (pos es k) ++ es.drop (pos es k + 1) else es

/-- the key's value -/
def val (es : List (ByteArray × Int)) (k : ByteArray) : Int := if has es k then (es[pos es k]?.map (·.2)).getD 0 else 0

theorem has_lt {V : Type} {es : List (ByteArray × V)} {k : ByteArray} (h : has es k = true) : ∃ hp : pos es k < es.length, es[pos es k].1 = k := by
  by_cases hp : pos es k < es.length
  · refine ⟨hp, ?_⟩
    simp [has, hp] at h
    apply key_ext
    simpa [Lib.toList_data] using h
  · simp [has, hp] at h

theorem has_not {V : Type} {es : List (ByteArray × V)} {k : ByteArray} (h : has es k = false) (hp : pos es k < es.length) : es[pos es k].1 ≠ k := by
  intro e
  simp [has, hp, e] at h

theorem val_has {es : List (ByteArray × Int)} {k : ByteArray} (h : has es k = true) (hp : pos es k < es.length) : val es k = es[pos es k].2 := by simp [val, h, hp]

theorem Rise.get {V : Type} {es : List (ByteArray × V)} (h : Rise es) {i j : Nat} (hi : i < es.length) (hj : j < es.length) (hij : i < j) : lt es[i].1 es[j].1 = true := List.pairwise_iff_getElem.1 h i j hi hj hij

theorem put_rise {V : Type} {es : List (ByteArray × V)} (h : Rise es) (k : ByteArray) (v : V) : Rise (put es k v) := by
  unfold put
  split
  · rename_i hh
    obtain ⟨hp, hk⟩ := has_lt hh
    refine List.pairwise_iff_getElem.2 fun i j hi hj hij => ?_
    have hi' : i < es.length := by simpa using hi
    have hj' : j < es.length := by simpa using hj
    have hg := h.get hi' hj' hij
    simp only [List.getElem_set]
    split <;> split
    · omega
    · rename_i e1 e2; subst e1; rw [hk] at hg; exact hg
    · rename_i e1 e2; subst e2; rw [hk] at hg; exact hg
    · exact hg
  · rename_i hh
    have hh' : has es k = false := by simpa using hh
    refine List.pairwise_append.2 ⟨h.sublist (List.take_sublist _ _), List.pairwise_cons.2 ⟨?_, h.sublist (List.drop_sublist _ _)⟩, ?_⟩
    · intro y hy
      obtain ⟨j, hj, rfl⟩ := List.mem_iff_getElem.1 hy
      simp only [List.getElem_drop]
      have hlen : pos es k + j < es.length := by simp at hj; omega
      have hn : lt es[pos es k + j].1 k = false := by rw [← Bool.not_eq_true, pos_lt es k _ h hlen]; omega
      by_cases hl : lt k es[pos es k + j].1 = true
      · exact hl
      · have he := lt_total hn (by simpa using hl)
        exfalso
        have hp0 : pos es k < es.length := by omega
        by_cases hj0 : j = 0
        · subst hj0; exact has_not hh' hp0 (by simpa using he)
        · have h1 := h.get hp0 hlen (by omega)
          rw [he] at h1
          rw [pos_lt es k _ h hp0] at h1
          omega
    · intro a ha y hy
      obtain ⟨i, hi, rfl⟩ := List.mem_iff_getElem.1 ha
      have hi' : i < pos es k ∧ i < es.length := by simp at hi; omega
      have hlk : lt es[i].1 k = true := (pos_lt es k i h hi'.2).2 hi'.1
      simp only [List.getElem_take]
      rcases List.mem_cons.1 hy with rfl | hy
      · exact hlk
      · obtain ⟨j, hj, rfl⟩ := List.mem_iff_getElem.1 hy
        simp only [List.getElem_drop]
        exact h.get hi'.2 (by simp at hj; omega) (by omega)

theorem del_rise {V : Type} {es : List (ByteArray × V)} (h : Rise es) (k : ByteArray) : Rise (del es k) := by
  unfold del
  split
  · rw [← List.eraseIdx_eq_take_drop_succ]
    exact h.sublist (List.eraseIdx_sublist _ _)
  · exact h

theorem put_len {V : Type} (es : List (ByteArray × V)) (k : ByteArray) (v : V) : (put es k v).length = if has es k then es.length else es.length + 1 := by
  have := pos_le es k
  unfold put
  split
  · simp
  · simp; omega

theorem del_len {V : Type} (es : List (ByteArray × V)) (k : ByteArray) : (del es k).length = if has es k then es.length - 1 else es.length := by
  unfold del
  split
  · rename_i h
    obtain ⟨hp, _⟩ := has_lt h
    simp; omega
  · rfl

/-- a block of one cell -/
def Bx (w : World) (b : Nat) (v : Value) (t : TypeId) : Prop := w.heap[b]? = some (.cells #[v] t (0, 0))

theorem Bx.cell {w : World} {b : Nat} {v : Value} {t : TypeId} (h : Bx w b v t) : w.cell? ⟨b, 0, none⟩ = some v := by unfold Bx at h; simp [World.cell?, h]

theorem Bx.fro {w : World} {b : Nat} {v : Value} {t : TypeId} (h : Bx w b v t) : w.frozen? ⟨b, 0, none⟩ = false := by unfold Bx at h; simp [World.frozen?, h]

theorem Bx.lt {w : World} {b : Nat} {v : Value} {t : TypeId} (h : Bx w b v t) : b < w.heap.size := (Array.getElem?_eq_some_iff.1 h).1

theorem Bx.new (w : World) (v : Value) (t : TypeId) : Bx (w.alloc (.cells #[v] t)) w.heap.size v t := heap_alloc_new w _

theorem Bx.ch {w w' : World} {b : Nat} {v : Value} {t : TypeId} {X : Nat → Prop} (h : Bx w b v t) (hc : Ch X w w') (hX : ¬ X b) : Bx w' b v t := hc.obj h hX

theorem Bx.below {w w' : World} {b : Nat} {v : Value} {t : TypeId} {B : Nat} (h : Bx w b v t) (hc : Below B w w') (hB : b < B) : Bx w' b v t := (hc.block b hB).trans h

theorem Bx.alloc {w : World} {b : Nat} {v : Value} {t : TypeId} (h : Bx w b v t) (o : Obj) : Bx (w.alloc o) b v t := h.below ((Below.refl _ w).alloc (Nat.le_refl _) o) h.lt

theorem one0 {w : World} {b : Nat} {x : Value} {t : TypeId} (h : Bx w b x t) (v : Value) : Bx (w.setCell ⟨b, 0, none⟩ v) b v t := heap_setCell_same w b 0 _ t v h

abbrev Ent := ByteArray × Int

/-- a text begins with another one -/
def bg (s k : ByteArray) : Bool := decide (k.size ≤ s.size) && ((s.extract 0 k.size).toList == k.toList)

theorem bg_iff (s k : ByteArray) : bg s k = true ↔ k.data.toList <+: s.data.toList := by
  unfold bg
  simp only [Bool.and_eq_true, decide_eq_true_eq, beq_iff_eq, Lib.toList_data, ByteArray.data_extract, Array.toList_extract, List.extract_eq_take_drop, List.drop_zero, Nat.sub_zero]
  rw [List.prefix_iff_eq_take]
  have h1 : k.data.toList.length = k.size := by simp
  have h2 : s.data.toList.length = s.size := by simp
  constructor
  · rintro ⟨_, h⟩
    rw [h1, h]
  · intro h
    rw [h1] at h
    refine ⟨?_, h.symm⟩
    have := congrArg List.length h
    rw [h1, List.length_take, h2] at this
    omega

def kcells (l : List Ent) : List Value := l.map (fun e => .string e.1)

def vcells (l : List Ent) : List Value := l.map (fun e => .int .i64 e.2)

/-- a slice of keys, a slice of values -/
def KV (w : World) (base : Nat) (kv vv : Value) (l : List Ent) : Prop := w.ownsRow base 9 1 kv l.length (kcells l) ∧ w.ownsRow base 3 1 vv l.length (vcells l)

theorem infoStr : (Tryz.prog.info? 9).map (fun i => (i.zero, i.size, i.bytes)) = some (some (.string ⟨#[]⟩), 1, 16) := by kernel_rfl

theorem infoInt : (Tryz.prog.info? 3).map (fun i => (i.zero, i.size, i.bytes)) = some (some (.int .i64 0), 1, 8) := by kernel_rfl

theorem Bx.ne {W : World} {b b' : Nat} {v v' : Value} {t t' : TypeId} (h : Bx W b v t) (h' : Bx W b' v' t') (ht : t ≠ t') : b ≠ b' := by
  rintro rfl
  have e1 : W.heap[b]? = _ := h
  rw [show W.heap[b]? = _ from h'] at e1
  injection e1 with e1
  injection e1 with e2 e3
  exact ht e3.symm

theorem row_obj {W : World} {base : Nat} {e : TypeId} {size : Nat} {v : Value} {n : Nat} {xs : List Value} (h : W.ownsRow base e size v n xs) {g : Nat} (hg : v.ownBlock = some g) : base ≤ g ∧ ∃ cur, W.heap[g]? = some (.cells cur e (0, 0)) := by
  rcases h.2 with ⟨rfl, _⟩ | ⟨g', cap, cur, rfl, hb, hgg, _⟩
  · cases hg
  · cases hg; exact ⟨hb, cur, hgg⟩

theorem row_ne {W : World} {base base' : Nat} {e e' : TypeId} {size size' : Nat} {v v' : Value} {n n' : Nat} {xs xs' : List Value} (h : W.ownsRow base e size v n xs) (h' : W.ownsRow base' e' size' v' n' xs') (he : e ≠ e') {g g' : Nat} (hg : v.ownBlock = some g) (hg' : v'.ownBlock = some g') : g ≠ g' := by
  rintro rfl
  obtain ⟨_, cur, h1⟩ := row_obj h hg
  obtain ⟨_, cur', h2⟩ := row_obj h' hg'
  rw [h1] at h2
  injection h2 with e1
  injection e1 with e2 e3
  exact he e3

theorem row_box {W : World} {base : Nat} {e t : TypeId} {size : Nat} {v : Value} {n : Nat} {xs : List Value} (h : W.ownsRow base e size v n xs) {b : Nat} {u : Value} (hb : Bx W b u t) (he : e ≠ t) {g : Nat} (hg : v.ownBlock = some g) : g ≠ b := by
  rintro rfl
  obtain ⟨_, cur, h1⟩ := row_obj h hg
  rw [show W.heap[g]? = _ from hb] at h1
  injection h1 with e1
  injection e1 with e2 e3
  exact he e3.symm

theorem new_one (w : World) (n : Nat) (hn : n = w.heap.size) (v : Value) (t : TypeId) : ∀ j u, ([v] : List Value)[j]? = some u → (w.alloc (.cells #[v] t)).cell? ((⟨n, 0, none⟩ : Addr).add j) = some u := by
  subst hn
  exact cell_one_new _ _ _

theorem row_low {W : World} {base base' : Nat} {e : TypeId} {size : Nat} {v : Value} {n : Nat} {xs : List Value} (h : W.ownsRow base e size v n xs) (hb : base' ≤ base) : W.ownsRow base' e size v n xs :=
  ⟨h.1, h.2.imp id (fun ⟨g, cap, cur, e1, e2, rest⟩ => ⟨g, cap, cur, e1, Nat.le_trans hb e2, rest⟩)⟩
end Go.Proofs.YteifkkceldlfnaaGreatDoor
namespace Go.Proofs.YteifkkceldlfnaaGreatDoor
open Go.RowKit Go.Shelf Go.Sort
open Go.Lib hiding intOf

theorem less_from (a b : List UInt8) (i : Nat) (ha : i < a.length) (hb : i < b.length) (hp : a.take i = b.take i) : (a < b ↔ (a[i] < b[i] ∨ (a[i] = b[i] ∧ a.drop (i + 1) < b.drop (i + 1)))) := by
  have e1 : a = a.take i ++ (a[i] :: a.drop (i + 1)) := by rw [List.getElem_cons_drop]; exact (List.take_append_drop i a).symm
  have e2 : b = a.take i ++ (b[i] :: b.drop (i + 1)) := by rw [hp, List.getElem_cons_drop]; exact (List.take_append_drop i b).symm
  have key : ∀ (p x y : List UInt8), p ++ x < p ++ y ↔ x < y := by
    intro p x y
    induction p with
    | nil => rfl
    | cons c p ih => simp only [List.cons_append, List.cons_lt_cons_iff, ih]; simp
  have h1 : (a < b) ↔ (a.take i ++ (a[i] :: a.drop (i + 1)) < a.take i ++ (b[i] :: b.drop (i + 1))) := by rw [← e1, ← e2]
  rw [h1, key, List.cons_lt_cons_iff]

theorem get_list (a : ByteArray) (i : Nat) (h : i < a.size) : a.data.toList[i]'(by simpa using h) = a[i] := rfl

theorem below_drewN {B : Nat} {w wr : World} (h : Below B w wr) (n : Nat) : Below B w (wr.drewN n) := ⟨h.os, h.tape, h.output, h.size, h.block⟩

theorem less_done (a b : ByteArray) (i : Nat) (h1 : i ≤ a.size) (h2 : i ≤ b.size) (h3 : a.data.toList.take i = b.data.toList.take i) (he : i = a.size ∨ i = b.size) : lt a b = decide (a.size < b.size) := by
  have la : a.data.toList.length = a.size := by simp
  have lb : b.data.toList.length = b.size := by simp
  rw [Bool.eq_iff_iff, lt_iff, decide_eq_true_iff]
  by_cases ha : i = a.size
  · rw [List.take_of_length_le (by omega)] at h3
    rw [h3]
    by_cases hb : i = b.size
    · rw [List.take_of_length_le (by omega)]
      constructor
      · intro h; exact absurd h (List.lt_irrefl _)
      · intro h; omega
    · constructor
      · intro _; omega
      · intro _
        have hd : b.data.toList.drop i ≠ [] := by
          intro h
          have := congrArg List.length h
          rw [List.length_drop, lb] at this
          simp at this
          omega
        have : ∀ (p r : List UInt8), r ≠ [] → p < p ++ r := by
          intro p r hr
          induction p with
          | nil => cases r with
            | nil => exact absurd rfl hr
            | cons c r => simp
          | cons c p ih => rw [List.cons_append, List.cons_lt_cons_iff]; exact .inr ⟨rfl, ih⟩
        have h5 := this (b.data.toList.take i) _ hd
        rw [List.take_append_drop] at h5
        exact h5
  · have hb : i = b.size := he.resolve_left ha
    rw [List.take_of_length_le (l := b.data.toList) (by omega)] at h3
    constructor
    · intro h
      rw [← h3] at h
      exact absurd h (List.not_lt.2 (List.IsPrefix.le (List.take_prefix i _)))
    · intro h; omega

set_option maxHeartbeats 1000000 in
theorem Less_quiet (a b : ByteArray) (ha : a.size < 4611686018427387904) (_hb : b.size < 4611686018427387904) (w : World) : Calls Tryz.prog 57 #[.string a, .string b] w fun e w' => e = .returned (.bool (lt a b)) ∧ ∃ m, w' = w.drewN m := by
  go_enter Tryz.func57, Tryz.ntmps57
  go_wp2
  go_loopw [5] (fun vi wr => ∃ i : Nat, vi = .int .i64 i ∧ i ≤ a.size ∧ i ≤ b.size ∧ a.data.toList.take i = b.data.toList.take i ∧ ∃ n, wr = w.drewN n) (fun vi _ => a.size - (intOf vi).toNat)
  case atStart => exact ⟨0, rfl, Nat.zero_le _, Nat.zero_le _, by simp, 0, (World.drewN_zero w).symm⟩
  case round =>
    obtain ⟨i, rfl, h1, h2, h3, n0, rfl⟩ := hrel
    have H3 : Hid (a.data.toList.take i = b.data.toList.take i) := h3
    clear h3
    have la : a.data.toList.length = a.size := by simp
    have lb : b.data.toList.length = b.size := by simp
    by_cases hia : i < a.size
    · have hii : (i : Int) < (a.size : Int) := by omega
      by_cases hib : i < b.size
      · have hij : (i : Int) < (b.size : Int) := by omega
        have hlf := less_from a.data.toList b.data.toList i (by simpa using hia) (by simpa using hib) H3.out
        rw [get_list a i hia, get_list b i hib] at hlf
        by_cases hab : a[i] = b[i]
        · have hne : ((a[i].toNat : Int) != (b[i].toNat : Int)) = false := by simp [hab]
          have R : Hid (a.data.toList.take (i + 1) = b.data.toList.take (i + 1)) := by
            show a.data.toList.take (i + 1) = b.data.toList.take (i + 1)
            rw [List.take_succ_eq_append_getElem (by simpa using hia), List.take_succ_eq_append_getElem (by simpa using hib), H3.out, get_list a i hia, get_list b i hib, hab]
          clear hlf hab la lb
          go_wp2_with fail
          go_quiet (fail)
          all_goals go_wp2_with fail
          go_roundw
          case rel => exact ⟨i + 1, by simp, by omega, by omega, R.out, by first | exact ⟨_, rfl⟩ | exact ⟨_, World.drewN_drewN _ _ _⟩ | exact ⟨_, by rw [World.drewN_drewN, World.drewN_drewN]⟩⟩
          case measure => simp [intOf]; omega
        · have hne : ((a[i].toNat : Int) != (b[i].toNat : Int)) = true := by
            simp only [bne_iff_ne, ne_eq]
            intro h
            exact hab (UInt8.toNat_inj.1 (by omega))
          have R : Hid (decide (a[i].toNat < b[i].toNat) = lt a b) := by
            show decide (a[i].toNat < b[i].toNat) = lt a b
            rw [Bool.eq_iff_iff, lt_iff, hlf, decide_eq_true_iff]
            constructor
            · intro h; exact .inl (UInt8.lt_iff_toNat_lt.2 h)
            · rintro (h | ⟨h, _⟩)
              · exact UInt8.lt_iff_toNat_lt.1 h
              · exact absurd h hab
          clear hlf hab la lb
          go_wp2_with fail
          go_quiet (fail)
          all_goals go_wp2_with fail
          go_quiet (fail)
          all_goals go_wp2_with fail
          all_goals go_ret
          all_goals exact ⟨by rw [← R.out]; rfl, by first | exact ⟨_, rfl⟩ | exact ⟨_, World.drewN_drewN _ _ _⟩ | exact ⟨_, by rw [World.drewN_drewN, World.drewN_drewN]⟩⟩
      · have R := less_done a b i h1 h2 H3.out (.inr (by omega))
        have R' : Hid (lt a b = decide (a.size < b.size)) := R
        clear R la lb
        have hij : ¬ (i : Int) < (b.size : Int) := by omega
        go_wp2
        all_goals go_ret
        all_goals exact ⟨by rw [R'.out]; rfl, n0, rfl⟩
    · have R := less_done a b i h1 h2 H3.out (.inl (by omega))
      have R' : Hid (lt a b = decide (a.size < b.size)) := R
      clear R la lb
      have hii : ¬ (i : Int) < (a.size : Int) := by omega
      go_wp2
      all_goals go_ret
      all_goals exact ⟨by rw [R'.out]; rfl, n0, rfl⟩

theorem Less_any (a b : ByteArray) (ha : a.size < 4611686018427387904) (hb : b.size < 4611686018427387904) (w : World) : Calls Tryz.prog 57 #[.string a, .string b] w fun e w' => e = .returned (.bool (lt a b)) ∧ Below w.heap.size w w' := by
  refine (Less_quiet a b ha hb w).mono ?_
  rintro e w' ⟨h, m, rfl⟩
  exact ⟨h, below_drewN (Below.refl _ w) m⟩
end Go.Proofs.YteifkkceldlfnaaGreatDoor
namespace Go.Proofs.YteifkkceldlfnaaGreatDoor
open Go.RowKit Go.Shelf Go.Sort
open Go.Lib hiding intOf

/-- a file: its name, its safe bytes, its rest -/
abbrev Fil := ByteArray × ByteArray × ByteArray
def fcells (l : List Fil) : List Value := l.flatMap (fun f => [Value.string f.1, Value.string f.2.1, Value.string f.2.2])
theorem fcells_len (l : List Fil) : (fcells l).length = l.length * 3 := by
  induction l with
  | nil => rfl
  | cons f r ih => simp only [fcells, List.flatMap_cons, List.length_append, List.length_cons, List.length_nil] at *; omega
theorem fcells_at : ∀ (l : List Fil) (j : Nat) (h : j < l.length), (fcells l)[j * 3]? = some (.string l[j].1) ∧ (fcells l)[j * 3 + 1]? = some (.string l[j].2.1) ∧ (fcells l)[j * 3 + 2]? = some (.string l[j].2.2)
  | f :: r, 0, _ => ⟨rfl, rfl, rfl⟩
  | f :: r, j + 1, h => by
    have := fcells_at r j (by simpa using h)
    rw [show (j + 1) * 3 = j * 3 + 1 + 1 + 1 by omega, show j * 3 + 1 + 1 + 1 + 1 = (j * 3 + 1) + 1 + 1 + 1 by omega, show j * 3 + 1 + 1 + 1 + 2 = (j * 3 + 2) + 1 + 1 + 1 by omega]
    simpa [fcells] using this
/-- the document's disk in block db -/
structure Dk (w : World) (db base : Nat) (fs : List Fil) (p : Int) (off : Bool) (sv : Value) : Prop where
  hd : w.heap[db]? = some (.cells #[sv, .int .i64 p, .bool off] 75 (0, 0))
  row : w.ownsRow base 89 3 sv fs.length (fcells fs)
theorem Dk.c0 {w : World} {db base : Nat} {fs : List Fil} {p : Int} {off : Bool} {sv : Value} (h : Dk w db base fs p off sv) : w.cell? ⟨db, 0, none⟩ = some sv := by simp [World.cell?, h.hd]
theorem Dk.c1 {w : World} {db base : Nat} {fs : List Fil} {p : Int} {off : Bool} {sv : Value} (h : Dk w db base fs p off sv) : w.cell? ⟨db, 1, none⟩ = some (.int .i64 p) := by simp [World.cell?, h.hd]
theorem Dk.c2 {w : World} {db base : Nat} {fs : List Fil} {p : Int} {off : Bool} {sv : Value} (h : Dk w db base fs p off sv) : w.cell? ⟨db, 2, none⟩ = some (.bool off) := by simp [World.cell?, h.hd]
theorem Dk.fro {w : World} {db base : Nat} {fs : List Fil} {p : Int} {off : Bool} {sv : Value} (h : Dk w db base fs p off sv) (j : Nat) : w.frozen? ⟨db, j, none⟩ = false := by simp [World.frozen?, h.hd]
theorem Dk.lt {w : World} {db base : Nat} {fs : List Fil} {p : Int} {off : Bool} {sv : Value} (h : Dk w db base fs p off sv) : db < w.heap.size := (Array.getElem?_eq_some_iff.1 h.hd).1
theorem Dk.below {w w' : World} {db base : Nat} {fs : List Fil} {p : Int} {off : Bool} {sv : Value} (h : Dk w db base fs p off sv) (hb : Below w.heap.size w w') : Dk w' db base fs p off sv :=
  ⟨(hb.block db h.lt).trans h.hd, (show Ch (fun _ => False) w w' from Ch.of_below hb).row h.row (fun _ _ => id)⟩
/-- a cell of the disk's own is set -/
theorem Dk.set1 {w : World} {db base : Nat} {fs : List Fil} {p : Int} {off : Bool} {sv : Value} (h : Dk w db base fs p off sv) (q : Int) : Dk (w.setCell ⟨db, 1, none⟩ (.int .i64 q)) db base fs q off sv :=
  ⟨heap_setCell_same w db 1 _ _ _ h.hd, ((Ch.refl (fun k => k = db) w).setCell ⟨db, 1, none⟩ _ (fun _ => rfl)).row h.row (fun k hk e => by
    subst e
    obtain ⟨_, cur, hx⟩ := row_obj h.row hk
    rw [h.hd] at hx; injection hx with x; injection x with _ x; cases x)⟩
theorem Dk.set2 {w : World} {db base : Nat} {fs : List Fil} {p : Int} {off : Bool} {sv : Value} (h : Dk w db base fs p off sv) (o : Bool) : Dk (w.setCell ⟨db, 2, none⟩ (.bool o)) db base fs p o sv :=
  ⟨heap_setCell_same w db 2 _ _ _ h.hd, ((Ch.refl (fun k => k = db) w).setCell ⟨db, 2, none⟩ _ (fun _ => rfl)).row h.row (fun k hk e => by
    subst e
    obtain ⟨_, cur, hx⟩ := row_obj h.row hk
    rw [h.hd] at hx; injection hx with x; injection x with _ x; cases x)⟩
/-- the place of a name, as far as n; below 0: none -/
def fidx (fs : List Fil) (k : ByteArray) : Option Nat := fs.findIdx? (fun f => f.1.toList == k.toList)
def fnum (fs : List Fil) (k : ByteArray) : Int := match fidx fs k with
  | some i => (i : Int)
  | none => -1

theorem fnum_at {fs : List Fil} {k : ByteArray} {i : Nat} (hi : i < fs.length) (hno : ∀ j (hj : j < fs.length), j < i → (fs[j].1.toList == k.toList) = false) (h : (fs[i].1.toList == k.toList) = true) : fnum fs k = (i : Int) := by
  have : fidx fs k = some i := by
    unfold fidx
    rw [List.findIdx?_eq_some_iff_getElem]
    exact ⟨hi, h, fun j hj => by simpa using hno j (by omega) hj⟩
  unfold fnum
  rw [this]
theorem fnum_none {fs : List Fil} {k : ByteArray} (hno : ∀ j (hj : j < fs.length), (fs[j].1.toList == k.toList) = false) : fnum fs k = -1 := by
  have : fidx fs k = none := by
    unfold fidx
    rw [List.findIdx?_eq_none_iff]
    intro f hf
    obtain ⟨j, hj, rfl⟩ := List.mem_iff_getElem.1 hf
    exact hno j hj
  unfold fnum
  rw [this]
theorem fnum_cases (fs : List Fil) (k : ByteArray) : fnum fs k = -1 ∨ ∃ i, fidx fs k = some i ∧ fnum fs k = (i : Int) ∧ i < fs.length := by
  cases h : fidx fs k with
  | none => left; unfold fnum; rw [h]
  | some i =>
    right
    refine ⟨i, rfl, by unfold fnum; rw [h], ?_⟩
    unfold fidx at h
    rw [List.findIdx?_eq_some_iff_getElem] at h
    exact h.1

set_option maxHeartbeats 2000000 in
theorem dfind_any {w : World} {db base : Nat} {fs : List Fil} {p : Int} {off : Bool} {sv : Value} (h : Dk w db base fs p off sv) (k : ByteArray) (hn : fs.length < 4611686018427387904) :
    Calls Tryz.prog 55 #[.pointer (some ⟨db, 0, none⟩), .string k] w fun e w' => e = .returned (.int .i64 (fnum fs k)) ∧ w' = w := by
  have H : Hid (Dk w db base fs p off sv) := h
  have c0 := h.c0
  obtain ⟨a, c, rfl, -⟩ := row_slice h.row
  clear h
  go_enter Tryz.func55, Tryz.ntmps55
  go_wp2_with fail
  go_loopw [5] (fun vi wr => ∃ i : Nat, vi = .int .i64 i ∧ i ≤ fs.length ∧ (∀ j (hj : j < fs.length), j < i → (fs[j].1.toList == k.toList) = false) ∧ wr = w) (fun vi _ => fs.length - (intOf vi).toNat)
  case atStart => exact ⟨0, rfl, Nat.zero_le _, fun _ _ h => by omega, rfl⟩
  case round =>
    obtain ⟨i, rfl, hi, hno, hww⟩ := hrel
    subst hww
    have HNO : Hid (∀ j (hj : j < fs.length), j < i → (fs[j].1.toList == k.toList) = false) := hno
    clear hno
    by_cases hl : i < fs.length
    · have hli : (i : Int) < (fs.length : Int) := by omega
      obtain ⟨g, hg⟩ : ∃ g, a = some ⟨g, 0, none⟩ := by
        rcases H.out.row.2 with ⟨e, h0⟩ | ⟨g, cap', cur, e, -⟩
        · omega
        · cases e; exact ⟨g, rfl⟩
      subst hg
      have m0 := row_cell H.out.row (fcells_at fs i hl).1
      cases hq : (fs[i].1.toList == k.toList) with
      | true =>
        have HR : Hid _ := fnum_at hl HNO.out hq
        generalize fs[i].1 = nm at *
        go_wp2_with fail
        go_ret
        exact ⟨by rw [HR.out]; rfl, rfl⟩
      | false =>
        have HR : Hid (∀ j (hj : j < fs.length), j < i + 1 → (fs[j].1.toList == k.toList) = false) := fun j hj hji => by
          by_cases e : j = i
          · subst e; exact hq
          · exact HNO.out j hj (by omega)
        generalize fs[i].1 = nm at *
        go_wp2_with fail
        go_roundw
        case rel => exact ⟨i + 1, by simp, by omega, HR.out, trivial⟩
        case measure => simp [intOf]; omega
    · have hli : ¬ (i : Int) < (fs.length : Int) := by omega
      have HR : Hid _ := fnum_none (fun j hj => HNO.out j hj (by omega))
      go_wp2_with fail
      go_ret
      exact ⟨by rw [HR.out]; rfl, rfl⟩

/-- is there power for an act, what there is then, and is it off then -/
def powOk (p : Int) : Bool := !(p == 0)
def powOf (p : Int) : Int := if 0 < p then p - 1 else p
set_option maxHeartbeats 2000000 in
theorem dact_any {w : World} {db base : Nat} {fs : List Fil} {p : Int} {off : Bool} {sv : Value} (h : Dk w db base fs p off sv) (hp : -9223372036854775808 ≤ p ∧ p ≤ 9223372036854775807) :
    Calls Tryz.prog 56 #[.pointer (some ⟨db, 0, none⟩)] w fun e w' => e = .returned (.bool (powOk p)) ∧ Dk w' db base fs (powOf p) (off || !powOk p) sv ∧ Ch (fun k => k = db) w w' := by
  have c1 := h.c1
  have f1 := h.fro 1
  have f2 := h.fro 2
  have c2 := h.c2
  have H : Hid (Dk w db base fs p off sv) := h
  clear h
  by_cases h0 : p = 0
  · subst h0
    go_enter Tryz.func56, Tryz.ntmps56
    go_wp2
    go_ret
    refine ⟨rfl, ?_, (Ch.refl _ w).setCell _ _ (fun _ => rfl)⟩
    have := H.out.set2 true
    simpa [powOf, powOk] using this
  · have hb0 : (p == 0) = false := by simpa using h0
    by_cases h1 : 0 < p
    · have hw1 : IntKind.i64.wrap (p - 1) = p - 1 := by rw [IntKind.wrap_i64]; omega
      go_enter Tryz.func56, Tryz.ntmps56
      go_wp2
      go_ret
      refine ⟨by simp [powOk, hb0], ?_, (Ch.refl _ w).setCell _ _ (fun _ => rfl)⟩
      have := H.out.set1 (p - 1)
      simpa [powOf, powOk, hb0, h1] using this
    · go_enter Tryz.func56, Tryz.ntmps56
      go_wp2
      go_ret
      refine ⟨by simp [powOk, hb0], ?_, Ch.refl _ w⟩
      have e1 : powOf p = p := if_neg (by omega)
      have e2 : (off || !powOk p) = off := by simp [powOk, hb0]
      rw [e1, e2]
      exact H.out

/-- which file, or why not -/
def askNo (fs : List Fil) (off : Bool) (k : ByteArray) : Int := if off then 7 else if fnum fs k < 0 then 5 else 0
set_option maxHeartbeats 2000000 in
theorem dasks_any {w : World} {db base : Nat} {fs : List Fil} {p : Int} {off : Bool} {sv : Value} (h : Dk w db base fs p off sv) (k : ByteArray) (hn : fs.length < 4611686018427387904) :
    Calls Tryz.prog 78 #[.pointer (some ⟨db, 0, none⟩), .string k] w fun e w' => e = .returned (.tuple #[.int .i64 (if askNo fs off k = 0 then fnum fs k else 0), .int .i64 (askNo fs off k)]) ∧ w' = w := by
  have c2 := h.c2
  have hF := dfind_any h k hn
  clear h
  cases off with
  | true =>
    have ha : askNo fs true k = 7 := rfl
    rw [ha, if_neg (by decide)]
    clear ha
    go_enter Tryz.func78, Tryz.ntmps78
    go_wp2
    go_ret2
    exact ⟨rfl, rfl⟩
  | false =>
    generalize hx : fnum fs k = x at *
    by_cases h1 : x < 0
    · have ha : askNo fs false k = 5 := by simp [askNo, hx, h1]
      rw [ha, if_neg (by decide)]
      clear ha hx
      go_enter Tryz.func78, Tryz.ntmps78
      go_wp2_with (go_at_call 55; refine hF.mono ?_; rintro e w1 ⟨rfl, rfl⟩)
      go_ret2
      exact ⟨rfl, rfl⟩
    · have ha : askNo fs false k = 0 := by simp [askNo, hx, h1]
      rw [ha, if_pos rfl]
      clear ha hx
      go_enter Tryz.func78, Tryz.ntmps78
      go_wp2_with (go_at_call 55; refine hF.mono ?_; rintro e w1 ⟨rfl, rfl⟩)
      go_ret2
      exact ⟨rfl, rfl⟩
end Go.Proofs.YteifkkceldlfnaaGreatDoor
namespace Go.Proofs.YteifkkceldlfnaaGreatDoor
open Go.RowKit Go.Shelf Go.Sort
open Go.Lib hiding intOf

theorem fcells_set1 : ∀ (l : List Fil) (j : Nat) (h : j < l.length) (s : ByteArray), (fcells l).set (j * 3 + 1) (.string s) = fcells (l.set j (l[j].1, s, l[j].2.2))
  | f :: r, 0, _, s => rfl
  | f :: r, j + 1, h, s => by
    have := fcells_set1 r j (by simpa using h) s
    rw [show (j + 1) * 3 + 1 = (j * 3 + 1) + 1 + 1 + 1 by omega]
    simpa [fcells] using this
theorem fcells_set2 : ∀ (l : List Fil) (j : Nat) (h : j < l.length) (s : ByteArray), (fcells l).set (j * 3 + 2) (.string s) = fcells (l.set j (l[j].1, l[j].2.1, s))
  | f :: r, 0, _, s => rfl
  | f :: r, j + 1, h, s => by
    have := fcells_set2 r j (by simpa using h) s
    rw [show (j + 1) * 3 + 2 = (j * 3 + 2) + 1 + 1 + 1 by omega]
    simpa [fcells] using this
/-- a file's safe bytes are set -/
theorem Dk.safe {w : World} {db base : Nat} {fs : List Fil} {p : Int} {off : Bool} {g m c : Nat} (h : Dk w db base fs p off (.slice (some ⟨g, 0, none⟩) m c)) {i : Nat} (hi : i < fs.length) (s : ByteArray) :
    Dk (w.setCell ⟨g, i * 3 + 1, none⟩ (.string s)) db base (fs.set i (fs[i].1, s, fs[i].2.2)) p off (.slice (some ⟨g, 0, none⟩) m c) := by
  obtain rfl : m = fs.length := by
    rcases h.row.2 with ⟨e, _⟩ | ⟨_, _, _, e, _⟩
    · cases e
    · cases e; rfl
  have hne : g ≠ db := by
    rintro rfl
    obtain ⟨_, cur, hx⟩ := row_obj h.row (g := g) rfl
    rw [h.hd] at hx; injection hx with x; injection x with _ x; cases x
  obtain ⟨h1, h2⟩ := h.row.stored (i * 3 + 1) (.string s)
  refine ⟨(h2.block db h.lt (fun e => hne (by cases e; rfl))).trans h.hd, ?_⟩
  rw [fcells_set1 fs i hi s] at h1
  rw [List.length_set]
  exact h1
/-- a file's rest is set -/
theorem Dk.rest {w : World} {db base : Nat} {fs : List Fil} {p : Int} {off : Bool} {g m c : Nat} (h : Dk w db base fs p off (.slice (some ⟨g, 0, none⟩) m c)) {i : Nat} (hi : i < fs.length) (s : ByteArray) :
    Dk (w.setCell ⟨g, i * 3 + 2, none⟩ (.string s)) db base (fs.set i (fs[i].1, fs[i].2.1, s)) p off (.slice (some ⟨g, 0, none⟩) m c) := by
  obtain rfl : m = fs.length := by
    rcases h.row.2 with ⟨e, _⟩ | ⟨_, _, _, e, _⟩
    · cases e
    · cases e; rfl
  have hne : g ≠ db := by
    rintro rfl
    obtain ⟨_, cur, hx⟩ := row_obj h.row (g := g) rfl
    rw [h.hd] at hx; injection hx with x; injection x with _ x; cases x
  obtain ⟨h1, h2⟩ := h.row.stored (i * 3 + 2) (.string s)
  refine ⟨(h2.block db h.lt (fun e => hne (by cases e; rfl))).trans h.hd, ?_⟩
  rw [fcells_set2 fs i hi s] at h1
  rw [List.length_set]
  exact h1
theorem row_fro {w : World} {base : Nat} {e : TypeId} {size g m n cap : Nat} {xs : List Value} (h : w.ownsRow base e size (.slice (some ⟨g, 0, none⟩) m cap) n xs) (j : Nat) : w.frozen? ⟨g, j, none⟩ = false := by
  rcases h.2 with ⟨e1, _⟩ | ⟨g', cap', cur, e1, _, hg, _⟩
  · cases e1
  · cases e1
    simp [World.frozen?, hg]
/-- what Sync answers -/
def syncNo (fs : List Fil) (p : Int) (off : Bool) (k : ByteArray) : Int := if askNo fs off k ≠ 0 then askNo fs off k else if powOk p then 0 else 7
set_option maxRecDepth 100000 in
set_option maxHeartbeats 4000000 in
theorem dsync_ok {w : World} {db base : Nat} {fs : List Fil} {p : Int} {sv : Value} (h : Dk w db base fs p false sv) (k : ByteArray) (hn : fs.length < 4611686018427387904) (hp : -9223372036854775808 ≤ p ∧ p ≤ 9223372036854775807) {i : Nat} (hi : i < fs.length) (hx : fnum fs k = (i : Int)) (hpo : powOk p = true) (hsz : fs[i].2.1.size + fs[i].2.2.size ≤ 9223372036854775807) :
    Calls Tryz.prog 40 #[.pointer (some ⟨db, 0, none⟩), .string k] w fun e w' => e = .returned (.int .i64 0) ∧ Dk w' db base (fs.set i (fs[i].1, fs[i].2.1 ++ fs[i].2.2, ⟨#[]⟩)) (powOf p) false sv ∧ Ch (fun x => x = db ∨ sv.ownBlock = some x) w w' := by
  have hA := dasks_any h k hn
  have ha : askNo fs false k = 0 := by simp [askNo, hx]
  rw [ha, if_pos rfl, hx] at hA
  have hB := dact_any h hp
  rw [hpo] at hB
  clear ha hx
  obtain ⟨g, c, rfl⟩ : ∃ g c, sv = .slice (some ⟨g, 0, none⟩) fs.length c := by
    rcases h.row.2 with ⟨e, h0⟩ | ⟨g, cap', cur, e, -⟩
    · omega
    · exact ⟨g, cap', e⟩
  have hli : (i : Int) < (fs.length : Int) := by omega
  have hi0 : (0 : Int) ≤ (i : Int) := Int.natCast_nonneg _
  have hcat := fun W : World => run_string_add_sum (P := Tryz.prog) (w := W) fs[i].2.1 fs[i].2.2 hsz
  clear h
  go_enter Tryz.func40, Tryz.ntmps40
  go_wp2_with (first
    | (go_at_call 78; refine hA.mono ?_; rintro e w1 ⟨rfl, rfl⟩)
    | (go_at_call 56; (refine hB.mono ?_; rintro e w2 ⟨rfl, D2, C2⟩; have c0 := D2.c0; have m1 := row_cell D2.row (fcells_at fs i hi).2.1; have m2 := row_cell D2.row (fcells_at fs i hi).2.2; have fr := row_fro D2.row (i * 3 + 1); have D3 := D2.safe hi (fs[i].2.1 ++ fs[i].2.2); have d0 := D3.c0; have fr2 := row_fro D3.row (i * 3 + 2); have HD : Hid _ := And.intro D2 (And.intro C2 D3); clear D2 C2 D3)))
  go_region
  all_goals go_wp2
  all_goals
    go_ret
    obtain ⟨D2, C2, D3⟩ := HD.out
    have D4 := D3.rest (i := i) (by simpa using hi) ⟨#[]⟩
    simp only [List.getElem_set_self, List.set_set] at D4
    refine ⟨rfl, ⟨D4.hd, D4.row⟩, ?_⟩
    have C3 : Ch (fun x => x = db ∨ some g = some x) w2 ((w2.setCell ⟨g, i * 3 + 1, none⟩ (.string (fs[i].2.1 ++ fs[i].2.2))).setCell ⟨g, i * 3 + 2, none⟩ (.string ⟨#[]⟩)) := ((Ch.refl _ w2).setCell _ _ (fun _ => .inr rfl)).setCell _ _ (fun _ => .inr rfl)
    have C4 := (C2.mono (Y := fun x => x = db ∨ some g = some x) (fun k _ e => .inl e)).trans C3
    exact ⟨C4.os, C4.tape, C4.output, C4.size, C4.block⟩

set_option maxHeartbeats 2000000 in
theorem dsync_no {w : World} {db base : Nat} {fs : List Fil} {p : Int} {off : Bool} {sv : Value} (h : Dk w db base fs p off sv) (k : ByteArray) (hn : fs.length < 4611686018427387904) (hb : askNo fs off k ≠ 0) :
    Calls Tryz.prog 40 #[.pointer (some ⟨db, 0, none⟩), .string k] w fun e w' => e = .returned (.int .i64 (askNo fs off k)) ∧ w' = w := by
  have hA := dasks_any h k hn
  rw [if_neg hb] at hA
  clear h
  generalize askNo fs off k = z at *
  have hz : (z == 0) = false := by simpa using hb
  go_enter Tryz.func40, Tryz.ntmps40
  go_wp2_with (go_at_call 78; refine hA.mono ?_; rintro e w1 ⟨rfl, rfl⟩)
  go_ret
  exact ⟨rfl, rfl⟩

set_option maxHeartbeats 2000000 in
theorem dsync_off {w : World} {db base : Nat} {fs : List Fil} {sv : Value} (h : Dk w db base fs 0 false sv) (k : ByteArray) (hn : fs.length < 4611686018427387904) (hb : askNo fs false k = 0) :
    Calls Tryz.prog 40 #[.pointer (some ⟨db, 0, none⟩), .string k] w fun e w' => e = .returned (.int .i64 7) ∧ Dk w' db base fs 0 true sv ∧ Ch (fun x => x = db) w w' := by
  have hA := dasks_any h k hn
  rw [hb, if_pos rfl] at hA
  have hB := dact_any h (by decide)
  rw [show powOk 0 = false from rfl, show powOf 0 = 0 from rfl] at hB
  clear h
  generalize fnum fs k = z at *
  go_enter Tryz.func40, Tryz.ntmps40
  go_wp2_with (first
    | (go_at_call 78; refine hA.mono ?_; rintro e w1 ⟨rfl, rfl⟩)
    | (go_at_call 56; refine hB.mono ?_; rintro e w2 ⟨rfl, D2, C2⟩; have HD : Hid _ := And.intro D2 C2; clear D2 C2))
  go_ret
  exact ⟨rfl, HD.out.1, HD.out.2⟩

end Go.Proofs.YteifkkceldlfnaaGreatDoor
namespace Go.Proofs.YteifkkceldlfnaaGreatDoor
open Go.RowKit Go.Shelf Go.Sort
open Go.Lib hiding intOf

set_option maxHeartbeats 1000000 in
theorem dnew_any (w : World) : Calls Tryz.prog 8 #[] w fun e w' => e = .returned (.pointer (some ⟨w.heap.size, 0, none⟩)) ∧ Dk w' w.heap.size w.heap.size [] (-1) false (.slice none 0 0) ∧ Below w.heap.size w w' := by
  go_enter Tryz.func8, Tryz.ntmps8
  go_wp2
  go_ret
  exact ⟨rfl, ⟨heap_alloc_new w _, World.ownsRow_nil _ _ _ _⟩, (Below.refl _ w).alloc (Nat.le_refl _) _⟩

/-- power for so many acts more; below 0: for any number -/
def powSet (a : Int) : Int := if a < 0 then -1 else a
set_option maxHeartbeats 2000000 in
theorem dpower_any {w : World} {db base : Nat} {fs : List Fil} {p : Int} {off : Bool} {sv : Value} (h : Dk w db base fs p off sv) (a : Int) :
    Calls Tryz.prog 23 #[.pointer (some ⟨db, 0, none⟩), .int .i64 a] w fun e w' => (∃ v, e = .returned v) ∧ Dk w' db base fs (powSet a) off sv ∧ Ch (fun k => k = db) w w' := by
  have c1 := h.c1
  have f1 := h.fro 1
  have D1 := h.set1 a
  have e1 := D1.c1
  have g1 := D1.fro 1
  have H : Hid _ := And.intro h D1
  clear h D1
  by_cases ha : a < 0
  · have hs : powSet a = -1 := if_pos ha
    go_enter Tryz.func23, Tryz.ntmps23
    go_wp2
    go_end0
    refine ⟨⟨_, rfl⟩, ?_, ((Ch.refl (fun k => k = db) w).setCell ⟨db, 1, none⟩ _ (fun _ => rfl)).setCell ⟨db, 1, none⟩ _ (fun _ => rfl)⟩
    first | rw [hs] | skip
    exact H.out.2.set1 (-1)
  · have hs : powSet a = a := if_neg ha
    go_enter Tryz.func23, Tryz.ntmps23
    go_wp2
    go_end0
    refine ⟨⟨_, rfl⟩, ?_, (Ch.refl (fun k => k = db) w).setCell ⟨db, 1, none⟩ _ (fun _ => rfl)⟩
    first | rw [hs] | skip
    exact H.out.2
end Go.Proofs.YteifkkceldlfnaaGreatDoor
namespace Go.Proofs.YteifkkceldlfnaaGreatDoor
open Go.RowKit Go.Shelf Go.Sort
open Go.Lib hiding intOf
variable {V U : Type}

theorem rise_cons {x : ByteArray × V} {r : List (ByteArray × V)} : Rise (x :: r) ↔ (∀ e ∈ r, lt x.1 e.1 = true) ∧ Rise r := List.pairwise_cons
theorem has_cons_lt {y : ByteArray × V} {es : List (ByteArray × V)} {k : ByteArray} (h : lt y.1 k = true) : has (y :: es) k = has es k := by
  have hp : pos (y :: es) k = pos es k + 1 := by simp [pos, h]
  simp [has, hp]
theorem pos_cons_lt {y : ByteArray × V} {es : List (ByteArray × V)} {k : ByteArray} (h : lt y.1 k = true) : pos (y :: es) k = pos es k + 1 := by simp [pos, h]
theorem pos_cons_ge {y : ByteArray × V} {es : List (ByteArray × V)} {k : ByteArray} (h : lt y.1 k = false) : pos (y :: es) k = 0 := by simp [pos, h]
theorem has_cons_eq {y : ByteArray × V} {es : List (ByteArray × V)} : has (y :: es) y.1 = true := by
  have hp : pos (y :: es) y.1 = 0 := pos_cons_ge (lt_irrefl _)
  simp [has, hp]
theorem has_cons_gt {y : ByteArray × V} {es : List (ByteArray × V)} {k : ByteArray} (h : lt k y.1 = true) : has (y :: es) k = false := by
  have hp : pos (y :: es) k = 0 := pos_cons_ge (lt_asymm h)
  have hne : y.1 ≠ k := by rintro rfl; rw [lt_irrefl] at h; cases h
  simp only [has, hp, List.getElem?_cons_zero, beq_eq_false_iff_ne]
  intro e
  exact hne (key_ext (by simpa [Lib.toList_data] using e))
theorem put_nil (k : ByteArray) (v : V) : put [] k v = [(k, v)] := by simp [put, has, pos]
theorem put_cons_lt {y : ByteArray × V} {es : List (ByteArray × V)} {k : ByteArray} {v : V} (h : lt y.1 k = true) : put (y :: es) k v = y :: put es k v := by
  simp only [put, has_cons_lt h, pos_cons_lt h]
  split <;> simp
theorem put_cons_eq {y : ByteArray × V} {es : List (ByteArray × V)} {v : V} : put (y :: es) y.1 v = (y.1, v) :: es := by
  simp [put, has_cons_eq, pos_cons_ge (es := es) (lt_irrefl y.1)]
theorem put_cons_gt {y : ByteArray × V} {es : List (ByteArray × V)} {k : ByteArray} {v : V} (h : lt k y.1 = true) : put (y :: es) k v = (k, v) :: y :: es := by
  simp [put, has_cons_gt h, pos_cons_ge (es := es) (lt_asymm h)]
theorem del_cons_lt {y : ByteArray × V} {es : List (ByteArray × V)} {k : ByteArray} (h : lt y.1 k = true) : del (y :: es) k = y :: del es k := by
  simp only [del, has_cons_lt h, pos_cons_lt h]
  split <;> simp
theorem del_cons_eq {y : ByteArray × V} {es : List (ByteArray × V)} : del (y :: es) y.1 = es := by
  simp [del, has_cons_eq, pos_cons_ge (es := es) (lt_irrefl y.1)]
theorem del_cons_gt {y : ByteArray × V} {es : List (ByteArray × V)} {k : ByteArray} (h : lt k y.1 = true) : del (y :: es) k = y :: es := by
  simp [del, has_cons_gt h]
/-- of two keys one is less, or they are one -/
theorem lt_three (a b : ByteArray) : lt a b = true ∨ a = b ∨ lt b a = true := by
  cases h : lt a b with
  | true => exact .inl rfl
  | false =>
    cases h' : lt b a with
    | true => exact .inr (.inr rfl)
    | false => exact .inr (.inl (lt_total h h'))
theorem rise_ne {x : ByteArray × V} {r : List (ByteArray × V)} (h : Rise (x :: r)) {e : ByteArray × V} (he : e ∈ r) : e.1 ≠ x.1 := by
  intro e1
  have := (rise_cons.1 h).1 e he
  rw [e1, lt_irrefl] at this
  cases this
theorem mem_put {es : List (ByteArray × V)} (hs : Rise es) (k : ByteArray) (v : V) (e : ByteArray × V) : e ∈ put es k v ↔ e = (k, v) ∨ (e ∈ es ∧ e.1 ≠ k) := by
  induction es with
  | nil => simp [put_nil]
  | cons y r ih =>
    rcases lt_three y.1 k with h | h | h
    · have hne : y.1 ≠ k := by rintro rfl; rw [lt_irrefl] at h; cases h
      rw [put_cons_lt h, List.mem_cons, ih hs.tail, List.mem_cons]
      constructor
      · rintro (rfl | h1 | ⟨h1, h2⟩)
        · exact .inr ⟨.inl rfl, hne⟩
        · exact .inl h1
        · exact .inr ⟨.inr h1, h2⟩
      · rintro (h1 | ⟨rfl | h1, h2⟩)
        · exact .inr (.inl h1)
        · exact .inl rfl
        · exact .inr (.inr ⟨h1, h2⟩)
    · subst h
      rw [put_cons_eq, List.mem_cons, List.mem_cons]
      constructor
      · rintro (h1 | h1)
        · exact .inl h1
        · exact .inr ⟨.inr h1, rise_ne hs h1⟩
      · rintro (h1 | ⟨rfl | h1, h2⟩)
        · exact .inl h1
        · exact absurd rfl h2
        · exact .inr h1
    · rw [put_cons_gt h, List.mem_cons]
      constructor
      · rintro (h1 | h1)
        · exact .inl h1
        · refine .inr ⟨h1, ?_⟩
          rintro rfl
          rcases List.mem_cons.1 h1 with rfl | h1
          · rw [lt_irrefl] at h; cases h
          · have := (rise_cons.1 hs).1 e h1
            rw [lt_asymm h] at this; cases this
      · rintro (h1 | ⟨h1, _⟩)
        · exact .inl h1
        · exact .inr h1
theorem mem_del {es : List (ByteArray × V)} (hs : Rise es) (k : ByteArray) (e : ByteArray × V) : e ∈ del es k ↔ e ∈ es ∧ e.1 ≠ k := by
  induction es with
  | nil => simp [del, has]
  | cons y r ih =>
    rcases lt_three y.1 k with h | h | h
    · have hne : y.1 ≠ k := by rintro rfl; rw [lt_irrefl] at h; cases h
      rw [del_cons_lt h, List.mem_cons, ih hs.tail, List.mem_cons]
      constructor
      · rintro (rfl | ⟨h1, h2⟩)
        · exact ⟨.inl rfl, hne⟩
        · exact ⟨.inr h1, h2⟩
      · rintro ⟨rfl | h1, h2⟩
        · exact .inl rfl
        · exact .inr ⟨h1, h2⟩
    · subst h
      rw [del_cons_eq, List.mem_cons]
      constructor
      · intro h1; exact ⟨.inr h1, rise_ne hs h1⟩
      · rintro ⟨rfl | h1, h2⟩
        · exact absurd rfl h2
        · exact h1
    · rw [del_cons_gt h]
      constructor
      · intro h1
        refine ⟨h1, ?_⟩
        rintro rfl
        rcases List.mem_cons.1 h1 with rfl | h1
        · rw [lt_irrefl] at h; cases h
        · have := (rise_cons.1 hs).1 e h1
          rw [lt_asymm h] at this; cases this
      · exact fun h1 => h1.1
/-- the key is there: its entry -/
theorem has_mem {es : List (ByteArray × V)} {k : ByteArray} (h : has es k = true) : ∃ v, (k, v) ∈ es := by
  obtain ⟨hp, hk⟩ := has_lt h
  have h1 : es[pos es k] ∈ es := List.getElem_mem hp
  generalize es[pos es k] = x at *
  exact ⟨x.2, by rw [← hk]; exact h1⟩
theorem mem_has {es : List (ByteArray × V)} (hs : Rise es) {e : ByteArray × V} (h : e ∈ es) : has es e.1 = true := by
  induction es with
  | nil => cases h
  | cons y r ih =>
    rcases List.mem_cons.1 h with rfl | h
    · exact has_cons_eq
    · rw [has_cons_lt ((rise_cons.1 hs).1 e h)]
      exact ih hs.tail h
theorem has_iff {es : List (ByteArray × V)} (hs : Rise es) (k : ByteArray) : has es k = true ↔ ∃ v, (k, v) ∈ es := ⟨has_mem, fun ⟨_, h⟩ => mem_has hs h⟩
theorem rise_inj {es : List (ByteArray × V)} (hs : Rise es) {a b : ByteArray × V} (ha : a ∈ es) (hb : b ∈ es) (h : a.1 = b.1) : a = b := by
  induction es with
  | nil => cases ha
  | cons y r ih =>
    rcases List.mem_cons.1 ha with ha' | ha' <;> rcases List.mem_cons.1 hb with hb' | hb'
    · rw [ha', hb']
    · subst ha'; exact absurd h.symm (rise_ne hs hb')
    · subst hb'; exact absurd h (rise_ne hs ha')
    · exact ih hs.tail ha' hb'
theorem put_same {es : List (ByteArray × V)} {k : ByteArray} {v : V} (hs : Rise es) (h : (k, v) ∈ es) : put es k v = es := by
  induction es with
  | nil => cases h
  | cons y r ih =>
    rcases List.mem_cons.1 h with rfl | h
    · exact put_cons_eq
    · rw [put_cons_lt ((rise_cons.1 hs).1 _ h), ih hs.tail h]
/-- a key that is there: its place -/
theorem put_at {es : List (ByteArray × V)} (hs : Rise es) {i : Nat} (hi : i < es.length) (v : V) : put es es[i].1 v = es.set i (es[i].1, v) := by
  induction es generalizing i with
  | nil => simp at hi
  | cons y r ih =>
    cases i with
    | zero => exact put_cons_eq
    | succ j =>
      have hj : j < r.length := by simpa using hi
      simp only [List.getElem_cons_succ, List.set_cons_succ]
      rw [put_cons_lt ((rise_cons.1 hs).1 _ (List.getElem_mem hj)), ih hs.tail hj]
theorem del_at {es : List (ByteArray × V)} (hs : Rise es) {i : Nat} (hi : i < es.length) : del es es[i].1 = es.eraseIdx i := by
  induction es generalizing i with
  | nil => simp at hi
  | cons y r ih =>
    cases i with
    | zero => exact del_cons_eq
    | succ j =>
      have hj : j < r.length := by simpa using hi
      simp only [List.getElem_cons_succ, List.eraseIdx_cons_succ]
      rw [del_cons_lt ((rise_cons.1 hs).1 _ (List.getElem_mem hj)), ih hs.tail hj]
/-- where a name stands, by the entries -/
theorem fidx_has {fs : List Fil} (hs : Rise fs) (k : ByteArray) : fidx fs k = if has fs k then some (pos fs k) else none := by
  induction fs with
  | nil => simp [fidx, has]
  | cons y r ih =>
    have ih := ih hs.tail
    unfold fidx at ih ⊢
    rw [List.findIdx?_cons]
    rcases lt_three y.1 k with h | h | h
    · have hne : (y.1.toList == k.toList) = false := by
        rw [beq_eq_false_iff_ne]; intro e
        have : y.1 = k := key_ext (by simpa [Lib.toList_data] using e)
        subst this; rw [lt_irrefl] at h; cases h
      rw [has_cons_lt h, pos_cons_lt h, hne, ih]
      cases has r k <;> simp
    · subst h
      rw [has_cons_eq, pos_cons_ge (lt_irrefl _)]
      simp
    · have hne : (y.1.toList == k.toList) = false := by
        rw [beq_eq_false_iff_ne]; intro e
        have : y.1 = k := key_ext (by simpa [Lib.toList_data] using e)
        subst this; rw [lt_irrefl] at h; cases h
      have hr : has r k = false := by
        cases hh : has r k with
        | false => rfl
        | true =>
          obtain ⟨v, hv⟩ := has_mem hh
          have := (rise_cons.1 hs).1 _ hv
          rw [lt_asymm h] at this; cases this
      rw [has_cons_gt h, hne, ih, hr]
      simp

/-- the same entries with other values -/
def vals (φ : V → U) (es : List (ByteArray × V)) : List (ByteArray × U) := es.map fun e => (e.1, φ e.2)
theorem vals_cons (φ : V → U) (e : ByteArray × V) (es : List (ByteArray × V)) : vals φ (e :: es) = (e.1, φ e.2) :: vals φ es := rfl
theorem vals_len (φ : V → U) (es : List (ByteArray × V)) : (vals φ es).length = es.length := by simp [vals]
theorem vals_has (φ : V → U) (es : List (ByteArray × V)) (k : ByteArray) : has (vals φ es) k = has es k ∧ pos (vals φ es) k = pos es k := by
  induction es with
  | nil => exact ⟨rfl, rfl⟩
  | cons y r ih =>
    rw [vals_cons]
    rcases lt_three y.1 k with h | h | h
    · rw [has_cons_lt h, has_cons_lt (y := (y.1, φ y.2)) h, pos_cons_lt h, pos_cons_lt (y := (y.1, φ y.2)) h, ih.1, ih.2]; exact ⟨rfl, rfl⟩
    · subst h
      exact ⟨(has_cons_eq (y := (y.1, φ y.2))).trans has_cons_eq.symm, (pos_cons_ge (y := (y.1, φ y.2)) (lt_irrefl _)).trans (pos_cons_ge (lt_irrefl _)).symm⟩
    · rw [has_cons_gt h, has_cons_gt (y := (y.1, φ y.2)) h, pos_cons_ge (lt_asymm h), pos_cons_ge (y := (y.1, φ y.2)) (lt_asymm h)]; exact ⟨rfl, rfl⟩
theorem vals_put (φ : V → U) (es : List (ByteArray × V)) (k : ByteArray) (v : V) : vals φ (put es k v) = put (vals φ es) k (φ v) := by
  induction es with
  | nil => simp [put_nil, vals]
  | cons y r ih =>
    rcases lt_three y.1 k with h | h | h
    · rw [put_cons_lt h, vals_cons, vals_cons, put_cons_lt (y := (y.1, φ y.2)) h, ih]
    · subst h
      rw [put_cons_eq, vals_cons, vals_cons, put_cons_eq (y := (y.1, φ y.2))]
    · rw [put_cons_gt h, vals_cons, vals_cons, put_cons_gt (y := (y.1, φ y.2)) h]
theorem vals_del (φ : V → U) (es : List (ByteArray × V)) (k : ByteArray) : vals φ (del es k) = del (vals φ es) k := by
  induction es with
  | nil => rfl
  | cons y r ih =>
    rcases lt_three y.1 k with h | h | h
    · rw [del_cons_lt h, vals_cons, vals_cons, del_cons_lt (y := (y.1, φ y.2)) h, ih]
    · subst h
      rw [del_cons_eq, vals_cons, del_cons_eq (y := (y.1, φ y.2))]
    · rw [del_cons_gt h, vals_cons, del_cons_gt (y := (y.1, φ y.2)) h]
theorem vals_rise (φ : V → U) (es : List (ByteArray × V)) : Rise (vals φ es) ↔ Rise es := by
  unfold Rise vals
  rw [List.pairwise_map]

/-- the entries of a map as it is read -/
def ents (φ : V → DataW Unit) (es : List (ByteArray × V)) : List (Lit × DataW Unit) := es.map fun e => (.string e.1.data.toList, φ e.2)
theorem ents_cons (φ : V → DataW Unit) (e : ByteArray × V) (es : List (ByteArray × V)) : ents φ (e :: es) = (.string e.1.data.toList, φ e.2) :: ents φ es := rfl
theorem ents_len (φ : V → DataW Unit) (es : List (ByteArray × V)) : (ents φ es).length = es.length := by simp [ents]
theorem same_str (a k : ByteArray) : (Lit.string a.data.toList).sameKey (.string k.data.toList) = true ↔ a = k := by
  simp only [Lit.sameKey, beq_iff_eq]
  exact ⟨key_ext, fun h => by rw [h]⟩
theorem same_no {a k : ByteArray} (h : a ≠ k) : (Lit.string a.data.toList).sameKey (.string k.data.toList) = false := by
  rw [← Bool.not_eq_true, same_str]; exact h
theorem before_lt : ∀ (a b : List UInt8), bytesBefore a b = decide (a < b)
  | [], [] => by simp [bytesBefore]
  | [], _ :: _ => by simp [bytesBefore]
  | _ :: _, [] => by simp [bytesBefore]
  | x :: r, y :: s => by
    rw [bytesBefore, before_lt r s]
    have e : (x == y) = decide (x = y) := by
      by_cases h : x = y <;> simp [h]
    rw [e]
    simp [List.cons_lt_cons_iff]
theorem before_str (a b : ByteArray) : (Lit.string a.data.toList).before (.string b.data.toList) = lt a b := by
  simp only [Lit.before, before_lt]
  cases h : lt a b with
  | true => simpa using (lt_iff a b).1 h
  | false =>
    rw [decide_eq_false_iff_not]
    intro h'
    rw [(lt_iff a b).2 h'] at h; cases h
theorem ents_keep (φ : V → DataW Unit) (es : List (ByteArray × V)) (k : ByteArray) (h : ∀ e ∈ es, e.1 ≠ k) : (ents φ es).filter (fun p => !p.1.sameKey (.string k.data.toList)) = ents φ es := by
  rw [List.filter_eq_self]
  intro p hp
  obtain ⟨e, he, rfl⟩ := List.mem_map.1 hp
  simp [same_no (h e he)]
theorem above_ne {y : ByteArray × V} {r : List (ByteArray × V)} {k : ByteArray} (hs : Rise (y :: r)) (h : lt k y.1 = true) : ∀ e ∈ y :: r, e.1 ≠ k := by
  intro e he e1
  subst e1
  rcases List.mem_cons.1 he with rfl | he
  · rw [lt_irrefl] at h; cases h
  · have := (rise_cons.1 hs).1 e he
    rw [lt_asymm h] at this; cases this
theorem ents_put (φ : V → DataW Unit) {es : List (ByteArray × V)} (hs : Rise es) (k : ByteArray) (v : V) : (DataW.map (ents φ es)).put (.string k.data.toList) (φ v) = .map (ents φ (put es k v)) := by
  show DataW.map (DataW.insert (.string k.data.toList, φ v) ((ents φ es).filter fun p => !p.1.sameKey (.string k.data.toList))) = _
  congr 1
  induction es with
  | nil => simp [ents, put_nil, DataW.insert]
  | cons y r ih =>
    have ih := ih hs.tail
    rcases lt_three y.1 k with h | h | h
    · have hne : y.1 ≠ k := by rintro rfl; rw [lt_irrefl] at h; cases h
      rw [put_cons_lt h, ents_cons, ents_cons, List.filter_cons, same_no hne]
      simp only [Bool.not_false, if_true]
      rw [DataW.insert, before_str, lt_asymm h]
      simp only [Bool.false_eq_true, if_false]
      rw [ih]
    · subst h
      rw [put_cons_eq, ents_cons, ents_cons, List.filter_cons, (same_str y.1 y.1).2 rfl]
      simp only [Bool.not_true, Bool.false_eq_true, if_false]
      rw [ents_keep φ r y.1 (fun e he => rise_ne hs he)]
      cases r with
      | nil => rfl
      | cons z s => rw [ents_cons, DataW.insert, before_str, (rise_cons.1 hs).1 z (by simp)]; rfl
    · rw [put_cons_gt h, ents_keep φ (y :: r) k (above_ne hs h), ents_cons, DataW.insert, before_str, h]
      rfl
theorem ents_del (φ : V → DataW Unit) {es : List (ByteArray × V)} (hs : Rise es) (k : ByteArray) : (DataW.map (ents φ es)).del (.string k.data.toList) = .map (ents φ (del es k)) := by
  show DataW.map ((ents φ es).filter fun p => !p.1.sameKey (.string k.data.toList)) = _
  congr 1
  induction es with
  | nil => rfl
  | cons y r ih =>
    have ih := ih hs.tail
    rcases lt_three y.1 k with h | h | h
    · have hne : y.1 ≠ k := by rintro rfl; rw [lt_irrefl] at h; cases h
      rw [del_cons_lt h, ents_cons, ents_cons, List.filter_cons, same_no hne]
      simp only [Bool.not_false, if_true]
      rw [ih]
    · subst h
      rw [del_cons_eq, ents_cons, List.filter_cons, (same_str y.1 y.1).2 rfl]
      simp only [Bool.not_true, Bool.false_eq_true, if_false]
      exact ents_keep φ r y.1 (fun e he => rise_ne hs he)
    · rw [del_cons_gt h]
      exact ents_keep φ (y :: r) k (above_ne hs h)
theorem ents_has (φ : V → DataW Unit) {es : List (ByteArray × V)} (hs : Rise es) (k : ByteArray) : Maps.has (DataW.map (ents φ es)) (.string k.data.toList) = has es k := by
  rw [Maps.has_eq]
  cases h : has es k with
  | true =>
    obtain ⟨v, hv⟩ := has_mem h
    rw [List.any_eq_true]
    exact ⟨_, List.mem_map.2 ⟨_, hv, rfl⟩, (same_str k k).2 rfl⟩
  | false =>
    rw [List.any_eq_false]
    intro p hp
    obtain ⟨e, he, rfl⟩ := List.mem_map.1 hp
    intro h1
    have := (same_str _ _).1 h1
    subst this
    rw [mem_has hs he] at h; cases h
theorem ents_at (φ : V → DataW Unit) {es : List (ByteArray × V)} (hs : Rise es) {k : ByteArray} {v : V} (h : (k, v) ∈ es) (z : DataW Unit) : (DataW.map (ents φ es)).atKey (.string k.data.toList) z = φ v := by
  unfold DataW.atKey
  simp only
  have : (ents φ es).find? (fun p => p.1.sameKey (.string k.data.toList)) = some (.string k.data.toList, φ v) := by
    induction es with
    | nil => cases h
    | cons y r ih =>
      rw [ents_cons, List.find?_cons]
      rcases List.mem_cons.1 h with rfl | h
      · rw [(same_str k k).2 rfl]
      · rw [same_no (fun e => rise_ne hs h e.symm)]
        exact ih hs.tail h
  rw [this]
theorem ents_no (φ : V → DataW Unit) {es : List (ByteArray × V)} (hs : Rise es) {k : ByteArray} (h : has es k = false) (z : DataW Unit) : (DataW.map (ents φ es)).atKey (.string k.data.toList) z = z := by
  unfold DataW.atKey
  simp only
  have : (ents φ es).find? (fun p => p.1.sameKey (.string k.data.toList)) = none := by
    rw [List.find?_eq_none]
    intro p hp
    obtain ⟨e, he, rfl⟩ := List.mem_map.1 hp
    intro h1
    have := (same_str _ _).1 h1
    subst this
    rw [mem_has hs he] at h; cases h
  rw [this]
end Go.Proofs.YteifkkceldlfnaaGreatDoor
namespace Go.Proofs.YteifkkceldlfnaaGreatDoor
open Go.RowKit Go.Shelf Go.Sort
open Go.Lib hiding intOf

/-- a file: its safe bytes, its rest, its block, its slice -/
structure Lv where
  safe : ByteArray
  rest : ByteArray
  g : Nat
  bv : Value
abbrev Le := ByteArray × Lv
def Lv.all (v : Lv) : ByteArray := v.safe ++ v.rest
def sr (v : Lv) : ByteArray × ByteArray := (v.safe, v.rest)
/-- the files as the document has them -/
def fil (es : List Le) : List Fil := vals sr es
/-- a file's block as a datum -/
def dg (v : Lv) : DataW Unit := .lit (.int .i64 (v.g : Int))
/-- how a pointer to a file is read -/
def rdF : Value → Option (DataW Unit × List MemPlace)
  | .pointer (some ⟨g, 0, none⟩) => some (.lit (.int .i64 (g : Int)), [])
  | .pointer none => some (.nil, [])
  | _ => none
theorem rdF_ptr (g : Nat) : rdF (.pointer (some ⟨g, 0, none⟩)) = some (.lit (.int .i64 (g : Int)), []) := rfl
theorem rdF_inv {v : Value} {g : Nat} {ps : List MemPlace} (h : rdF v = some (.lit (.int .i64 (g : Int)), ps)) : v = .pointer (some ⟨g, 0, none⟩) := by
  unfold rdF at h
  split at h
  · rename_i g'
    simp only [Option.some.injEq, Prod.mk.injEq, DataW.lit.injEq, Lit.int.injEq, true_and] at h
    have : g' = g := by omega
    rw [this]
  · simp at h
  · cases h
theorem rdF_nil {v : Value} {ps : List MemPlace} (h : rdF v = some (.nil, ps)) : v = .pointer none := by
  unfold rdF at h
  split at h
  · simp at h
  · rfl
  · cases h

/-- a file in memory -/
structure Fw (w : World) (B : Nat) (v : Lv) : Prop where
  hd : w.heap[v.g]? = some (.cells #[v.bv, .int .i64 (v.safe.size : Int)] 118 (0, 0))
  row : w.ownsRow B 5 1 v.bv v.all.size (strCells v.all)
  low : B ≤ v.g
theorem Fw.c0 {w : World} {B : Nat} {v : Lv} (h : Fw w B v) : w.cell? ⟨v.g, 0, none⟩ = some v.bv := by simp [World.cell?, h.hd]
theorem Fw.c1 {w : World} {B : Nat} {v : Lv} (h : Fw w B v) : w.cell? ⟨v.g, 1, none⟩ = some (.int .i64 (v.safe.size : Int)) := by simp [World.cell?, h.hd]
theorem Fw.fro {w : World} {B : Nat} {v : Lv} (h : Fw w B v) (j : Nat) : w.frozen? ⟨v.g, j, none⟩ = false := by simp [World.frozen?, h.hd]
theorem Fw.lt {w : World} {B : Nat} {v : Lv} (h : Fw w B v) : v.g < w.heap.size := (Array.getElem?_eq_some_iff.1 h.hd).1
theorem row_lt {w : World} {base : Nat} {e : TypeId} {size : Nat} {v : Value} {n : Nat} {xs : List Value} (h : w.ownsRow base e size v n xs) {x : Nat} (hx : v.ownBlock = some x) : x < w.heap.size := by
  obtain ⟨_, cur, hc⟩ := row_obj h hx
  exact (Array.getElem?_eq_some_iff.1 hc).1
/-- what a file takes of memory -/
def Lv.at (v : Lv) (x : Nat) : Prop := x = v.g ∨ v.bv.ownBlock = some x
theorem Fw.ch {w w' : World} {B : Nat} {v : Lv} {X : Nat → Prop} (h : Fw w B v) (hc : Ch X w w') (hX : ∀ x, v.at x → ¬ X x) : Fw w' B v :=
  ⟨hc.obj h.hd (hX _ (.inl rfl)), hc.row h.row (fun k hk => hX k (.inr hk)), h.low⟩
theorem Fw.at_lt {w : World} {B : Nat} {v : Lv} (h : Fw w B v) {x : Nat} (hx : v.at x) : x < w.heap.size ∧ B ≤ x := by
  rcases hx with rfl | hx
  · exact ⟨h.lt, h.low⟩
  · exact ⟨row_lt h.row hx, (row_obj h.row hx).1⟩
/-- what kind of block each is -/
theorem Fw.kind {w : World} {B : Nat} {v : Lv} (h : Fw w B v) {x : Nat} (hx : v.at x) : ∃ cur t, w.heap[x]? = some (.cells cur t (0, 0)) ∧ (t = 118 ∨ t = 5) := by
  rcases hx with rfl | hx
  · exact ⟨_, _, h.hd, .inl rfl⟩
  · obtain ⟨_, cur, hc⟩ := row_obj h.row hx
    exact ⟨_, _, hc, .inr rfl⟩

/-- two files share no memory -/
def Apart (a b : Lv) : Prop := a.g ≠ b.g ∧ ∀ x, a.bv.ownBlock = some x → b.bv.ownBlock ≠ some x
/-- the disk in block d -/
structure Ld (w : World) (B d : Nat) (es : List Le) (p : Int) (off : Bool) (mo : Option Nat) : Prop where
  hd : w.heap[d]? = some (.cells #[.map mo, .bool (decide (0 ≤ p)), .int .i64 (max p 0), .bool off] 72 (0, 0))
  mp : ∀ mb, mo = some mb → w.ownsMap Tryz.prog 9 rdF mb es.length (.map (ents dg es))
  mn : mo = none → es = []
  fw : ∀ e ∈ es, Fw w B e.2
  apart : ∀ a ∈ es, ∀ b ∈ es, a.1 ≠ b.1 → Apart a.2 b.2
  rise : Rise es
  low : B ≤ d ∧ ∀ mb, mo = some mb → B ≤ mb
  few : es.length ≤ 256
  small : ∀ e ∈ es, e.1.size ≤ 32 ∧ e.2.all.size ≤ 1048576
  pw : -1 ≤ p ∧ p ≤ 9223372036854775807
/-- what the disk takes of memory -/
def foot (d : Nat) (mo : Option Nat) (es : List Le) (x : Nat) : Prop := x = d ∨ mo = some x ∨ ∃ e ∈ es, e.2.at x

variable {w w' : World} {B d : Nat} {es : List Le} {p : Int} {off : Bool} {mo : Option Nat}
theorem Ld.c0 (h : Ld w B d es p off mo) : w.cell? ⟨d, 0, none⟩ = some (.map mo) := by simp [World.cell?, h.hd]
theorem Ld.c1 (h : Ld w B d es p off mo) : w.cell? ⟨d, 1, none⟩ = some (.bool (decide (0 ≤ p))) := by simp [World.cell?, h.hd]
theorem Ld.c2 (h : Ld w B d es p off mo) : w.cell? ⟨d, 2, none⟩ = some (.int .i64 (max p 0)) := by simp [World.cell?, h.hd]
theorem Ld.c3 (h : Ld w B d es p off mo) : w.cell? ⟨d, 3, none⟩ = some (.bool off) := by simp [World.cell?, h.hd]
theorem Ld.fro (h : Ld w B d es p off mo) (j : Nat) : w.frozen? ⟨d, j, none⟩ = false := by simp [World.frozen?, h.hd]
theorem Ld.lt (h : Ld w B d es p off mo) : d < w.heap.size := (Array.getElem?_eq_some_iff.1 h.hd).1
theorem Ld.foot_lt (h : Ld w B d es p off mo) {x : Nat} (hx : foot d mo es x) : x < w.heap.size ∧ B ≤ x := by
  rcases hx with rfl | hx | ⟨e, he, hx⟩
  · exact ⟨h.lt, h.low.1⟩
  · exact ⟨(h.mp x hx).lt, h.low.2 x hx⟩
  · exact (h.fw e he).at_lt hx
theorem Ld.ch (h : Ld w B d es p off mo) {X : Nat → Prop} (hc : Ch X w w') (hX : ∀ x, foot d mo es x → ¬ X x) : Ld w' B d es p off mo where
  hd := hc.obj h.hd (hX _ (.inl rfl))
  mp mb e := by
    obtain ⟨es, clock, hb, r⟩ := h.mp mb e
    exact ⟨es, clock, hc.obj hb (hX mb (.inr (.inl e))), r⟩
  mn := h.mn
  fw e he := (h.fw e he).ch hc (fun x hx => hX x (.inr (.inr ⟨e, he, hx⟩)))
  apart := h.apart
  rise := h.rise
  low := h.low
  few := h.few
  small := h.small
  pw := h.pw
theorem Ld.below (h : Ld w B d es p off mo) (hb : Below w.heap.size w w') : Ld w' B d es p off mo :=
  h.ch (X := fun _ => False) (Ch.of_below hb) (fun _ _ => id)
/-- which kind each block is -/
theorem Ld.kind (h : Ld w B d es p off mo) {x : Nat} (hx : foot d mo es x) : (∃ a c, w.heap[x]? = some (.map a c)) ∨ ∃ cur t, w.heap[x]? = some (.cells cur t (0, 0)) ∧ (t = 72 ∨ t = 118 ∨ t = 5) := by
  rcases hx with rfl | hx | ⟨e, he, hx⟩
  · exact .inr ⟨_, _, h.hd, .inl rfl⟩
  · obtain ⟨a, c, hb, _⟩ := h.mp x hx
    exact .inl ⟨a, c, hb⟩
  · obtain ⟨cur, t, h1, h2⟩ := (h.fw e he).kind hx
    exact .inr ⟨cur, t, h1, .inr h2⟩
/-- the document's disk is no part of it -/
theorem Dk.ch {db base : Nat} {fs : List Fil} {q : Int} {o : Bool} {sv : Value} (h : Dk w db base fs q o sv) {X : Nat → Prop} (hc : Ch X w w') (hX : ∀ x, (x = db ∨ sv.ownBlock = some x) → ¬ X x) : Dk w' db base fs q o sv :=
  ⟨hc.obj h.hd (hX _ (.inl rfl)), hc.row h.row (fun k hk => hX k (.inr hk))⟩
theorem Ld.not_dk (h : Ld w B d es p off mo) {db base : Nat} {fs : List Fil} {q : Int} {o : Bool} {sv : Value} (hk : Dk w db base fs q o sv) {x : Nat} (hx : x = db ∨ sv.ownBlock = some x) : ¬ foot d mo es x := by
  intro hf
  have hd : ∃ cur t, w.heap[x]? = some (.cells cur t (0, 0)) ∧ (t = 75 ∨ t = 89) := by
    rcases hx with rfl | hx
    · exact ⟨_, _, hk.hd, .inl rfl⟩
    · obtain ⟨_, cur, hc⟩ := row_obj hk.row hx
      exact ⟨_, _, hc, .inr rfl⟩
  obtain ⟨cur, t, h1, h2⟩ := hd
  rcases h.kind hf with ⟨a, c, h3⟩ | ⟨cur', t', h3, h4⟩
  · rw [h1] at h3; cases h3
  · rw [h1] at h3
    injection h3 with h3
    injection h3 with _ h3
    subst h3
    rcases h2 with rfl | rfl <;> rcases h4 with h4 | h4 | h4 <;> cases h4

/-! ### the map -/
theorem strKey : Maps.Keyed Tryz.prog 9 := Maps.string_keyed Tryz.underlying9
theorem keyIs {k : ByteArray} (hk : k.size ≤ 9223372036854775807) : keyOf Tryz.prog 9 (.string k) = some (.string k.data.toList) := WideMaps.keyOf_string_mk Tryz.underlying9 (by unfold maxLen; exact hk)
theorem Ld.look (h : Ld w B d es p off mo) {k : ByteArray} {v : Lv} (hk : (k, v) ∈ es) :
    (Instr.lookup 70 (.map mo) (.string k) true).run Tryz.prog w = .ok (.tuple #[.pointer (some ⟨v.g, 0, none⟩), .bool true]) w := by
  cases mo with
  | none => rw [h.mn rfl] at hk; cases hk
  | some mb =>
    obtain ⟨u, ps, hrun, hR⟩ := (h.mp mb rfl).look_ok strKey Tryz.underlying70 (Tryz.zeroValue102 w) (zd := .nil) (zp := []) rfl (keyIs (k := k) (by have := (h.small _ hk).1; simp at this; omega))
    rw [ents_at dg h.rise hk] at hR
    rw [ents_has dg h.rise, mem_has h.rise hk, rdF_inv hR] at hrun
    exact hrun
theorem Ld.look_no (h : Ld w B d es p off mo) {k : ByteArray} (hz : k.size ≤ 9223372036854775807) (hk : has es k = false) :
    (Instr.lookup 70 (.map mo) (.string k) true).run Tryz.prog w = .ok (.tuple #[.pointer none, .bool false]) w := by
  cases mo with
  | none => exact Maps.look_nil true strKey Tryz.underlying70 (Tryz.zeroValue102 w) (keyIs hz)
  | some mb =>
    obtain ⟨u, ps, hrun, hR⟩ := (h.mp mb rfl).look_ok strKey Tryz.underlying70 (Tryz.zeroValue102 w) (zd := .nil) (zp := []) rfl (keyIs hz)
    rw [ents_no dg h.rise hk] at hR
    rw [ents_has dg h.rise, hk, rdF_nil hR] at hrun
    exact hrun
theorem Ld.look1 (h : Ld w B d es p off mo) {k : ByteArray} {v : Lv} (hk : (k, v) ∈ es) :
    (Instr.lookup 70 (.map mo) (.string k) false).run Tryz.prog w = .ok (.pointer (some ⟨v.g, 0, none⟩)) w := by
  cases mo with
  | none => rw [h.mn rfl] at hk; cases hk
  | some mb =>
    obtain ⟨u, ps, hrun, hR⟩ := (h.mp mb rfl).lookup strKey Tryz.underlying70 (Tryz.zeroValue102 w) (zd := .nil) (zp := []) rfl (keyIs (k := k) (by have := (h.small _ hk).1; simp at this; omega))
    rw [ents_at dg h.rise hk] at hR
    rw [rdF_inv hR] at hrun
    exact hrun
theorem Ld.len (h : Ld w B d es p off mo) (ty : TypeId) : (Builtin.len_ #[70] ty #[.map mo]).run Tryz.prog w = .ok (.int .i64 (es.length : Int)) w := by
  cases mo with
  | none => rw [h.mn rfl]; exact Maps.len_nil Tryz.underlying70 ty
  | some mb =>
    have := (h.mp mb rfl).len Tryz.underlying70 ty
    rw [Maps.size_eq, ents_len] at this
    exact this
/-- the bound of a map that is read is how many entries it has -/
theorem owns_tight {w : World} {b n : Nat} {l : List (Lit × DataW Unit)} (h : w.ownsMap Tryz.prog 9 rdF b n (.map l)) : w.ownsMap Tryz.prog 9 rdF b l.length (.map l) := by
  obtain ⟨es, clock, hb, F, hs, hD⟩ := h
  refine ⟨es, clock, hb, F, ?_, hD⟩
  injection hD with hD
  rw [hD, length_read]
  exact Nat.le_refl _

/-! ### what is written -/
theorem Ld.cells (h : Ld w B d es p off mo) (q : Int) (o : Bool) (hq : -1 ≤ q ∧ q ≤ 9223372036854775807) (hc : Ch (fun x => x = d) w w')
    (hd : w'.heap[d]? = some (.cells #[.map mo, .bool (decide (0 ≤ q)), .int .i64 (max q 0), .bool o] 72 (0, 0))) : Ld w' B d es q o mo where
  hd := hd
  mp mb e := by
    obtain ⟨es, clock, hb, r⟩ := h.mp mb e
    refine ⟨es, clock, hc.obj hb ?_, r⟩
    rintro rfl
    rw [h.hd] at hb; cases hb
  mn := h.mn
  fw e he := (h.fw e he).ch hc (fun x hx e1 => by
    subst e1
    obtain ⟨cur, t, h1, h2⟩ := (h.fw e he).kind hx
    rw [h.hd] at h1
    injection h1 with h1
    injection h1 with _ h1
    subst h1
    rcases h2 with h2 | h2 <;> cases h2)
  apart := h.apart
  rise := h.rise
  low := h.low
  few := h.few
  small := h.small
  pw := hq
/-- a file is changed: its block stays -/
theorem Ld.file (h : Ld w B d es p off mo) {k : ByteArray} {v v' : Lv} (hk : (k, v) ∈ es) (hc : Ch (fun x => v.at x) w w') (hf : Fw w' B v') (hg : v'.g = v.g)
    (hb : ∀ x, v'.bv.ownBlock = some x → v.bv.ownBlock = some x ∨ w.heap.size ≤ x) (hs : v'.all.size ≤ 1048576) : Ld w' B d (put es k v') p off mo := by
  have hents : ents dg (put es k v') = ents dg es := by
    have e1 : DataW.map (ents dg (put es k v')) = .map (ents dg (put es k v)) := by
      rw [← ents_put dg h.rise k v', ← ents_put dg h.rise k v]
      unfold dg
      rw [hg]
    injection e1 with e1
    rw [e1, put_same h.rise hk]
  have hlen : (put es k v').length = es.length := by rw [put_len, mem_has h.rise hk]; rfl
  have hkind : ∀ x, v.at x → ∃ cur t, w.heap[x]? = some (.cells cur t (0, 0)) ∧ (t = 118 ∨ t = 5) := fun x hx => (h.fw _ hk).kind hx
  have hother : ∀ e ∈ es, e.1 ≠ k → ∀ x, e.2.at x → ¬ v.at x := by
    intro e he hne x hx hv
    have ha := h.apart e he (k, v) hk hne
    rcases hx with rfl | hx <;> rcases hv with hv | hv
    · exact ha.1 hv
    · obtain ⟨_, cur, hcc⟩ := row_obj (h.fw _ hk).row hv
      rw [(h.fw e he).hd] at hcc; injection hcc with hcc; injection hcc with _ hcc; cases hcc
    · obtain ⟨_, cur, hcc⟩ := row_obj (h.fw e he).row hx
      rw [hv, (h.fw _ hk).hd] at hcc; injection hcc with hcc; injection hcc with _ hcc; cases hcc
    · exact ha.2 x hx hv
  refine ⟨hc.obj h.hd ?_, ?_, ?_, ?_, ?_, put_rise h.rise k v', h.low, by rw [hlen]; exact h.few, ?_, h.pw⟩
  · intro hx
    obtain ⟨cur, t, h1, h2⟩ := hkind d hx
    rw [h.hd] at h1
    injection h1 with h1
    injection h1 with _ h1
    subst h1
    rcases h2 with h2 | h2 <;> cases h2
  · intro mb e
    rw [hents, hlen]
    obtain ⟨es, clock, hb, r⟩ := h.mp mb e
    refine ⟨es, clock, hc.obj hb ?_, r⟩
    intro hx
    obtain ⟨cur, t, h1, h2⟩ := hkind mb hx
    rw [hb] at h1; cases h1
  · intro e
    rw [h.mn e] at hk; cases hk
  · intro e he
    rcases (mem_put h.rise k v' e).1 he with rfl | ⟨he, hne⟩
    · exact hf
    · exact (h.fw e he).ch hc (hother e he hne)
  · have hnew : ∀ e ∈ es, e.1 ≠ k → Apart e.2 v' := by
      intro e he hne
      refine ⟨by rw [hg]; exact (h.apart e he (k, v) hk hne).1, fun x hx hv => ?_⟩
      rcases hb x hv with h1 | h1
      · exact (h.apart e he (k, v) hk hne).2 x hx h1
      · have := row_lt (h.fw e he).row hx
        omega
    intro a ha b hb' hne
    rcases (mem_put h.rise k v' a).1 ha with rfl | ⟨ha, hna⟩ <;> rcases (mem_put h.rise k v' b).1 hb' with rfl | ⟨hb', hnb⟩
    · exact absurd rfl hne
    · have := hnew b hb' hnb
      exact ⟨fun e => this.1 e.symm, fun x hx hv => this.2 x hv hx⟩
    · exact hnew a ha hna
    · exact h.apart a ha b hb' hne
  · intro e he
    rcases (mem_put h.rise k v' e).1 he with rfl | ⟨he, hne⟩
    · exact ⟨(h.small _ hk).1, hs⟩
    · exact h.small e he
theorem foot_file {k : ByteArray} {v v' : Lv} {w : World} (hr : Rise es) (hk : (k, v) ∈ es) (hg : v'.g = v.g) (hb : ∀ x, v'.bv.ownBlock = some x → v.bv.ownBlock = some x ∨ w.heap.size ≤ x) {x : Nat} (hx : foot d mo (put es k v') x) : foot d mo es x ∨ w.heap.size ≤ x := by
  rcases hx with hx | hx | ⟨e, he, hx⟩
  · exact .inl (.inl hx)
  · exact .inl (.inr (.inl hx))
  · rcases (mem_put hr k v' e).1 he with rfl | ⟨he, hne⟩
    · rcases hx with hx | hx
      · exact .inl (.inr (.inr ⟨_, hk, .inl (hx.trans hg)⟩))
      · rcases hb x hx with h1 | h1
        · exact .inl (.inr (.inr ⟨_, hk, .inr h1⟩))
        · exact .inr h1
    · exact .inl (.inr (.inr ⟨e, he, hx⟩))
end Go.Proofs.YteifkkceldlfnaaGreatDoor
namespace Go.Proofs.YteifkkceldlfnaaGreatDoor
open Go.RowKit Go.Shelf Go.Sort
open Go.Lib hiding intOf

/-- the files, the power (below 0: any), off -/
abbrev Ab := List Fil × Int × Bool
/-- why a file can't be asked for -/
def noOf {V : Type} (fs : List (ByteArray × V)) (off : Bool) (k : ByteArray) : Int := if off then 7 else if has fs k then 0 else 5
/-- a file's bytes: the safe ones, the rest -/
def gv (fs : List Fil) (k : ByteArray) : ByteArray × ByteArray := (fs[pos fs k]?.map (·.2)).getD (⟨#[]⟩, ⟨#[]⟩)
/-- an act, if there is power -/
def stepA (no : Int) (fs' : List Fil) (st : Ab) : Int × Ab := if no ≠ 0 then (no, st) else if powOk st.2.1 then (0, fs', powOf st.2.1, st.2.2) else (7, st.1, st.2.1, true)
def appNo (st : Ab) (k s : ByteArray) : Int :=
  if st.2.2 then 7 else if k.size < 1 ∨ 32 < k.size then 1
  else if has st.1 k then (if 1048576 < (gv st.1 k).1.size + (gv st.1 k).2.size + s.size then 4 else 0)
  else if st.1.length = 256 ∨ 1048576 < s.size then 4 else 0
def getv (fs : List Fil) (k : ByteArray) : ByteArray × ByteArray := if has fs k then gv fs k else (⟨#[]⟩, ⟨#[]⟩)
def aApp (st : Ab) (k s : ByteArray) : Int × Ab := stepA (appNo st k s) (put st.1 k ((getv st.1 k).1, (getv st.1 k).2 ++ s)) st
def aSync (st : Ab) (k : ByteArray) : Int × Ab := stepA (noOf st.1 st.2.2 k) (put st.1 k ((gv st.1 k).1 ++ (gv st.1 k).2, ⟨#[]⟩)) st
def cutNo (st : Ab) (k : ByteArray) (n : Int) : Int :=
  if noOf st.1 st.2.2 k ≠ 0 then noOf st.1 st.2.2 k else if n < 0 ∨ (((gv st.1 k).1.size + (gv st.1 k).2.size : Nat) : Int) < n then 1 else 0
def cutv (v : ByteArray × ByteArray) (n : Nat) : ByteArray × ByteArray := if n ≤ v.1.size then (v.1.extract 0 n, ⟨#[]⟩) else (v.1, v.2.extract 0 (n - v.1.size))
def aCut (st : Ab) (k : ByteArray) (n : Int) : Int × Ab := stepA (cutNo st k n) (put st.1 k (cutv (gv st.1 k) n.toNat)) st
def aDel (st : Ab) (k : ByteArray) : Int × Ab := stepA (noOf st.1 st.2.2 k) (del st.1 k) st
def aRead (st : Ab) (k : ByteArray) : ByteArray × Int := if noOf st.1 st.2.2 k ≠ 0 then (⟨#[]⟩, noOf st.1 st.2.2 k) else ((gv st.1 k).1 ++ (gv st.1 k).2, 0)
def aPow (st : Ab) (a : Int) : Ab := (st.1, powSet a, st.2.2)
def kp (keep : List Int) (i : Nat) : Int := keep.getD i 0
/-- a file behind a crash -/
def cr (n : Int) (v : ByteArray × ByteArray) : ByteArray × ByteArray := (v.1 ++ v.2.extract 0 (min n.toNat v.2.size), ⟨#[]⟩)
def crAll (keep : List Int) (fs : List Fil) : List Fil := fs.mapIdx fun i f => (f.1, cr (kp keep i) f.2)
def aCrash (st : Ab) (keep : List Int) : Ab := (crAll keep st.1, -1, false)

theorem gv_mem {fs : List Fil} (hs : Rise fs) {k : ByteArray} {v : ByteArray × ByteArray} (h : (k, v) ∈ fs) : gv fs k = v := by
  obtain ⟨hp, hk⟩ := has_lt (mem_has hs h)
  have h1 : fs[pos fs k] = (k, v) := rise_inj hs (List.getElem_mem hp) h hk
  simp only [gv, List.getElem?_eq_getElem hp, Option.map_some, Option.getD_some, h1]
theorem fil_mem {es : List Le} {k : ByteArray} {v : Lv} (h : (k, v) ∈ es) : (k, sr v) ∈ fil es := List.mem_map.2 ⟨_, h, rfl⟩
theorem fil_rise {es : List Le} (h : Rise es) : Rise (fil es) := (vals_rise sr es).2 h
theorem fil_has (es : List Le) (k : ByteArray) : has (fil es) k = has es k := (vals_has sr es k).1
theorem fil_len (es : List Le) : (fil es).length = es.length := vals_len sr es
theorem fil_no (es : List Le) (off : Bool) (k : ByteArray) : noOf (fil es) off k = noOf es off k := by unfold noOf; rw [fil_has]
theorem fil_gv {es : List Le} (hs : Rise es) {k : ByteArray} {v : Lv} (h : (k, v) ∈ es) : gv (fil es) k = (v.safe, v.rest) := gv_mem (fil_rise hs) (fil_mem h)
theorem powOf_pw {p : Int} (h : -1 ≤ p ∧ p ≤ 9223372036854775807) : -1 ≤ powOf p ∧ powOf p ≤ 9223372036854775807 := by unfold powOf; split <;> omega

/-- the disk is now so, and nothing but its own memory was changed -/
def Did (w : World) (B d : Nat) (es : List Le) (mo : Option Nat) (w' : World) (st : Ab) : Prop :=
  ∃ es' mo', Ld w' B d es' st.2.1 st.2.2 mo' ∧ fil es' = st.1 ∧ Ch (foot d mo es) w w' ∧ ∀ x, foot d mo' es' x → foot d mo es x ∨ w.heap.size ≤ x

variable {w : World} {B d : Nat} {es : List Le} {p : Int} {off : Bool} {mo : Option Nat}
theorem Did.same (h : Ld w B d es p off mo) : Did w B d es mo w (fil es, p, off) := ⟨es, mo, h, rfl, Ch.refl _ w, fun _ hx => .inl hx⟩

set_option maxHeartbeats 1000000 in
theorem New_any (B : Nat) (w : World) (hB : B ≤ w.heap.size) : Calls Tryz.prog 7 #[] w fun e w' => e = .returned (.pointer (some ⟨w.heap.size, 0, none⟩)) ∧ Ld w' B w.heap.size [] (-1) false none ∧ Below w.heap.size w w' := by
  go_enter Tryz.func7, Tryz.ntmps7
  go_wp2
  go_ret
  refine ⟨rfl, ⟨heap_alloc_new w _, fun _ h => (by cases h), fun _ => rfl, fun _ h => (by cases h), fun _ h => (by cases h), List.Pairwise.nil, ⟨hB, fun _ h => by cases h⟩, by simp, fun _ h => (by cases h), by decide⟩, (Below.refl _ w).alloc (Nat.le_refl _) _⟩

set_option maxHeartbeats 2000000 in
theorem find_ok (h : Ld w B d es p false mo) {k : ByteArray} {v : Lv} (hk : (k, v) ∈ es) :
    Calls Tryz.prog 80 #[.pointer (some ⟨d, 0, none⟩), .string k] w fun e w' => e = .returned (.tuple #[.pointer (some ⟨v.g, 0, none⟩), .int .i64 0]) ∧ w' = w := by
  have c0 := h.c0
  have c3 := h.c3
  have hl := h.look hk
  clear h
  go_enter Tryz.func80, Tryz.ntmps80
  go_wp2
  go_ret2
  exact ⟨rfl, rfl⟩
set_option maxHeartbeats 2000000 in
theorem find_no (h : Ld w B d es p off mo) {k : ByteArray} (hz : k.size ≤ 9223372036854775807) (hk : noOf es off k ≠ 0) :
    Calls Tryz.prog 80 #[.pointer (some ⟨d, 0, none⟩), .string k] w fun e w' => e = .returned (.tuple #[.pointer none, .int .i64 (noOf es off k)]) ∧ w' = w := by
  have c0 := h.c0
  have c3 := h.c3
  cases off with
  | true =>
    have e : noOf es true k = 7 := rfl
    rw [e]
    clear h hk e
    go_enter Tryz.func80, Tryz.ntmps80
    go_wp2
    go_ret2
    exact ⟨rfl, rfl⟩
  | false =>
    have hh : has es k = false := by
      cases hh : has es k with
      | false => rfl
      | true => simp [noOf, hh] at hk
    have e : noOf es false k = 5 := by simp [noOf, hh]
    have hl := h.look_no hz hh
    rw [e]
    clear h hk e hh
    go_enter Tryz.func80, Tryz.ntmps80
    go_wp2
    go_ret2
    exact ⟨rfl, rfl⟩
set_option maxHeartbeats 2000000 in
theorem find_nil (k : ByteArray) (w : World) :
    Calls Tryz.prog 80 #[.pointer none, .string k] w fun e w' => e = .returned (.tuple #[.pointer none, .int .i64 1]) ∧ w' = w := by
  go_enter Tryz.func80, Tryz.ntmps80
  go_wp2
  go_ret2
  exact ⟨rfl, rfl⟩

set_option maxHeartbeats 2000000 in
theorem act_any (h : Ld w B d es p off mo) :
    Calls Tryz.prog 53 #[.pointer (some ⟨d, 0, none⟩)] w fun e w' => e = .returned (.bool (powOk p)) ∧ Ld w' B d es (powOf p) (off || !powOk p) mo ∧ Ch (fun x => x = d) w w' := by
  have c1 := h.c1
  have c2 := h.c2
  have c3 := h.c3
  have f2 := h.fro 2
  have f3 := h.fro 3
  have hp := h.pw
  have H : Hid (Ld w B d es p off mo) := h
  clear h
  rcases Int.lt_trichotomy p 0 with h0 | h0 | h0
  · have e1 : decide (0 ≤ p) = false := by simpa using h0
    have e2 : powOk p = true := by simp [powOk]; omega
    have e3 : powOf p = p := if_neg (by omega)
    rw [e1] at c1
    rw [e2, e3]
    clear c2 e1 e2 e3 hp
    go_enter Tryz.func53, Tryz.ntmps53
    go_wp2
    go_ret
    refine ⟨rfl, ?_, Ch.refl _ w⟩
    simpa using H.out
  · subst h0
    have e4 : (max (0 : Int) 0) = 0 := by decide
    rw [show decide ((0 : Int) ≤ 0) = true from rfl] at c1
    rw [e4] at c2
    clear hp
    go_enter Tryz.func53, Tryz.ntmps53
    go_wp2
    go_ret
    refine ⟨rfl, ?_, (Ch.refl _ w).setCell _ _ (fun _ => rfl)⟩
    have hc : Ch (fun x => x = d) w (w.setCell ⟨d, 3, none⟩ (.bool true)) := (Ch.refl _ w).setCell _ _ (fun _ => rfl)
    have := H.out.cells 0 true (by decide) hc (heap_setCell_same w d 3 _ _ (.bool true) H.out.hd)
    simpa [powOf, powOk] using this
  · have e1 : decide (0 ≤ p) = true := by simp; omega
    have e2 : powOk p = true := by simp [powOk]; omega
    have e3 : powOf p = p - 1 := if_pos h0
    have e4 : max p 0 = p := by omega
    have hb0 : (p == 0) = false := by simp; omega
    have hw1 : IntKind.i64.wrap (p - 1) = p - 1 := by rw [IntKind.wrap_i64]; omega
    rw [e1] at c1
    rw [e4] at c2
    rw [e2, e3]
    clear e1 e2 e3
    go_enter Tryz.func53, Tryz.ntmps53
    go_wp2
    go_ret
    refine ⟨rfl, ?_, (Ch.refl _ w).setCell _ _ (fun _ => rfl)⟩
    have hc : Ch (fun x => x = d) w (w.setCell ⟨d, 2, none⟩ (.int .i64 (p - 1))) := (Ch.refl _ w).setCell _ _ (fun _ => rfl)
    have hh := heap_setCell_same w d 2 _ _ (.int .i64 (p - 1)) H.out.hd
    have := H.out.cells (p - 1) off (by omega) hc (by
      rw [hh]
      have a1 : decide (0 ≤ p - 1) = decide (0 ≤ p) := by
        have : (0 ≤ p - 1) = (0 ≤ p) := by simp only [eq_iff_iff]; omega
        simp only [this]
      have a2 : max (p - 1) 0 = p - 1 := by omega
      rw [a1, a2]
      rfl)
    simpa using this
set_option maxHeartbeats 2000000 in
theorem Off_any (h : Ld w B d es p off mo) : Calls Tryz.prog 29 #[.pointer (some ⟨d, 0, none⟩)] w fun e w' => e = .returned (.bool off) ∧ w' = w := by
  have c3 := h.c3
  clear h
  go_enter Tryz.func29, Tryz.ntmps29
  go_wp2
  go_ret
  exact ⟨rfl, rfl⟩
set_option maxHeartbeats 2000000 in
theorem Off_nil (w : World) : Calls Tryz.prog 29 #[.pointer none] w fun e w' => e = .returned (.bool false) ∧ w' = w := by
  go_enter Tryz.func29, Tryz.ntmps29
  go_wp2
  go_ret
  exact ⟨rfl, rfl⟩
set_option maxHeartbeats 2000000 in
theorem Power_any (h : Ld w B d es p off mo) (a : Int) (ha : a ≤ 9223372036854775807) : Calls Tryz.prog 22 #[.pointer (some ⟨d, 0, none⟩), .int .i64 a] w fun e w' => (∃ v, e = .returned v) ∧ Ld w' B d es (powSet a) off mo ∧ Ch (fun x => x = d) w w' := by
  have f1 := h.fro 1
  have f2 := h.fro 2
  have c1 := h.c1
  have c2 := h.c2
  have hh := heap_setCell_same _ d 2 _ _ (.int .i64 (max a 0)) (heap_setCell_same w d 1 _ _ (.bool (decide (0 ≤ a))) h.hd)
  have hc : Ch (fun x => x = d) w ((w.setCell ⟨d, 1, none⟩ (.bool (decide (0 ≤ a)))).setCell ⟨d, 2, none⟩ (.int .i64 (max a 0))) := ((Ch.refl (fun x => x = d) w).setCell ⟨d, 1, none⟩ _ (fun _ => rfl)).setCell ⟨d, 2, none⟩ _ (fun _ => rfl)
  have HR : Hid (Ld ((w.setCell ⟨d, 1, none⟩ (.bool (decide (0 ≤ a)))).setCell ⟨d, 2, none⟩ (.int .i64 (max a 0))) B d es (powSet a) off mo ∧ Ch (fun x => x = d) w ((w.setCell ⟨d, 1, none⟩ (.bool (decide (0 ≤ a)))).setCell ⟨d, 2, none⟩ (.int .i64 (max a 0)))) := by
    refine ⟨h.cells (powSet a) off (by unfold powSet; split <;> omega) hc ?_, hc⟩
    rw [hh]
    have a1 : decide (0 ≤ powSet a) = decide (0 ≤ a) := by
      have : (0 ≤ powSet a) = (0 ≤ a) := by simp only [eq_iff_iff]; unfold powSet; split <;> omega
      simp only [this]
    have a2 : max (powSet a) 0 = max a 0 := by unfold powSet; split <;> omega
    rw [a1, a2]
    rfl
  clear h hh hc
  go_enter Tryz.func22, Tryz.ntmps22
  go_wp2
  go_end0
  exact ⟨⟨_, rfl⟩, HR.out.1, HR.out.2⟩
end Go.Proofs.YteifkkceldlfnaaGreatDoor
namespace Go.Proofs.YteifkkceldlfnaaGreatDoor
open Go.RowKit Go.Shelf Go.Sort
open Go.Lib hiding intOf
variable {w : World} {B d : Nat} {es : List Le} {p : Int} {off : Bool} {mo : Option Nat}

theorem stepA_no {no : Int} (h : no ≠ 0) (fs' : List Fil) (st : Ab) : stepA no fs' st = (no, st) := if_pos h
theorem stepA_off (fs' fs : List Fil) (off : Bool) : stepA 0 fs' (fs, 0, off) = (7, fs, 0, true) := rfl
theorem stepA_ok {p : Int} (h : powOk p = true) (fs' fs : List Fil) (off : Bool) : stepA 0 fs' (fs, p, off) = (0, fs', powOf p, off) := by
  simp [stepA, h]
/-- the file can be asked for -/
theorem no_zero {es : List Le} {off : Bool} {k : ByteArray} (h : noOf es off k = 0) : off = false ∧ ∃ v, (k, v) ∈ es := by
  cases off with
  | true => simp [noOf] at h
  | false =>
    refine ⟨rfl, ?_⟩
    cases hh : has es k with
    | false => simp [noOf, hh] at h
    | true => exact has_mem hh
theorem pow_zero {p : Int} (h : powOk p = false) : p = 0 := by simpa [powOk] using h
/-- what the disk's own cell alone was changed for -/
theorem Did.own {w' : World} {q : Int} {o : Bool} (h : Ld w' B d es q o mo) (hc : Ch (fun x => x = d) w w') : Did w B d es mo w' (fil es, q, o) :=
  ⟨es, mo, h, rfl, hc.mono (fun _ _ e => .inl e), fun _ hx => .inl hx⟩
/-- a file was changed behind that -/
theorem Did.file {w1 w2 : World} {q : Int} {o : Bool} (h : Ld w1 B d es q o mo) (hc : Ch (fun x => x = d) w w1) {k : ByteArray} {v v' : Lv} (hk : (k, v) ∈ es) (hc2 : Ch (fun x => v.at x) w1 w2) (hf : Fw w2 B v') (hg : v'.g = v.g)
    (hb : ∀ x, v'.bv.ownBlock = some x → v.bv.ownBlock = some x ∨ w1.heap.size ≤ x) (hs : v'.all.size ≤ 1048576) : Did w B d es mo w2 (put (fil es) k (sr v'), q, o) :=
  ⟨put es k v', mo, h.file hk hc2 hf hg hb hs, vals_put sr es k v',
    (hc.mono (fun _ _ e => .inl e)).trans (hc2.mono (fun _ _ hx => .inr (.inr ⟨_, hk, hx⟩))),
    fun _ hx => (foot_file (w := w1) h.rise hk hg hb hx).imp id (fun e => Nat.le_trans hc.size e)⟩

theorem safe_le (v : Lv) : v.safe.size ≤ v.all.size := by unfold Lv.all; rw [ByteArray.size_append]; omega

set_option maxHeartbeats 4000000 in
theorem Sync_any (h : Ld w B d es p off mo) (k : ByteArray) (hz : k.size ≤ 9223372036854775807) :
    Calls Tryz.prog 72 #[.pointer (some ⟨d, 0, none⟩), .string k] w fun e w' => e = .returned (.int .i64 (aSync (fil es, p, off) k).1) ∧ Did w B d es mo w' (aSync (fil es, p, off) k).2 := by
  unfold aSync
  simp only [fil_no]
  by_cases hno : noOf es off k = 0
  · obtain ⟨rfl, v, hk⟩ := no_zero hno
    have hF := find_ok h hk
    have hA := act_any h
    rw [hno, fil_gv h.rise hk]
    cases hp : powOk p with
    | false =>
      obtain rfl := pow_zero hp
      rw [stepA_off]
      have hr := h.rise
      clear h
      go_enter Tryz.func72, Tryz.ntmps72
      go_wp2_with (first
        | (go_at_call 80; refine hF.mono ?_; rintro e w1 ⟨rfl, rfl⟩)
        | (go_at_call 53; refine hA.mono ?_; rintro e w2 ⟨rfl, D2, C2⟩; have HD : Hid _ := And.intro D2 C2; clear D2 C2))
      go_ret
      exact ⟨rfl, Did.own HD.out.1 HD.out.2⟩
    | true =>
      rw [stepA_ok hp]
      rw [hp] at hA
      obtain ⟨a, c, hbv, -⟩ := row_slice (h.fw _ hk).row
      have hr := h.rise
      have hsm : v.all.size ≤ 1048576 := (h.small _ hk).2
      clear h
      go_enter Tryz.func72, Tryz.ntmps72
      go_wp2_with (first
        | (go_at_call 80; refine hF.mono ?_; rintro e w1 ⟨rfl, rfl⟩)
        | (go_at_call 53; refine hA.mono ?_; rintro e w2 ⟨rfl, D2, C2⟩; have m0 := (D2.fw _ hk).c0; have m1 := (D2.fw _ hk).c1; have fr := (D2.fw _ hk).fro 1; simp only [hbv] at m0; have HD : Hid _ := And.intro D2 C2; clear D2 C2))
      go_ret
      obtain ⟨D2, C2⟩ := HD.out
      have F := D2.fw _ hk
      refine ⟨rfl, ?_⟩
      have hne : ∀ x, v.bv.ownBlock = some x → x ≠ v.g := by
        rintro x hx rfl
        obtain ⟨_, cur, hcc⟩ := row_obj F.row hx
        rw [F.hd] at hcc; injection hcc with hcc; injection hcc with _ hcc; cases hcc
      have C3 : Ch (fun x => x = v.g) w2 (w2.setCell ⟨v.g, 1, none⟩ (.int .i64 (v.all.size : Int))) := (Ch.refl _ w2).setCell _ _ (fun _ => rfl)
      have e1 : ({ safe := v.all, rest := ⟨#[]⟩, g := v.g, bv := v.bv } : Lv).all = v.all := by
        show v.all ++ (⟨#[]⟩ : ByteArray) = v.all
        exact ByteArray.append_empty
      exact Did.file D2 C2 hk (C3.mono (fun _ _ e => .inl e)) (v' := { safe := v.all, rest := ⟨#[]⟩, g := v.g, bv := v.bv })
        ⟨two1 F.hd _, by rw [e1]; exact C3.row F.row (fun x hx => hne x hx), F.low⟩ rfl (fun x hx => .inl hx) (by rw [e1]; exact hsm)
  · rw [stepA_no hno]
    have hF := find_no h hz hno
    have HD : Hid _ := Did.same h
    clear h
    generalize noOf es off k = z at *
    have hzz : (z == 0) = false := by simpa using hno
    go_enter Tryz.func72, Tryz.ntmps72
    go_wp2_with (go_at_call 80; refine hF.mono ?_; rintro e w1 ⟨rfl, rfl⟩)
    go_ret
    exact ⟨rfl, HD.out⟩
end Go.Proofs.YteifkkceldlfnaaGreatDoor
namespace Go.Proofs.YteifkkceldlfnaaGreatDoor
open Go.RowKit Go.Shelf Go.Sort
open Go.Lib hiding intOf
variable {w : World} {B d : Nat} {es : List Le} {p : Int} {off : Bool} {mo : Option Nat}

theorem ba_list (s : ByteArray) : (⟨s.data.toList.toArray⟩ : ByteArray) = s := by
  apply ByteArray.ext
  exact Array.toArray_toList
theorem ba_app (a b : ByteArray) : (a ++ b).data.toList = a.data.toList ++ b.data.toList := by simp [ByteArray.data_append]
theorem ba_len (a : ByteArray) : a.data.toList.length = a.size := by rw [Array.length_toList]; rfl
theorem ba_take (s : ByteArray) (m : Nat) : (s.extract 0 m).data.toList = s.data.toList.take m := by
  simp [ByteArray.data_extract]
theorem ba_take_size (s : ByteArray) (m : Nat) : (s.extract 0 m).size = min m s.size := by
  rw [← ba_len, ba_take, List.length_take, ba_len]
theorem strCells_take (s : ByteArray) (m : Nat) : strCells (s.extract 0 m) = (strCells s).take m := by
  unfold strCells
  rw [ba_take, List.map_take]
/-- a row of bytes as a string -/
theorem conv_row {n : Nat} {sv : Value} {s : ByteArray} {w : World} (hown : w.ownsRow B 5 1 sv n (strCells s)) :
    (convert 116 9 sv).run Tryz.prog w = .ok (.string s) w := by
  have hl := hown.1
  rw [strCells_length, Nat.mul_one] at hl
  subst hl
  rcases hown.2 with ⟨rfl, h0⟩ | ⟨g, cap, cur, rfl, _, _, _, _, _, _⟩
  · have h1 : s = ⟨#[]⟩ := key_ext (by
      have : s.data.toList = [] := List.eq_nil_of_length_eq_zero (by rw [ba_len]; exact h0)
      rw [this])
    subst h1
    rw [run_convert_bytes_string w 116 9 5 none 0 0 Tryz.underlying116 Tryz.underlying5 Tryz.underlying9]
    simp [Conv.bytesToString]
    rfl
  · have := run_convert_bytes_back (P := Tryz.prog) w 116 9 5 ⟨g, 0, none⟩ cap s.data.toList Tryz.underlying116 Tryz.underlying5 Tryz.underlying9
      (fun j hj => hown.cells rfl j _ (by unfold strCells; rw [List.getElem?_map, List.getElem?_eq_getElem hj]; rfl))
    rw [ba_list, ba_len] at this
    exact this
/-- the first ones of a row -/
theorem row_take {w : World} {base : Nat} {e : TypeId} {a : Option Addr} {n c m : Nat} {xs : List Value} (h : w.ownsRow base e 1 (.slice a n c) n xs) (hm : m ≤ n) : w.ownsRow base e 1 (.slice a m c) m (xs.take m) := by
  refine ⟨by rw [List.length_take, h.1]; omega, ?_⟩
  rcases h.2 with ⟨h1, h0⟩ | ⟨g, cap, cur, h1, h2, h3, h4, h5, h6, h7⟩
  · injection h1 with h1 h2 h3
    subst h1; subst h3
    exact .inl ⟨by rw [show m = 0 by omega], by omega⟩
  · injection h1 with h1 h8 h9
    subst h1; subst h9
    refine .inr ⟨g, c, cur, rfl, h2, h3, by omega, h5, h6, ?_⟩
    rw [← h7, List.take_take]
    congr 1
    omega

set_option maxHeartbeats 4000000 in
theorem Read_any (h : Ld w B d es p off mo) (k : ByteArray) (hz : k.size ≤ 9223372036854775807) :
    Calls Tryz.prog 45 #[.pointer (some ⟨d, 0, none⟩), .string k] w fun e w' => e = .returned (.tuple #[.string (aRead (fil es, p, off) k).1, .int .i64 (aRead (fil es, p, off) k).2]) ∧ w' = w := by
  unfold aRead
  simp only [fil_no]
  by_cases hno : noOf es off k = 0
  · obtain ⟨rfl, v, hk⟩ := no_zero hno
    have hF := find_ok h hk
    have F : Fw w B v := h.fw _ hk
    rw [hno, fil_gv h.rise hk, if_neg (by simp)]
    have m0 := F.c0
    have hcv := conv_row F.row
    obtain ⟨a, c, hbv, -⟩ := row_slice F.row
    simp only [hbv] at m0 hcv
    have e1 : v.safe ++ v.rest = v.all := rfl
    rw [e1]
    generalize v.all = al at *
    clear h F
    go_enter Tryz.func45, Tryz.ntmps45
    go_wp2_with (go_at_call 80; refine hF.mono ?_; rintro e w1 ⟨rfl, rfl⟩)
    go_ret2
    exact ⟨rfl, rfl⟩
  · rw [if_pos hno]
    have hF := find_no h hz hno
    clear h
    generalize noOf es off k = z at *
    have hzz : (z == 0) = false := by simpa using hno
    go_enter Tryz.func45, Tryz.ntmps45
    go_wp2_with (go_at_call 80; refine hF.mono ?_; rintro e w1 ⟨rfl, rfl⟩)
    go_ret2
    exact ⟨rfl, rfl⟩

set_option maxHeartbeats 4000000 in
theorem Delete_any (h : Ld w B d es p off mo) (k : ByteArray) (hz : k.size ≤ 9223372036854775807) :
    Calls Tryz.prog 84 #[.pointer (some ⟨d, 0, none⟩), .string k] w fun e w' => e = .returned (.int .i64 (aDel (fil es, p, off) k).1) ∧ Did w B d es mo w' (aDel (fil es, p, off) k).2 := by
  unfold aDel
  simp only [fil_no]
  by_cases hno : noOf es off k = 0
  · obtain ⟨rfl, v, hk⟩ := no_zero hno
    have hF := find_ok h hk
    have hA := act_any h
    rw [hno]
    cases hp : powOk p with
    | false =>
      obtain rfl := pow_zero hp
      rw [stepA_off]
      clear h
      go_enter Tryz.func84, Tryz.ntmps84
      go_wp2_with (first
        | (go_at_call 80; refine hF.mono ?_; rintro e w1 ⟨rfl, rfl⟩)
        | (go_at_call 53; refine hA.mono ?_; rintro e w2 ⟨rfl, D2, C2⟩; have HD : Hid _ := And.intro D2 C2; clear D2 C2))
      go_ret
      exact ⟨rfl, Did.own HD.out.1 HD.out.2⟩
    | true =>
      rw [stepA_ok hp]
      rw [hp] at hA
      obtain ⟨mb, rfl⟩ : ∃ mb, mo = some mb := by
        cases mo with
        | none => rw [h.mn rfl] at hk; cases hk
        | some mb => exact ⟨mb, rfl⟩
      clear h
      go_enter Tryz.func84, Tryz.ntmps84
      go_wp2_with (first
        | (go_at_call 80; refine hF.mono ?_; rintro e w1 ⟨rfl, rfl⟩)
        | (go_at_call 53; refine hA.mono ?_; rintro e w2 ⟨rfl, D2, C2⟩; have m0 := D2.c0; have HD : Hid _ := And.intro D2 C2; obtain ⟨w3, hrun, hown3, hturn3⟩ := (D2.mp mb rfl).drop strKey Tryz.underlying70 (keyIs hz) 0; have HE : Hid _ := And.intro hown3 hturn3; clear D2 C2 hown3 hturn3))
      go_ret
      obtain ⟨D2, C2⟩ := HD.out
      obtain ⟨hown3, hturn3⟩ := HE.out
      refine ⟨rfl, ?_⟩
      have C3 : Ch (fun x => x = mb) w2 w3 := Ch.of_grown hturn3.grown (fun x e _ => by cases e; rfl)
      rw [ents_del dg D2.rise] at hown3
      have hkm : ∀ x, x = mb → ∀ cur t f, w2.heap[x]? ≠ some (.cells cur t f) := by
        rintro x rfl cur t f hx
        obtain ⟨a, c, hb, _⟩ := D2.mp x rfl
        rw [hb] at hx; cases hx
      refine ⟨del es k, some mb, ⟨C3.obj D2.hd (fun e => hkm d e _ _ _ D2.hd), ?_, (fun e => by cases e), ?_, ?_, del_rise D2.rise k, D2.low, ?_, ?_, D2.pw⟩, vals_del sr es k, (C2.mono (fun _ _ e => .inl e)).trans (C3.mono (fun x _ e => .inr (.inl (by rw [e])))), ?_⟩
      · intro mb' e
        cases e
        have := owns_tight hown3
        rw [ents_len] at this
        exact this
      · intro e he
        have he := (mem_del D2.rise k e).1 he
        exact (D2.fw e he.1).ch C3 (fun x hx e1 => by
          obtain ⟨cur, t, h1, _⟩ := (D2.fw e he.1).kind hx
          exact hkm x e1 _ _ _ h1)
      · intro a ha b hb hne
        exact D2.apart a ((mem_del D2.rise k a).1 ha).1 b ((mem_del D2.rise k b).1 hb).1 hne
      · have := D2.few
        rw [del_len]; split <;> omega
      · intro e he
        exact D2.small e ((mem_del D2.rise k e).1 he).1
      · intro x hx
        rcases hx with hx | hx | ⟨e, he, hx⟩
        · exact .inl (.inl hx)
        · exact .inl (.inr (.inl hx))
        · exact .inl (.inr (.inr ⟨e, ((mem_del D2.rise k e).1 he).1, hx⟩))
  · rw [stepA_no hno]
    have hF := find_no h hz hno
    have HD : Hid _ := Did.same h
    clear h
    generalize noOf es off k = z at *
    have hzz : (z == 0) = false := by simpa using hno
    go_enter Tryz.func84, Tryz.ntmps84
    go_wp2_with (go_at_call 80; refine hF.mono ?_; rintro e w1 ⟨rfl, rfl⟩)
    go_ret
    exact ⟨rfl, HD.out⟩
end Go.Proofs.YteifkkceldlfnaaGreatDoor
namespace Go.Proofs.YteifkkceldlfnaaGreatDoor
open Go.RowKit Go.Shelf Go.Sort
open Go.Lib hiding intOf
variable {w : World} {B d : Nat} {es : List Le} {p : Int} {off : Bool} {mo : Option Nat}

theorem cut_all (s r : ByteArray) (m : Nat) : (cutv (s, r) m).1 ++ (cutv (s, r) m).2 = (s ++ r).extract 0 m := by
  apply key_ext
  rw [ba_take, ba_app, ba_app]
  unfold cutv
  simp only
  split
  · rename_i h
    rw [ba_take]
    show _ ++ [] = _
    rw [List.append_nil, List.take_append_of_le_length (by rw [ba_len]; exact h)]
  · rename_i h
    rw [ba_take, List.take_append, List.take_of_length_le (l := s.data.toList) (by rw [ba_len]; omega), ba_len]
theorem cut_safe (s r : ByteArray) (m : Nat) : (cutv (s, r) m).1.size = min s.size m := by
  unfold cutv
  simp only
  split
  · rename_i h
    rw [ba_take_size]; omega
  · simp only; omega
theorem cr_all (n : Int) (s r : ByteArray) : (cr n (s, r)).1 ++ (cr n (s, r)).2 = (s ++ r).extract 0 (s.size + min n.toNat r.size) := by
  apply key_ext
  rw [ba_take, ba_app, ba_app]
  unfold cr
  simp only
  rw [ba_app, ba_take, List.take_append, ba_len, List.take_of_length_le (l := s.data.toList) (by rw [ba_len]; omega), Nat.add_sub_cancel_left]
  show _ ++ [] = _
  rw [List.append_nil]
theorem cr_safe (n : Int) (s r : ByteArray) : (cr n (s, r)).1.size = s.size + min n.toNat r.size := by
  unfold cr
  simp only
  rw [ByteArray.size_append, ba_take_size]; omega
/-- a file whose slice is cut, and whose number of safe bytes is set -/
theorem Fw.cut {w : World} {B : Nat} {v : Lv} {a : Option Addr} {n c m : Nat} (F : Fw w B v) (hbv : v.bv = .slice a n c) (hn : n = v.all.size) (hm : m ≤ n) {s r : ByteArray} (hall : s ++ r = v.all.extract 0 m) {w' : World}
    (hh : w'.heap[v.g]? = some (.cells #[.slice a m c, .int .i64 (s.size : Int)] 118 (0, 0))) (hc : Ch (fun x => x = v.g) w w') : Fw w' B { safe := s, rest := r, g := v.g, bv := .slice a m c } where
  hd := hh
  row := by
    show w'.ownsRow B 5 1 (.slice a m c) (s ++ r).size (strCells (s ++ r))
    have h1 := F.row
    rw [hbv, ← hn] at h1
    have h2 := row_take h1 hm
    rw [hall, strCells_take, ba_take_size, show min m v.all.size = m by omega]
    refine hc.row h2 (fun x hx => ?_)
    rintro rfl
    have hx' : v.bv.ownBlock = some v.g := by rw [hbv]; cases a <;> exact hx
    obtain ⟨_, cur, hcc⟩ := row_obj F.row hx'
    rw [F.hd] at hcc; injection hcc with hcc; injection hcc with _ hcc; cases hcc
  low := F.low

set_option maxHeartbeats 4000000 in
theorem Cut_any (h : Ld w B d es p off mo) (k : ByteArray) (n : Int) (hz : k.size ≤ 9223372036854775807) :
    Calls Tryz.prog 71 #[.pointer (some ⟨d, 0, none⟩), .string k, .int .i64 n] w fun e w' => e = .returned (.int .i64 (aCut (fil es, p, off) k n).1) ∧ Did w B d es mo w' (aCut (fil es, p, off) k n).2 := by
  unfold aCut cutNo
  simp only [fil_no]
  by_cases hno : noOf es off k = 0
  · obtain ⟨rfl, v, hk⟩ := no_zero hno
    have hF := find_ok h hk
    have hA := act_any h
    have F : Fw w B v := h.fw _ hk
    have m0 := F.c0
    have hsm : v.all.size ≤ 1048576 := (h.small _ hk).2
    obtain ⟨a, c, hbv, -, hnc, hcm⟩ := row_slice F.row
    rw [hbv] at m0
    rw [hno, fil_gv h.rise hk, if_neg (by simp)]
    have e1 : v.safe.size + v.rest.size = v.all.size := (ByteArray.size_append).symm
    simp only [e1]
    by_cases hout : n < 0 ∨ ((v.all.size : Nat) : Int) < n
    · rw [if_pos hout, stepA_no (by decide)]
      have HD : Hid _ := Did.same h
      clear h F hA
      rcases hout with h1 | h1
      · go_enter Tryz.func71, Tryz.ntmps71
        go_wp2_with (go_at_call 80; refine hF.mono ?_; rintro e w1 ⟨rfl, rfl⟩)
        go_ret
        exact ⟨rfl, HD.out⟩
      · have h0 : ¬ n < 0 := by omega
        go_enter Tryz.func71, Tryz.ntmps71
        go_wp2_with (go_at_call 80; refine hF.mono ?_; rintro e w1 ⟨rfl, rfl⟩)
        go_ret
        exact ⟨rfl, HD.out⟩
    · rw [if_neg hout]
      obtain ⟨m, rfl⟩ : ∃ m : Nat, n = (m : Int) := ⟨n.toNat, by omega⟩
      have h0 : ¬ (m : Int) < 0 := by omega
      have h1 : ¬ ((v.all.size : Nat) : Int) < (m : Int) := by omega
      have h2 : m ≤ v.all.size := by omega
      have h3 : m ≤ c := by omega
      cases hp : powOk p with
      | false =>
        obtain rfl := pow_zero hp
        rw [stepA_off]
        clear h F
        go_enter Tryz.func71, Tryz.ntmps71
        go_wp2_with (first
          | (go_at_call 80; refine hF.mono ?_; rintro e w1 ⟨rfl, rfl⟩)
          | (go_at_call 53; refine hA.mono ?_; rintro e w2 ⟨rfl, D2, C2⟩; have HD : Hid _ := And.intro D2 C2; clear D2 C2))
        go_ret
        exact ⟨rfl, Did.own HD.out.1 HD.out.2⟩
      | true =>
        rw [stepA_ok hp, Int.toNat_natCast]
        rw [hp] at hA
        have hmin : min (v.safe.size : Int) (m : Int) = (((cutv (v.safe, v.rest) m).1.size : Nat) : Int) := by rw [cut_safe]; omega
        have hmi : (m : Int) ≤ (c : Int) := by omega
        clear h F
        go_enter Tryz.func71, Tryz.ntmps71
        go_wp2_with (first
          | (go_at_call 80; refine hF.mono ?_; rintro e w1 ⟨rfl, rfl⟩)
          | (go_at_call 53; refine hA.mono ?_; rintro e w2 ⟨rfl, D2, C2⟩; have n0 := (D2.fw _ hk).c0; have n1 := (D2.fw _ hk).c1; have fr0 := (D2.fw _ hk).fro 0; have fr1 := (D2.fw _ hk).fro 1; simp only [hbv] at n0; have HD : Hid _ := And.intro D2 C2; clear D2 C2))
        go_ret
        obtain ⟨D2, C2⟩ := HD.out
        have F : Fw w2 B v := D2.fw _ hk
        refine ⟨rfl, ?_⟩
        have C3 : Ch (fun x => x = v.g) w2 ((w2.setCell ⟨v.g, 0, none⟩ (.slice a m c)).setCell ⟨v.g, 1, none⟩ (.int .i64 (((cutv (v.safe, v.rest) m).1.size : Nat) : Int))) := ((Ch.refl (fun x => x = v.g) w2).setCell ⟨v.g, 0, none⟩ _ (fun _ => rfl)).setCell ⟨v.g, 1, none⟩ _ (fun _ => rfl)
        have HH := F.cut hbv rfl h2 (cut_all v.safe v.rest m) (two1 (two0 F.hd (.slice a m c)) _) C3
        have := Did.file D2 C2 hk (C3.mono (fun _ _ e => .inl e)) HH rfl (fun x hx => .inl (by rw [hbv]; cases a <;> exact hx)) (by
          show ((cutv (v.safe, v.rest) m).1 ++ (cutv (v.safe, v.rest) m).2).size ≤ _
          rw [cut_all, ba_take_size]
          have : (v.safe ++ v.rest).size = v.all.size := rfl
          omega)
        exact this
  · rw [if_pos hno, stepA_no hno]
    have hF := find_no h hz hno
    have HD : Hid _ := Did.same h
    clear h
    generalize noOf es off k = z at *
    have hzz : (z == 0) = false := by simpa using hno
    go_enter Tryz.func71, Tryz.ntmps71
    go_wp2_with (go_at_call 80; refine hF.mono ?_; rintro e w1 ⟨rfl, rfl⟩)
    go_ret
    exact ⟨rfl, HD.out⟩

/-- a file's crash -/
def crL (n : Int) (v : Lv) : Lv := { safe := (cr n (v.safe, v.rest)).1, rest := (cr n (v.safe, v.rest)).2, g := v.g, bv := match v.bv with
  | .slice a _ c => .slice a (cr n (v.safe, v.rest)).1.size c
  | x => x }
set_option maxHeartbeats 4000000 in
theorem crash_any {v : Lv} (F : Fw w B v) (hsm : v.all.size ≤ 1048576) (n : Int) :
    Calls Tryz.prog 42 #[.pointer (some ⟨v.g, 0, none⟩), .int .i64 n] w fun e w' => (∃ x, e = .returned x) ∧ Fw w' B (crL n v) ∧ Ch (fun x => x = v.g) w w' := by
  have m0 := F.c0
  have m1 := F.c1
  have fr0 := F.fro 0
  have fr1 := F.fro 1
  obtain ⟨a, c, hbv, -, hnc, hcm⟩ := row_slice F.row
  rw [hbv] at m0
  have e1 : v.safe.size + v.rest.size = v.all.size := (ByteArray.size_append).symm
  obtain ⟨t, ht⟩ : ∃ t, t = (cr n (v.safe, v.rest)).1.size := ⟨_, rfl⟩
  have hts := cr_safe n v.safe v.rest
  rw [← ht] at hts
  have htl : t ≤ v.all.size := by omega
  have htc : (t : Int) ≤ (c : Int) := by omega
  have htc' : t ≤ c := by omega
  have hw1 : IntKind.i64.wrap ((v.all.size : Int) - (v.safe.size : Int)) = (v.rest.size : Int) := by rw [IntKind.wrap_i64]; omega
  have hw2 : IntKind.i64.wrap ((v.safe.size : Int) + min (max n 0) (v.rest.size : Int)) = (t : Int) := by
    have : min (max n 0) (v.rest.size : Int) = ((min n.toNat v.rest.size : Nat) : Int) := by omega
    rw [this, IntKind.wrap_i64]; omega
  have D1 := two1 F.hd (.int .i64 (t : Int))
  have k0 : (w.setCell ⟨v.g, 1, none⟩ (.int .i64 (t : Int))).cell? ⟨v.g, 0, none⟩ = some (.slice a v.all.size c) := by simp [World.cell?, D1, hbv]
  have k1 : (w.setCell ⟨v.g, 1, none⟩ (.int .i64 (t : Int))).cell? ⟨v.g, 1, none⟩ = some (.int .i64 (t : Int)) := by simp [World.cell?, D1]
  have HF : Hid (Fw w B v) := F
  have HT : Hid (t = (cr n (v.safe, v.rest)).1.size) := ht
  have HX : Hid _ := hts
  clear F ht hts D1 e1
  go_enter Tryz.func42, Tryz.ntmps42
  go_wp2
  go_region
  all_goals go_wp2
  all_goals go_region
  all_goals go_wp2
  all_goals go_end0
  all_goals
    refine ⟨⟨_, rfl⟩, ?_⟩
    have F := HF.out
    have C3 : Ch (fun x => x = v.g) w ((w.setCell ⟨v.g, 1, none⟩ (.int .i64 (t : Int))).setCell ⟨v.g, 0, none⟩ (.slice a t c)) := ((Ch.refl (fun x => x = v.g) w).setCell ⟨v.g, 1, none⟩ _ (fun _ => rfl)).setCell ⟨v.g, 0, none⟩ _ (fun _ => rfl)
    have hh := two0 (two1 F.hd (.int .i64 (t : Int))) (.slice a t c)
    have e2 : crL n v = { safe := (cr n (v.safe, v.rest)).1, rest := (cr n (v.safe, v.rest)).2, g := v.g, bv := .slice a t c } := by
      unfold crL
      rw [hbv, HT.out]
    have H3 := F.cut hbv rfl htl (cr_all n v.safe v.rest |>.trans (by rw [HX.out]; rfl)) (by rw [← HT.out]; exact hh) C3
    rw [e2]
    exact ⟨⟨H3.hd, H3.row, H3.low⟩, ⟨C3.os, C3.tape, C3.output, C3.size, C3.block⟩⟩
end Go.Proofs.YteifkkceldlfnaaGreatDoor
namespace Go.Proofs.YteifkkceldlfnaaGreatDoor
open Go.RowKit Go.Maps Go.Sort Go.Shelf
def keysLay_ren : Go.Shelf.Ren := ⟨fun | 7 => 109 | 10 => 134 | n => n, fun | 23 => 70 | 26 => 9 | 3 => 102 | 28 => 173 | 0 => 0 | 27 => 172 | 33 => 76 | 4 => 4 | n => n, fun | n => n⟩
theorem keysLay : Go.Proofs.SlLaysZ.n7 Tryz.prog keysLay_ren := {
  mixed := by kernel_rfl
  f7 := ⟨Tryz.f109.name, by decide, Tryz.func109.trans (congrArg some (by kernel_rfl))⟩
  f10 := ⟨Tryz.f134.name, by decide, Tryz.func134.trans (congrArg some (by kernel_rfl))⟩
  t0 := Tryz.underlying0
  a0 := Tryz.isAgg0
  z0 := Tryz.sizeOf0
  v0 := Tryz.zeroValue0
  t4 := Tryz.underlying4
  a4 := Tryz.isAgg4
  z4 := Tryz.sizeOf4
  v4 := Tryz.zeroValue4
  t23 := Tryz.underlying70
  a23 := Tryz.isAgg70
  z23 := Tryz.sizeOf70
  v23 := Tryz.zeroValue70
  t26 := Tryz.underlying9
  a26 := Tryz.isAgg9
  z26 := Tryz.sizeOf9
  v26 := Tryz.zeroValue9
  t27 := Tryz.underlying172
  a27 := Tryz.isAgg172
  z27 := Tryz.sizeOf172
  v27 := Tryz.zeroValue172
  t28 := Tryz.underlying173
  a28 := Tryz.isAgg173
  z28 := Tryz.sizeOf173
  v28 := Tryz.zeroValue173
  t33 := Tryz.underlying76
  a33 := Tryz.isAgg76
  z33 := Tryz.sizeOf76
  v33 := Tryz.zeroValue76 }
def sortedLay_ren : Go.Shelf.Ren := ⟨fun | 6 => 108 | 8 => 132 | 9 => 133 | 11 => 165 | 13 => 124 | 12 => 166 | 23 => 154 | 24 => 155 | 14 => 195 | 15 => 196 | 16 => 197 | 17 => 198 | 18 => 199 | 19 => 200 | 20 => 201 | 21 => 202 | 22 => 203 | 25 => 216 | 26 => 185 | 27 => 186 | 28 => 217 | 29 => 218 | 30 => 219 | 31 => 223 | n => n, fun | 26 => 9 | 28 => 173 | 24 => 35 | 0 => 0 | 3 => 3 | 37 => 180 | 48 => 168 | 50 => 36 | 4 => 4 | 40 => 212 | 39 => 211 | 45 => 216 | 5 => 5 | 9 => 9 | 51 => 247 | 55 => 250 | 57 => 273 | 58 => 138 | 33 => 76 | n => n, fun | n => n⟩
theorem sortedLay : Go.Proofs.SlLaysZ.n6 Tryz.prog sortedLay_ren := {
  mixed := by kernel_rfl
  f6 := ⟨Tryz.f108.name, by decide, Tryz.func108.trans (congrArg some (by kernel_rfl))⟩
  f8 := ⟨Tryz.f132.name, by decide, Tryz.func132.trans (congrArg some (by kernel_rfl))⟩
  f11 := ⟨Tryz.f165.name, by decide, Tryz.func165.trans (congrArg some (by kernel_rfl))⟩
  t0 := Tryz.underlying0
  a0 := Tryz.isAgg0
  z0 := Tryz.sizeOf0
  v0 := Tryz.zeroValue0
  t24 := Tryz.underlying35
  a24 := Tryz.isAgg35
  z24 := Tryz.sizeOf35
  v24 := Tryz.zeroValue35
  t26 := Tryz.underlying9
  a26 := Tryz.isAgg9
  z26 := Tryz.sizeOf9
  v26 := Tryz.zeroValue9
  t28 := Tryz.underlying173
  a28 := Tryz.isAgg173
  z28 := Tryz.sizeOf173
  v28 := Tryz.zeroValue173
  i26 := by kernel_rfl }
def sortLay_ren : Go.Shelf.Ren := ⟨fun | 6 => 133 | 8 => 124 | 9 => 166 | 19 => 154 | 20 => 155 | 21 => 195 | 22 => 196 | 23 => 197 | 24 => 198 | 25 => 199 | 26 => 200 | 27 => 201 | 28 => 202 | 29 => 203 | 36 => 216 | 31 => 185 | 32 => 186 | 37 => 217 | 38 => 218 | 39 => 219 | 41 => 223 | n => n, fun | 27 => 35 | 29 => 9 | 3 => 3 | 32 => 180 | 26 => 35 | 0 => 0 | 44 => 168 | 46 => 36 | 4 => 4 | 36 => 212 | 35 => 211 | 41 => 216 | 5 => 5 | 9 => 9 | 53 => 247 | 57 => 250 | 63 => 273 | 64 => 138 | n => n, fun | n => n⟩
theorem sortLay : Go.Proofs.SlLaysM.n6 Tryz.prog sortLay_ren := {
  mixed := by kernel_rfl
  f6 := ⟨Tryz.f133.name, by decide, Tryz.func133.trans (congrArg some (by kernel_rfl))⟩
  f8 := Tryz.func124.trans (congrArg some (by kernel_rfl))
  f9 := ⟨Tryz.f166.name, by decide, Tryz.func166.trans (congrArg some (by kernel_rfl))⟩
  f19 := Tryz.func154.trans (congrArg some (by kernel_rfl))
  f20 := Tryz.func155.trans (congrArg some (by kernel_rfl))
  f21 := ⟨Tryz.f195.name, by decide, Tryz.func195.trans (congrArg some (by kernel_rfl))⟩
  f22 := ⟨Tryz.f196.name, by decide, Tryz.func196.trans (congrArg some (by kernel_rfl))⟩
  f23 := ⟨Tryz.f197.name, by decide, Tryz.func197.trans (congrArg some (by kernel_rfl))⟩
  f24 := ⟨Tryz.f198.name, by decide, Tryz.func198.trans (congrArg some (by kernel_rfl))⟩
  f25 := ⟨Tryz.f199.name, by decide, Tryz.func199.trans (congrArg some (by kernel_rfl))⟩
  f26 := ⟨Tryz.f200.name, by decide, Tryz.func200.trans (congrArg some (by kernel_rfl))⟩
  f27 := ⟨Tryz.f201.name, by decide, Tryz.func201.trans (congrArg some (by kernel_rfl))⟩
  f28 := ⟨Tryz.f202.name, by decide, Tryz.func202.trans (congrArg some (by kernel_rfl))⟩
  f29 := ⟨Tryz.f203.name, by decide, Tryz.func203.trans (congrArg some (by kernel_rfl))⟩
  f31 := Tryz.func185.trans (congrArg some (by kernel_rfl))
  f32 := Tryz.func186.trans (congrArg some (by kernel_rfl))
  f36 := ⟨Tryz.f216.name, by decide, Tryz.func216.trans (congrArg some (by kernel_rfl))⟩
  f37 := ⟨Tryz.f217.name, by decide, Tryz.func217.trans (congrArg some (by kernel_rfl))⟩
  f38 := ⟨Tryz.f218.name, by decide, Tryz.func218.trans (congrArg some (by kernel_rfl))⟩
  f39 := ⟨Tryz.f219.name, by decide, Tryz.func219.trans (congrArg some (by kernel_rfl))⟩
  f41 := ⟨Tryz.f223.name, by decide, Tryz.func223.trans (congrArg some (by kernel_rfl))⟩
  t0 := Tryz.underlying0
  a0 := Tryz.isAgg0
  z0 := Tryz.sizeOf0
  v0 := Tryz.zeroValue0
  t3 := Tryz.underlying3
  a3 := Tryz.isAgg3
  z3 := Tryz.sizeOf3
  v3 := Tryz.zeroValue3
  t4 := Tryz.underlying4
  a4 := Tryz.isAgg4
  z4 := Tryz.sizeOf4
  v4 := Tryz.zeroValue4
  t5 := Tryz.underlying5
  a5 := Tryz.isAgg5
  z5 := Tryz.sizeOf5
  v5 := Tryz.zeroValue5
  t9 := Tryz.underlying9
  a9 := Tryz.isAgg9
  z9 := Tryz.sizeOf9
  v9 := Tryz.zeroValue9
  t26 := Tryz.underlying35
  a26 := Tryz.isAgg35
  z26 := Tryz.sizeOf35
  v26 := Tryz.zeroValue35
  t27 := Tryz.underlying35
  a27 := Tryz.isAgg35
  z27 := Tryz.sizeOf35
  v27 := Tryz.zeroValue35
  t29 := Tryz.underlying9
  a29 := Tryz.isAgg9
  z29 := Tryz.sizeOf9
  v29 := Tryz.zeroValue9
  t32 := Tryz.underlying180
  a32 := Tryz.isAgg180
  z32 := Tryz.sizeOf180
  v32 := Tryz.zeroValue180
  t35 := Tryz.underlying211
  a35 := Tryz.isAgg211
  z35 := Tryz.sizeOf211
  v35 := Tryz.zeroValue211
  t36 := Tryz.underlying212
  a36 := Tryz.isAgg212
  z36 := Tryz.sizeOf212
  v36 := Tryz.zeroValue212
  t41 := Tryz.underlying216
  a41 := Tryz.isAgg216
  z41 := Tryz.sizeOf216
  v41 := Tryz.zeroValue216
  t44 := Tryz.underlying168
  a44 := Tryz.isAgg168
  z44 := Tryz.sizeOf168
  v44 := Tryz.zeroValue168
  t46 := Tryz.underlying36
  a46 := Tryz.isAgg36
  z46 := Tryz.sizeOf36
  v46 := Tryz.zeroValue36
  t53 := Tryz.underlying247
  a53 := Tryz.isAgg247
  z53 := Tryz.sizeOf247
  v53 := Tryz.zeroValue247
  t57 := Tryz.underlying250
  a57 := Tryz.isAgg250
  z57 := Tryz.sizeOf250
  v57 := Tryz.zeroValue250
  t63 := Tryz.underlying273
  a63 := Tryz.isAgg273
  z63 := Tryz.sizeOf273
  v63 := Tryz.zeroValue273
  t64 := Tryz.underlying138
  a64 := Tryz.isAgg138
  z64 := Tryz.sizeOf138
  v64 := Tryz.zeroValue138 }

theorem sortsLay (m : Nat) : AnyZ.SortsIn Tryz.prog sortedLay_ren Fence.wide m :=
  ⟨fun blk off cap ss W hH hblk hsz => callsIn_wide.2 (AnyM.slices_Sort_string sortLay blk off cap ss W hH hblk hsz),
   fun p cap W => callsIn_wide.2 (AnyM.slices_Sort_string_none sortLay p cap W)⟩

/-- maps.Keys: a function over one new block that holds the map -/
theorem keys_any (mb : Option Nat) (W : World) : CallsIn Fence.wide 5 Tryz.prog 109 #[.map mb] W fun e w' => e = .returned (.func (.func 134) #[] #[.pointer (some ⟨W.heap.size, 0, none⟩)]) ∧ w' = W.alloc (.cells #[.map mb] 70) :=
  AnyZ.keys_in keysLay Fence.wide 5 trivial rfl mb W

set_option maxHeartbeats 1000000 in
/-- slices.Sorted over that: a new slice of the keys in order -/
theorem sorted_any {H : Type} (b nn : Nat) (D0 : DataW H) (R : Value → Option (DataW H × List MemPlace)) (w : World) (hown : w.ownsMap Tryz.prog 9 R b nn D0) (hmax : Maps.size D0 ≤ maxLen) (hbytes : Maps.size D0 * 16 ≤ 140737488355328) :
    CallsIn Fence.wide 5 Tryz.prog 108 #[.func (.func 134) #[] #[.pointer (some ⟨w.heap.size, 0, none⟩)]] (w.alloc (.cells #[.map (some b)] 70)) fun e w' => ∃ (v : Value) (ss : List (List UInt8)), e = .returned v ∧ ss.Perm (strKeys D0) ∧
      w'.ownsRow (w.alloc (.cells #[.map (some b)] 70)).heap.size 9 1 v ss.length ((ss.mergeSort (fun x y => decide (x ≤ y))).map encStr) ∧ (v = .slice none 0 0 ↔ ss = []) ∧ Below (w.alloc (.cells #[.map (some b)] 70)).heap.size (w.alloc (.cells #[.map (some b)] 70)) w' := by
  have hbl := hown.lt
  have hseq : SeqGives Fence.wide 2 Tryz.prog 134 #[.pointer (some ⟨w.heap.size, 0, none⟩)] encStr (fun ss => ss.Perm (strKeys D0)) (Maps.size D0) (w.alloc (.cells #[.map (some b)] 70)) :=
    AnyZ.keys_gives (ρ := keysLay_ren) { keysLay with } Fence.wide _ trivial rfl (by omega) w.heap.size b nn D0 _ (by simp) (by simp) (by
      obtain ⟨es, clock, hb, Ft, hs, hD⟩ := hown
      exact ⟨es, clock, (Below.heap_alloc _ _ b hbl).trans hb, Ft, hs, hD⟩)
  exact AnyZ.sorted_in sortedLay Fence.wide 5 trivial trivial trivial trivial rfl (by omega) (sortsLay _) (enters_of Tryz.func133 (by kernel_rfl) rfl) 134 #[.pointer (some ⟨w.heap.size, 0, none⟩)] trivial (enters_of Tryz.func134 (by kernel_rfl) rfl) _ _ hmax hbytes _ hseq

set_option maxHeartbeats 1000000 in
/-- the same of the map that is nil -/
theorem sorted_nil (w : World) :
    CallsIn Fence.wide 5 Tryz.prog 108 #[.func (.func 134) #[] #[.pointer (some ⟨w.heap.size, 0, none⟩)]] (w.alloc (.cells #[.map none] 70)) fun e w' => ∃ (v : Value) (ss : List (List UInt8)), e = .returned v ∧ ss = [] ∧
      w'.ownsRow (w.alloc (.cells #[.map none] 70)).heap.size 9 1 v ss.length ((ss.mergeSort (fun x y => decide (x ≤ y))).map encStr) ∧ (v = .slice none 0 0 ↔ ss = []) ∧ Below (w.alloc (.cells #[.map none] 70)).heap.size (w.alloc (.cells #[.map none] 70)) w' := by
  have hseq : SeqGives Fence.wide 2 Tryz.prog 134 #[.pointer (some ⟨w.heap.size, 0, none⟩)] encStr (fun ss : List (List UInt8) => ss = []) 0 (w.alloc (.cells #[.map none] 70)) :=
    AnyZ.keys_gives_nil (ρ := keysLay_ren) { keysLay with } Fence.wide _ trivial rfl w.heap.size _ (by simp) (by simp)
  exact AnyZ.sorted_in sortedLay Fence.wide 5 trivial trivial trivial trivial rfl (by omega) (sortsLay _) (enters_of Tryz.func133 (by kernel_rfl) rfl) 134 #[.pointer (some ⟨w.heap.size, 0, none⟩)] trivial (enters_of Tryz.func134 (by kernel_rfl) rfl) _ 0 (Nat.zero_le _) (by omega) _ hseq
end Go.Proofs.YteifkkceldlfnaaGreatDoor
namespace Go.Proofs.YteifkkceldlfnaaGreatDoor
open Go.RowKit Go.Shelf Go.Sort
open Go.Lib hiding intOf
variable {w : World} {B d : Nat} {es : List Le} {p : Int} {off : Bool} {mo : Option Nat}

/-- the names' cells -/
def nms {V : Type} (es : List (ByteArray × V)) : List Value := es.map fun e => .string e.1
theorem enc_str (s : ByteArray) : encStr s.data.toList = .string s := by
  show Value.string ⟨s.data.toList.toArray⟩ = _
  rw [ba_list]
theorem names_sorted {V : Type} {es : List (ByteArray × V)} (h : Rise es) {ss : List (List UInt8)} (hp : ss.Perm (es.map fun e => e.1.data.toList)) : ss.length = es.length ∧ (ss.mergeSort (fun x y => decide (x ≤ y))).map encStr = nms es := by
  refine ⟨by rw [hp.length_eq, List.length_map], ?_⟩
  have h1 : ss.mergeSort (fun x y => decide (x ≤ y)) = (es.map fun e => e.1.data.toList).mergeSort (fun x y => decide (x ≤ y)) := mergeSort_of_perm hp
  rw [h1, List.mergeSort_of_pairwise]
  · rw [List.map_map]
    unfold nms
    apply List.map_congr_left
    intro e _
    exact enc_str e.1
  · rw [List.pairwise_map]
    exact h.imp (fun {a b} hab => by
      rw [decide_eq_true_iff]
      exact List.le_of_lt ((lt_iff a.1 b.1).1 hab))
theorem strKeys_ents (es : List Le) : strKeys (DataW.map (ents dg es)) = es.map fun e => e.1.data.toList := by
  show (ents dg es).map (fun p => strOf p.1) = _
  unfold ents
  rw [List.map_map]
  rfl

set_option maxHeartbeats 1000000 in
theorem inOrder_any (h : Ld w B d es p off mo) :
    Calls Tryz.prog 79 #[.map mo] w fun e w' => ∃ v, e = .returned v ∧ w'.ownsRow w.heap.size 9 1 v es.length (nms es) ∧ Below w.heap.size w w' := by
  refine (callsIn_wide (n := 6)).1 ?_
  have hfK : Fence.wide.fn 109 := trivial
  have hfS : Fence.wide.fn 108 := trivial
  cases mo with
  | none =>
    have he := h.mn rfl
    subst he
    clear h
    refine callsIn_of_wp Tryz.func79 rfl trivial ?_ rfl
    simp only [Tryz.ntmps79, List.size_toArray, List.length_cons, List.length_nil, Nat.reduceAdd, Nat.reduceSub, Array.replicate_succ, Array.replicate_zero, List.push_toArray, List.append_toArray, List.nil_append, List.cons_append]
    gi_wp2_with (first
      | (gi_at_call 109; refine (keys_any _ _).mono ?_; rintro e w' ⟨rfl, rfl⟩)
      | (gi_at_call 108; refine (sorted_nil w).mono ?_; rintro e w' ⟨v, ss, rfl, hS, hrow, hnil, hb⟩))
    go_ret
    obtain ⟨h1, h2⟩ := names_sorted (es := ([] : List Le)) List.Pairwise.nil (ss := ss) (by rw [hS]; exact List.Perm.nil)
    rw [h1, h2] at hrow
    exact ⟨v, rfl, row_low hrow (by simp), ((Below.refl _ w).alloc (Nat.le_refl _) _).trans (hb.mono (by simp))⟩
  | some mb =>
    have hown := h.mp mb rfl
    have hf := h.few
    have hr := h.rise
    clear h
    have hsz : Maps.size (DataW.map (ents dg es)) = es.length := by rw [Maps.size_eq, ents_len]
    have hmax : Maps.size (DataW.map (ents dg es)) ≤ maxLen := by rw [hsz]; unfold maxLen; omega
    have hbytes : Maps.size (DataW.map (ents dg es)) * 16 ≤ 140737488355328 := by rw [hsz]; omega
    refine callsIn_of_wp Tryz.func79 rfl trivial ?_ rfl
    simp only [Tryz.ntmps79, List.size_toArray, List.length_cons, List.length_nil, Nat.reduceAdd, Nat.reduceSub, Array.replicate_succ, Array.replicate_zero, List.push_toArray, List.append_toArray, List.nil_append, List.cons_append]
    gi_wp2_with (first
      | (gi_at_call 109; refine (keys_any _ _).mono ?_; rintro e w' ⟨rfl, rfl⟩)
      | (gi_at_call 108; refine (sorted_any mb _ _ rdF w hown hmax hbytes).mono ?_; rintro e w' ⟨v, ss, rfl, hS, hrow, hnil, hb⟩))
    go_ret
    rw [strKeys_ents] at hS
    obtain ⟨h1, h2⟩ := names_sorted hr hS
    rw [h1, h2] at hrow
    exact ⟨v, rfl, row_low hrow (by simp), ((Below.refl _ w).alloc (Nat.le_refl _) _).trans (hb.mono (by simp))⟩

set_option maxHeartbeats 1000000 in
theorem Names_any (h : Ld w B d es p off mo) :
    Calls Tryz.prog 41 #[.pointer (some ⟨d, 0, none⟩)] w fun e w' => ∃ v, e = .returned v ∧ w'.ownsRow w.heap.size 9 1 v es.length (nms es) ∧ Below w.heap.size w w' := by
  have hI := inOrder_any h
  have c0 := h.c0
  clear h
  go_enter Tryz.func41, Tryz.ntmps41
  go_wp2_with (go_at_call 79; refine hI.mono ?_; rintro e w1 ⟨v, rfl, hv, hb⟩; have HR : Hid _ := And.intro hv hb; clear hv hb)
  go_ret
  exact ⟨v, rfl, HR.out.1, HR.out.2⟩
set_option maxHeartbeats 1000000 in
theorem Names_nil (w : World) :
    Calls Tryz.prog 41 #[.pointer none] w fun e w' => e = .returned (.slice none 0 0) ∧ w' = w := by
  go_enter Tryz.func41, Tryz.ntmps41
  go_wp2
  go_ret
  exact ⟨rfl, rfl⟩
end Go.Proofs.YteifkkceldlfnaaGreatDoor
namespace Go.Proofs.YteifkkceldlfnaaGreatDoor
open Go.RowKit Go.Shelf Go.Sort
open Go.Lib hiding intOf
variable {w : World} {B d : Nat} {es : List Le} {p : Int} {off : Bool} {mo : Option Nat}

/-- a slice of numbers -/
def Ks (w : World) (ka : Option Addr) (ks : List Int) : Prop := ∀ j (hj : j < ks.length), ∃ b o, ka = some ⟨b, o, none⟩ ∧ w.cell? ⟨b, o + j, none⟩ = some (.int .i64 ks[j])
theorem Ks.ch {w w' : World} {ka : Option Addr} {ks : List Int} {X : Nat → Prop} (h : Ks w ka ks) (hc : Ch X w w') (hX : ∀ a, ka = some a → ¬ X a.block) : Ks w' ka ks := by
  intro j hj
  obtain ⟨b, o, e, hcell⟩ := h j hj
  exact ⟨b, o, e, hc.cell hcell (hX ⟨b, o, none⟩ e)⟩
/-- the first i files behind a crash -/
def crTo (ks : List Int) (i : Nat) (es : List Le) : List Le := es.mapIdx fun j e => (e.1, if j < i then crL (kp ks j) e.2 else e.2)
theorem crTo_len (ks : List Int) (i : Nat) (es : List Le) : (crTo ks i es).length = es.length := by simp [crTo]
theorem crTo_get (ks : List Int) (i : Nat) (es : List Le) {j : Nat} (hj : j < es.length) : (crTo ks i es)[j]'(by rw [crTo_len]; exact hj) = (es[j].1, if j < i then crL (kp ks j) es[j].2 else es[j].2) := by simp [crTo]
theorem crTo_zero (ks : List Int) (es : List Le) : crTo ks 0 es = es := by
  apply List.ext_getElem (crTo_len _ _ _)
  intro j h1 h2
  rw [crTo_get ks 0 es h2, if_neg (by omega)]
theorem crTo_mem {ks : List Int} {i : Nat} {es : List Le} (hi : i < es.length) : (es[i].1, es[i].2) ∈ crTo ks i es := by
  have h := List.getElem_mem (l := crTo ks i es) (n := i) (by rw [crTo_len]; exact hi)
  rw [crTo_get ks i es hi, if_neg (by omega)] at h
  exact h
theorem crTo_step {ks : List Int} {i : Nat} {es : List Le} (hi : i < es.length) (hr : Rise (crTo ks i es)) : put (crTo ks i es) es[i].1 (crL (kp ks i) es[i].2) = crTo ks (i + 1) es := by
  have hi' : i < (crTo ks i es).length := by rw [crTo_len]; exact hi
  have e1 : (crTo ks i es)[i].1 = es[i].1 := by rw [crTo_get ks i es hi]
  rw [← e1, put_at hr hi']
  apply List.ext_getElem (by simp [crTo_len])
  intro j h1 h2
  have hj : j < es.length := by rw [crTo_len] at h2; exact h2
  rw [crTo_get ks (i + 1) es hj, List.getElem_set]
  split
  · rename_i e; subst e
    rw [if_pos (by omega), e1]
  · rw [crTo_get ks i es hj]
    by_cases hji : j < i
    · rw [if_pos hji, if_pos (by omega)]
    · rw [if_neg hji, if_neg (by omega)]
theorem crTo_all (ks : List Int) (es : List Le) : fil (crTo ks es.length es) = crAll ks (fil es) := by
  apply List.ext_getElem (by simp [fil, vals, crTo, crAll])
  intro j h1 h2
  have hj : j < es.length := by simpa [fil, vals, crTo] using h1
  simp [fil, vals, crTo, crAll, hj, crL, sr]
theorem crL_own (n : Int) (v : Lv) : (crL n v).bv.ownBlock = v.bv.ownBlock := by
  unfold crL
  simp only
  cases v.bv with
  | slice a _ c => cases a <;> rfl
  | _ => rfl
theorem cr_small (n : Int) (v : Lv) : (crL n v).all.size ≤ v.all.size := by
  show ((cr n (v.safe, v.rest)).1 ++ (cr n (v.safe, v.rest)).2).size ≤ _
  rw [cr_all, ba_take_size]
  exact Nat.min_le_right _ _
theorem crTo_foot {ks : List Int} {i : Nat} {es : List Le} {x : Nat} (hx : foot d mo (crTo ks i es) x) : foot d mo es x := by
  rcases hx with hx | hx | ⟨e, he, hx⟩
  · exact .inl hx
  · exact .inr (.inl hx)
  · obtain ⟨j, hj, rfl⟩ := List.mem_iff_getElem.1 he
    have hj' : j < es.length := by rw [crTo_len] at hj; exact hj
    refine .inr (.inr ⟨es[j], List.getElem_mem hj', ?_⟩)
    rw [crTo_get ks i es hj'] at hx
    simp only at hx
    split at hx
    · rcases hx with hx | hx
      · exact .inl hx
      · exact .inr ((crL_own _ _).symm.trans hx)
    · exact hx
theorem nms_at {V : Type} (es : List (ByteArray × V)) {i : Nat} (hi : i < es.length) : (nms es)[i]? = some (.string es[i].1) := by
  unfold nms
  rw [List.getElem?_map, List.getElem?_eq_getElem hi]
  rfl

/-- what stands in the loop -/
def CrJ (w1 : World) (B d : Nat) (es : List Le) (p : Int) (off : Bool) (mo : Option Nat) (ks : List Int) (i : Nat) (wr : World) : Prop :=
  Ld wr B d (crTo ks i es) p off mo ∧ Ch (foot d mo es) w1 wr

set_option maxHeartbeats 4000000 in
theorem Crash_any (h : Ld w B d es p off mo) {ka : Option Addr} {ks : List Int} {kc : Nat} (hk : Ks w ka ks) (hkf : ks ≠ [] → ∀ a, ka = some a → ¬ foot d mo es a.block ∧ a.block < w.heap.size) :
    Calls Tryz.prog 11 #[.pointer (some ⟨d, 0, none⟩), .slice ka ks.length kc] w fun e w' => (∃ x, e = .returned x) ∧ Did w B d es mo w' (aCrash (fil es, p, off) ks) := by
  have hN := Names_any h
  have H : Hid (Ld w B d es p off mo ∧ Ks w ka ks) := ⟨h, hk⟩
  have hfew := h.few
  clear h hk
  go_enter Tryz.func11, Tryz.ntmps11
  go_wp2_with (go_at_call 41; refine hN.mono ?_; rintro e w1 ⟨nv, rfl, hrow, hb1⟩; obtain ⟨na, nc, rfl, -⟩ := row_slice hrow; have HR : Hid (w1.ownsRow w.heap.size 9 1 (.slice na es.length nc) es.length (nms es) ∧ Below w.heap.size w w1) := ⟨hrow, hb1⟩; clear hrow hb1)
  obtain ⟨hrow, hb1⟩ := HR.out
  have hL1 : Ld w1 B d es p off mo := H.out.1.below hb1
  have hK1 : Ks w1 ka ks := H.out.2.ch (X := fun _ => False) (Ch.of_below hb1) (fun _ _ => id)
  have hapart : ∀ x, (Value.slice na es.length nc).ownBlock = some x → ¬ foot d mo es x := fun x hx hf => by
    have h1 := (row_obj hrow hx).1
    have h2 := (H.out.1.foot_lt hf).1
    omega
  go_loopw [12] (fun vi wr => ∃ i : Nat, vi = .int .i64 i ∧ i ≤ es.length ∧ CrJ w1 B d es p off mo ks i wr) (fun vi _ => es.length - (intOf vi).toNat)
  case atStart => exact ⟨0, rfl, Nat.zero_le _, by rw [crTo_zero]; exact hL1, Ch.refl _ w1⟩
  case round =>
    obtain ⟨i, rfl, hi, hJ⟩ := hrel
    obtain ⟨hL, hC⟩ := hJ
    by_cases hl : i < es.length
    · have hli : (i : Int) < (es.length : Int) := by omega
      have hi0 : (0 : Int) ≤ (i : Int) := Int.natCast_nonneg _
      have hrw := hC.row hrow hapart
      obtain ⟨g, hg⟩ : ∃ g, na = some ⟨g, 0, none⟩ := by
        rcases hrow.2 with ⟨e, h0⟩ | ⟨g, cap', cur, e, -⟩
        · omega
        · cases e; exact ⟨g, rfl⟩
      subst hg
      have m0 := row_cell hrw (nms_at es hl)
      have hmem := crTo_mem (ks := ks) hl
      have hlook := hL.look1 hmem
      have c0 := hL.c0
      have hcr := crash_any (hL.fw _ hmem) (hL.small _ hmem).2 (kp ks i)
      have HS : Hid (∀ w', Fw w' B (crL (kp ks i) es[i].2) → Ch (fun x => x = es[i].2.g) wr w' → CrJ w1 B d es p off mo ks (i + 1) w') := by
        intro w' hF hC'
        have hx := hL.file hmem (hC'.mono (fun _ _ e => .inl e)) hF rfl (fun x hx => .inl ((crL_own _ _).symm.trans hx)) (Nat.le_trans (cr_small _ _) (hL.small _ hmem).2)
        rw [crTo_step hl hL.rise] at hx
        exact ⟨hx, hC.trans (hC'.mono (fun x _ e => crTo_foot (ks := ks) (i := i) (.inr (.inr ⟨_, hmem, .inl e⟩))))⟩
      generalize es[i].1 = nm at *
      by_cases hkl : i < ks.length
      · have hkl' : (i : Int) < (ks.length : Int) := by omega
        obtain ⟨kb, ko, rfl, hkc⟩ := (hK1.ch hC (fun a e => (hkf (fun h0 => by rw [h0] at hkl; simp at hkl) a e).1)) i hkl
        have hkp : kp ks i = ks[i] := by simp [kp, hkl]
        rw [hkp] at hcr HS
        clear hL hC hrw hmem hK1 hL1 hrow hapart hkf hN hkp
        generalize es[i].2 = vv at *
        generalize ks[i] = kk at *
        go_wp2_with (go_at_call 42; refine hcr.mono ?_; rintro e w3 ⟨⟨x, rfl⟩, hF, hC'⟩; have HJ : Hid (CrJ w1 B d es p off mo ks (i + 1) w3) := HS.out w3 hF hC'; clear hF hC')
        go_roundw
        case rel => exact ⟨i + 1, by simp, by omega, HJ.out⟩
        case measure => simp [intOf]; omega
      · have hkl' : ¬ (i : Int) < (ks.length : Int) := by omega
        have hkp : kp ks i = 0 := by simp [kp, Nat.le_of_not_lt hkl]
        rw [hkp] at hcr HS
        clear hL hC hrw hmem hK1 hL1 hrow hapart hkf hN hkp
        generalize es[i].2 = vv at *
        go_wp2_with (go_at_call 42; refine hcr.mono ?_; rintro e w3 ⟨⟨x, rfl⟩, hF, hC'⟩; have HJ : Hid (CrJ w1 B d es p off mo ks (i + 1) w3) := HS.out w3 hF hC'; clear hF hC')
        go_roundw
        case rel => exact ⟨i + 1, by simp, by omega, HJ.out⟩
        case measure => simp [intOf]; omega
    · have hli : ¬ (i : Int) < (es.length : Int) := by omega
      obtain rfl : i = es.length := by omega
      have c3 := hL.c3
      have f3 := hL.fro 3
      have hc : Ch (fun x => x = d) wr (wr.setCell ⟨d, 3, none⟩ (.bool false)) := (Ch.refl _ wr).setCell _ _ (fun _ => rfl)
      have hL3 := hL.cells p false hL.pw hc (heap_setCell_same wr d 3 _ _ (.bool false) hL.hd)
      have hP := Power_any hL3 (-1) (by decide)
      have HE : Hid (Ch (foot d mo es) w (wr.setCell ⟨d, 3, none⟩ (.bool false))) :=
        ((Ch.of_below (X := foot d mo es) hb1).trans hC).trans (hc.mono (fun _ _ e => .inl e))
      clear hL hC hL3 hc hK1 hL1 hrow hapart hkf hN
      go_wp2_with (go_at_call 22; refine hP.mono ?_; rintro e w3 ⟨⟨x, rfl⟩, hLd, hC'⟩; have HJ : Hid _ := And.intro hLd hC'; clear hLd hC')
      go_end0
      refine ⟨⟨_, rfl⟩, crTo ks es.length es, mo, HJ.out.1, crTo_all ks es, HE.out.trans (HJ.out.2.mono (fun _ _ e => .inl e)), fun x hx => .inl (crTo_foot hx)⟩
set_option maxHeartbeats 1000000 in
theorem Crash_nil (kv : Value) (w : World) :
    Calls Tryz.prog 11 #[.pointer none, kv] w fun e w' => (∃ x, e = .returned x) ∧ w' = w := by
  go_enter Tryz.func11, Tryz.ntmps11
  go_wp2
  refine bodyPost_ret (results_none rfl _ _ _) rfl ?_
  exact ⟨⟨_, rfl⟩, rfl⟩
set_option maxHeartbeats 1000000 in
theorem Power_nil (a : Int) (w : World) :
    Calls Tryz.prog 22 #[.pointer none, .int .i64 a] w fun e w' => (∃ x, e = .returned x) ∧ w' = w := by
  go_enter Tryz.func22, Tryz.ntmps22
  go_wp2
  refine bodyPost_ret (results_none rfl _ _ _) rfl ?_
  exact ⟨⟨_, rfl⟩, rfl⟩
end Go.Proofs.YteifkkceldlfnaaGreatDoor
namespace Go.Proofs.YteifkkceldlfnaaGreatDoor
open Go.RowKit Go.Shelf Go.Sort

/-- where the library's numbers of stringslite.Clone and its types lie in this program -/
def dCloneRen : Shelf.Ren := ⟨fun _ => 70, fun
  | 0 => 0
  | 3 => 3
  | 4 => 4
  | 5 => 5
  | 9 => 9
  | 37 => 116
  | _ => 164, fun x => x⟩

theorem dCloneLays : LaysPu.n25 Tryz.prog dCloneRen where
  mixed := by kernel_rfl
  f25 := Tryz.func70.trans (by kernel_rfl)
  t0 := Tryz.underlying0
  a0 := Tryz.isAgg0
  z0 := Tryz.sizeOf0
  v0 := Tryz.zeroValue0
  i0 := by kernel_rfl
  t3 := Tryz.underlying3
  a3 := Tryz.isAgg3
  z3 := Tryz.sizeOf3
  v3 := Tryz.zeroValue3
  i3 := by kernel_rfl
  t4 := Tryz.underlying4
  a4 := Tryz.isAgg4
  z4 := Tryz.sizeOf4
  v4 := Tryz.zeroValue4
  i4 := by kernel_rfl
  t5 := Tryz.underlying5
  a5 := Tryz.isAgg5
  z5 := Tryz.sizeOf5
  v5 := Tryz.zeroValue5
  i5 := by kernel_rfl
  t9 := Tryz.underlying9
  a9 := Tryz.isAgg9
  z9 := Tryz.sizeOf9
  v9 := Tryz.zeroValue9
  i9 := by kernel_rfl
  t37 := Tryz.underlying116
  a37 := Tryz.isAgg116
  z37 := Tryz.sizeOf116
  v37 := Tryz.zeroValue116
  i37 := by kernel_rfl
  t47 := Tryz.underlying164
  a47 := Tryz.isAgg164
  z47 := Tryz.sizeOf164
  v47 := Tryz.zeroValue164
  i47 := by kernel_rfl

/-- stringslite.Clone, by the library's contract: the same bytes; of what was there nothing is changed -/
theorem cloneLite (s : ByteArray) (w : World) (hlim : s.size ≤ 281474976710656) :
    Calls Tryz.prog 70 #[.string s] w fun e w' => e = .returned (.string s) ∧ Below w.heap.size w w' := AnyPu.stringslite_Clone dCloneLays s w hlim

set_option maxHeartbeats 400000 in
theorem clone_any (s : ByteArray) (w : World) (hlim : s.size ≤ 281474976710656) :
    Calls Tryz.prog 31 #[.string s] w fun e w' => e = .returned (.string s) ∧ Below w.heap.size w w' := by
  go_enter Tryz.func31, Tryz.ntmps31
  go_wp2_with fail
  refine (cloneLite s _ hlim).mono ?_
  rintro r w' ⟨rfl, hb⟩
  go_wp2
  go_ret
  exact ⟨rfl, hb⟩

end Go.Proofs.YteifkkceldlfnaaGreatDoor
namespace Go.Proofs.YteifkkceldlfnaaGreatDoor
open Go.RowKit Go.Shelf Go.Sort
open Go.Lib hiding intOf
variable {w : World} {B d : Nat} {es : List Le} {p : Int} {off : Bool} {mo : Option Nat}

set_option maxHeartbeats 2000000 in
theorem fits_has (h : Ld w B d es p off mo) {k : ByteArray} {v : Lv} (hk : (k, v) ∈ es) (s : ByteArray) :
    Calls Tryz.prog 52 #[.pointer (some ⟨d, 0, none⟩), .string k, .string s] w fun e w' => e = .returned (.bool (decide (v.all.size + s.size ≤ 1048576))) ∧ w' = w := by
  have c0 := h.c0
  have hl := h.look hk
  have F : Fw w B v := h.fw _ hk
  have hsm : v.all.size ≤ 1048576 := (h.small _ hk).2
  have m0 := F.c0
  obtain ⟨a, c, hbv, -⟩ := row_slice F.row
  rw [hbv] at m0
  clear h F
  have hw1 : IntKind.i64.wrap (1048576 - (v.all.size : Int)) = 1048576 - (v.all.size : Int) := by rw [IntKind.wrap_i64]; omega
  by_cases hf : v.all.size + s.size ≤ 1048576
  · have hd : decide (v.all.size + s.size ≤ 1048576) = true := by simpa using hf
    rw [hd]
    have hf' : (s.size : Int) ≤ 1048576 - (v.all.size : Int) := by omega
    clear hf hd
    generalize v.all.size = al at *
    go_enter Tryz.func52, Tryz.ntmps52
    go_wp2
    go_ret
    exact ⟨rfl, rfl⟩
  · have hd : decide (v.all.size + s.size ≤ 1048576) = false := by simpa using hf
    rw [hd]
    have hf' : ¬ (s.size : Int) ≤ 1048576 - (v.all.size : Int) := by omega
    clear hf hd
    generalize v.all.size = al at *
    go_enter Tryz.func52, Tryz.ntmps52
    go_wp2
    go_ret
    exact ⟨rfl, rfl⟩
set_option maxHeartbeats 2000000 in
theorem fits_no (h : Ld w B d es p off mo) {k : ByteArray} (hz : k.size ≤ 9223372036854775807) (hk : has es k = false) (s : ByteArray) :
    Calls Tryz.prog 52 #[.pointer (some ⟨d, 0, none⟩), .string k, .string s] w fun e w' => e = .returned (.bool (decide (es.length < 256 ∧ s.size ≤ 1048576))) ∧ w' = w := by
  have c0 := h.c0
  have hl := h.look_no hz hk
  have hn := h.len
  clear h
  generalize es.length = n at *
  by_cases h1 : n < 256
  · have h1' : (n : Int) < 256 := by omega
    by_cases h2 : s.size ≤ 1048576
    · have h2' : (s.size : Int) ≤ 1048576 := by omega
      have hd : decide (n < 256 ∧ s.size ≤ 1048576) = true := by simp [h1, h2]
      rw [hd]
      clear hd h1 h2
      go_enter Tryz.func52, Tryz.ntmps52
      go_wp2
      go_ret
      exact ⟨rfl, rfl⟩
    · have h2' : ¬ (s.size : Int) ≤ 1048576 := by omega
      have hd : decide (n < 256 ∧ s.size ≤ 1048576) = false := by simp [h2]
      rw [hd]
      clear hd h1 h2
      go_enter Tryz.func52, Tryz.ntmps52
      go_wp2
      go_ret
      exact ⟨rfl, rfl⟩
  · have h1' : ¬ (n : Int) < 256 := by omega
    have hd : decide (n < 256 ∧ s.size ≤ 1048576) = false := by simp [h1]
    rw [hd]
    clear hd h1
    go_enter Tryz.func52, Tryz.ntmps52
    go_wp2
    go_ret
    exact ⟨rfl, rfl⟩

/-- a new file -/
def nf (g : Nat) : Lv := { safe := ⟨#[]⟩, rest := ⟨#[]⟩, g := g, bv := .slice none 0 0 }
theorem nf_all (g : Nat) : (nf g).all = ⟨#[]⟩ := by
  show (⟨#[]⟩ : ByteArray) ++ (⟨#[]⟩ : ByteArray) = _
  exact ByteArray.append_empty
theorem nf_fw {w : World} {B g : Nat} (hh : w.heap[g]? = some (.cells #[.slice none 0 0, .int .i64 0] 118 (0, 0))) (hB : B ≤ g) : Fw w B (nf g) :=
  ⟨hh, by rw [nf_all]; exact World.ownsRow_nil _ _ _ _, hB⟩
/-- a file is put into the map -/
theorem Ld.store {w1 w3 : World} {mb : Nat} (h : Ld w1 B d es p off (some mb)) {k : ByteArray} {v : Lv} (hk : has es k = false) (hks : k.size ≤ 32) (hf : es.length < 256) (F : Fw w1 B v) (hv : v.all.size ≤ 1048576)
    (hnew : ∀ e ∈ es, Apart e.2 v) (ho : w3.ownsMap Tryz.prog 9 rdF mb (es.length + 1) ((DataW.map (ents dg es)).put (.string k.data.toList) (dg v))) (ht : w1.mapTurned w3 mb) : Ld w3 B d (put es k v) p off (some mb) ∧ Ch (fun x => x = mb) w1 w3 := by
  have C3 : Ch (fun x => x = mb) w1 w3 := Ch.of_grown ht.grown (fun x e _ => by cases e; rfl)
  have hkm : ∀ x, x = mb → ∀ cur t f, w1.heap[x]? ≠ some (.cells cur t f) := by
    rintro x rfl cur t f hx
    obtain ⟨a, c, hb, _⟩ := h.mp x rfl
    rw [hb] at hx; cases hx
  have hFw : ∀ u, Fw w1 B u → Fw w3 B u := fun u F => F.ch C3 (fun x hx e1 => by
    obtain ⟨cur, t, h1, _⟩ := F.kind hx
    exact hkm x e1 _ _ _ h1)
  refine ⟨⟨C3.obj h.hd (fun e => hkm d e _ _ _ h.hd), ?_, (fun e => by cases e), ?_, ?_, put_rise h.rise k v, h.low, ?_, ?_, h.pw⟩, C3⟩
  · intro mb' e
    cases e
    rw [ents_put dg h.rise] at ho
    have := owns_tight ho
    rw [ents_len] at this
    exact this
  · intro e he
    rcases (mem_put h.rise k v e).1 he with rfl | ⟨he, _⟩
    · exact hFw _ F
    · exact hFw _ (h.fw e he)
  · intro a ha b hb hne
    rcases (mem_put h.rise k v a).1 ha with rfl | ⟨ha, _⟩ <;> rcases (mem_put h.rise k v b).1 hb with rfl | ⟨hb, _⟩
    · exact absurd rfl hne
    · have := hnew b hb
      exact ⟨fun e => this.1 e.symm, fun x hx hv => this.2 x hv hx⟩
    · exact hnew a ha
    · exact h.apart a ha b hb hne
  · rw [put_len, hk]
    simp only [Bool.false_eq_true, if_false]
    omega
  · intro e he
    rcases (mem_put h.rise k v e).1 he with rfl | ⟨he, _⟩
    · exact ⟨hks, hv⟩
    · exact h.small e he
/-- a map is made -/
theorem Ld.made (h : Ld w B d es p off none) : Ld ((w.alloc (.map #[] 0)).setCell ⟨d, 0, none⟩ (.map (some w.heap.size))) B d es p off (some w.heap.size) := by
  have he := h.mn rfl
  subst he
  have h0 : (w.alloc (.map #[] 0)).heap[d]? = _ := (((Below.refl _ w).alloc (Nat.le_refl _) (.map #[] 0)).block d h.lt).trans h.hd
  have h1 := heap_setCell_same _ d 0 _ _ (.map (some w.heap.size)) h0
  refine ⟨h1, ?_, (fun e => by cases e), fun _ h => (by cases h), fun _ h => (by cases h), List.Pairwise.nil, ⟨h.low.1, fun mb e => ?_⟩, by simp, fun _ h => (by cases h), h.pw⟩
  · intro mb e
    cases e
    have hlt := h.lt
    exact (World.ownsMap_made (H := Unit) w Tryz.prog 9 rdF).setCell (a := ⟨d, 0, none⟩) (fun e => by have e : w.heap.size = d := e; omega) _
  · cases e
    have := h.low.1
    have := h.lt
    omega
theorem eqlSome (bm : Nat) (w : World) : (binOp .eql 70 (.map (some bm)) (.map none)).run Tryz.prog w = .ok (.bool false) w := by kernel_rfl
theorem eqlNil (w : World) : (binOp .eql 70 (.map none) (.map none)).run Tryz.prog w = .ok (.bool true) w := by kernel_rfl
/-- what open leaves -/
def Opened (w : World) (B d : Nat) (es : List Le) (p : Int) (off : Bool) (mo : Option Nat) (k : ByteArray) (g : Nat) (w' : World) : Prop :=
  w.heap.size ≤ g ∧ ∃ mo', Ld w' B d (put es k (nf g)) p off mo' ∧ Ch (fun x => x = d ∨ mo = some x) w w' ∧ ∀ x, mo' = some x → mo = some x ∨ w.heap.size ≤ x
set_option maxRecDepth 100000 in
set_option maxHeartbeats 2000000 in
theorem open_ok (h : Ld w B d es p off mo) {k : ByteArray} {v : Lv} (hk : (k, v) ∈ es) :
    Calls Tryz.prog 54 #[.pointer (some ⟨d, 0, none⟩), .string k] w fun e w' => e = .returned (.pointer (some ⟨v.g, 0, none⟩)) ∧ w' = w := by
  obtain ⟨mb, rfl⟩ : ∃ mb, mo = some mb := by
    cases mo with
    | none => rw [h.mn rfl] at hk; cases hk
    | some mb => exact ⟨mb, rfl⟩
  have c0 := h.c0
  have hl := h.look hk
  have hq := eqlSome mb
  clear h
  go_enter Tryz.func54, Tryz.ntmps54
  go_wp2
  go_ret
  exact ⟨rfl, rfl⟩
set_option maxRecDepth 100000 in
set_option maxHeartbeats 4000000 in
theorem open_new (h : Ld w B d es p off mo) {k : ByteArray} (hk : has es k = false) (hks : k.size ≤ 32) (hf : es.length < 256) (hB : B ≤ w.heap.size) :
    Calls Tryz.prog 54 #[.pointer (some ⟨d, 0, none⟩), .string k] w fun e w' => ∃ g, e = .returned (.pointer (some ⟨g, 0, none⟩)) ∧ Opened w B d es p off mo k g w' := by
  have hz : k.size ≤ 9223372036854775807 := by omega
  cases mo with
  | some mb =>
    have c0 := h.c0
    have hq := eqlSome mb
    have hl := h.look_no hz hk
    have L2 := h.below ((Below.refl _ w).alloc (Nat.le_refl _) (.cells #[.slice none 0 0, .int .i64 0] 118))
    have F2 := nf_fw (heap_alloc_new w (.cells #[.slice none 0 0, .int .i64 0] 118)) hB
    have c02 := L2.c0
    have HN : Hid (∀ e ∈ es, Apart e.2 (nf w.heap.size)) := fun e he => ⟨fun e1 => by
      have h2 : e.2.g = w.heap.size := e1
      have := (h.fw e he).lt
      omega, fun x _ h2 => by cases h2⟩
    have H2 : Hid (Ld (w.alloc (.cells #[.slice none 0 0, .int .i64 0] 118)) B d es p off (some mb) ∧ Fw (w.alloc (.cells #[.slice none 0 0, .int .i64 0] 118)) B (nf w.heap.size)) := ⟨L2, F2⟩
    clear h L2 F2
    go_enter Tryz.func54, Tryz.ntmps54
    go_wp2
    go_region_with (first | (go_at_call 31; refine (clone_any k _ (by omega)).mono ?_; rintro e w1 ⟨rfl, hb⟩; (have C1 : Ch (fun _ => False) (w.alloc (.cells #[.slice none 0 0, .int .i64 0] 118)) w1 := ⟨hb.os, hb.tape, hb.output, hb.size, fun k hk _ => hb.block k hk⟩); have L1 := H2.out.1.ch C1 (fun _ _ => id); have F1 := H2.out.2.ch C1 (fun _ _ => id); have c01 := L1.c0; obtain ⟨w3, hrun, ho3, ht3⟩ := (L1.mp mb rfl).store strKey Tryz.underlying70 (by unfold maxLen; omega) (keyIs hz) (rdF_ptr w.heap.size); have HE := L1.store hk hks hf F1 (by rw [nf_all]; decide) HN.out ho3 ht3; have HF : Hid (Opened w B d es p off (some mb) k w.heap.size w3) := ⟨Nat.le_refl _, some mb, HE.1, (((Ch.refl (fun x => x = d ∨ some mb = some x) w).alloc _).trans (C1.mono (fun _ _ e => e.elim))).trans (HE.2.mono (fun x _ e => .inr (by rw [e]))), fun x hx => .inl hx⟩; clear L1 F1 HE ho3 ht3 C1 hb))
    all_goals go_wp2
    all_goals go_ret
    all_goals exact ⟨_, rfl, HF.out⟩
  | none =>
    have c0 := h.c0
    have LA := h.below ((Below.refl _ w).alloc (Nat.le_refl _) (.map #[] 0))
    have cA := LA.c0
    have fA := LA.fro 0
    have L0 := h.made
    have c00 := L0.c0
    have hl := L0.look_no hz hk
    have hsz : ((w.alloc (.map #[] 0)).setCell ⟨d, 0, none⟩ (.map (some w.heap.size))).heap.size = w.heap.size + 1 := by simp
    have L2 := L0.below ((Below.refl _ _).alloc (Nat.le_refl _) (.cells #[.slice none 0 0, .int .i64 0] 118))
    have F2 := nf_fw (B := B) (heap_alloc_new ((w.alloc (.map #[] 0)).setCell ⟨d, 0, none⟩ (.map (some w.heap.size))) (.cells #[.slice none 0 0, .int .i64 0] 118)) (by rw [hsz]; omega)
    rw [hsz] at F2
    have c02 := L2.c0
    have he := h.mn rfl
    have C0 : Ch (fun x => x = d ∨ none = some x) w (((w.alloc (.map #[] 0)).setCell ⟨d, 0, none⟩ (.map (some w.heap.size))).alloc (.cells #[.slice none 0 0, .int .i64 0] 118)) := (((Ch.refl (fun x => x = d ∨ none = some x) w).alloc _).setCell ⟨d, 0, none⟩ _ (fun _ => .inl rfl)).alloc _
    have H2 : Hid (Ld (((w.alloc (.map #[] 0)).setCell ⟨d, 0, none⟩ (.map (some w.heap.size))).alloc (.cells #[.slice none 0 0, .int .i64 0] 118)) B d es p off (some w.heap.size) ∧ Fw (((w.alloc (.map #[] 0)).setCell ⟨d, 0, none⟩ (.map (some w.heap.size))).alloc (.cells #[.slice none 0 0, .int .i64 0] 118)) B (nf (w.heap.size + 1)) ∧ Ch (fun x => x = d ∨ none = some x) w (((w.alloc (.map #[] 0)).setCell ⟨d, 0, none⟩ (.map (some w.heap.size))).alloc (.cells #[.slice none 0 0, .int .i64 0] 118))) := ⟨L2, F2, C0⟩
    have hmm := @run_makeMap Tryz.prog
    have hq := eqlNil
    clear h L2 F2 L0 C0 LA
    go_enter Tryz.func54, Tryz.ntmps54
    go_wp2
    have HN : Hid (∀ e ∈ es, Apart e.2 (nf (w.heap.size + 1))) := fun e h1 => by rw [he] at h1; cases h1
    go_region_with (first | (go_at_call 31; refine (clone_any k _ (by omega)).mono ?_; rintro e w1 ⟨rfl, hb⟩; (have C1 : Ch (fun _ => False) (((w.alloc (.map #[] 0)).setCell ⟨d, 0, none⟩ (.map (some w.heap.size))).alloc (.cells #[.slice none 0 0, .int .i64 0] 118)) w1 := ⟨hb.os, hb.tape, hb.output, hb.size, fun k hk _ => hb.block k hk⟩); have L1 := H2.out.1.ch C1 (fun _ _ => id); have F1 := H2.out.2.1.ch C1 (fun _ _ => id); have c01 := L1.c0; obtain ⟨w3, hrun, ho3, ht3⟩ := (L1.mp w.heap.size rfl).store strKey Tryz.underlying70 (by unfold maxLen; omega) (keyIs hz) (rdF_ptr (w.heap.size + 1)); have HE := L1.store hk hks hf F1 (by rw [nf_all]; decide) HN.out ho3 ht3; have HF : Hid (Opened w B d es p off none k (w.heap.size + 1) w3) := ⟨Nat.le_succ _, some w.heap.size, HE.1, ⟨HE.2.os.trans (C1.os.trans H2.out.2.2.os), HE.2.tape.trans (C1.tape.trans H2.out.2.2.tape), HE.2.output.trans (C1.output.trans H2.out.2.2.output), Nat.le_trans H2.out.2.2.size (Nat.le_trans C1.size HE.2.size), fun x hx hX => ((HE.2.block x (Nat.lt_of_lt_of_le hx (Nat.le_trans H2.out.2.2.size C1.size)) (fun e => by omega)).trans (C1.block x (Nat.lt_of_lt_of_le hx H2.out.2.2.size) id)).trans (H2.out.2.2.block x hx hX)⟩, fun x hx => .inr (by cases hx; exact Nat.le_refl _)⟩; clear L1 F1 HE ho3 ht3 C1 hb))
    all_goals go_wp2
    all_goals go_ret
    all_goals exact ⟨_, rfl, HF.out⟩
end Go.Proofs.YteifkkceldlfnaaGreatDoor
namespace Go.Proofs.YteifkkceldlfnaaGreatDoor
open Go.RowKit Go.Shelf Go.Sort
open Go.Lib hiding intOf
variable {w : World} {B d : Nat} {es : List Le} {p : Int} {off : Bool} {mo : Option Nat}

theorem infoU8 : (Tryz.prog.info? 5).map (fun i => (i.zero, i.size, i.bytes)) = some (some (.int .u8 0), 1, 1) := by kernel_rfl
/-- a string's bytes are put behind a row's: where they then lie -/
theorem bytes_append {W : World} {v : Value} {n : Nat} {xs : List Value} (hown : W.ownsRow B 5 1 v n xs) (s : ByteArray) (hn : n + s.size ≤ 1048576) (hB : B ≤ W.heap.size) (ty : TypeId) :
    ∃ v' w', (Builtin.append_ #[116, 9] ty #[v, .string s]).run Tryz.prog W = .ok v' w' ∧ w'.ownsRow B 5 1 v' (n + s.size) (xs ++ strCells s) ∧ W.grownBy w' v.ownBlock ∧ ∀ x, v'.ownBlock = some x → v.ownBlock = some x ∨ W.heap.size ≤ x := by
  obtain ⟨i0, hi, hz0, hz1, hz2⟩ := info_parts infoU8
  obtain ⟨v', w', hr, h2, h3, h4⟩ := run_append_own_string (P := Tryz.prog) W B 116 9 ty 5 i0 Tryz.underlying116 Tryz.underlying9 hi hz0 hz1 hz2 v n xs hown s (by unfold maxLen; omega) (by omega) hB
  refine ⟨v', w', hr, h2, h3, ?_⟩
  rcases hown.2 with ⟨rfl, rfl⟩ | ⟨g, cap, cur, rfl, hbg, hg, hnc, hcm, hcs, htake⟩
  · by_cases hm : s.size = 0
    · rw [h4.2 ⟨rfl, hm⟩]
      intro x hx; cases hx
    · have hx0 : xs = [] := List.eq_nil_of_length_eq_zero (by have := hown.1; omega)
      subst hx0
      obtain ⟨v2, w2, hr2, h22, -, -⟩ := run_append_own_string (P := Tryz.prog) W W.heap.size 116 9 ty 5 i0 Tryz.underlying116 Tryz.underlying9 hi hz0 hz1 hz2 (.slice none 0 0) 0 [] (World.ownsRow_nil _ _ _ _) s (by unfold maxLen; omega) (by omega) (Nat.le_refl _)
      rw [hr] at hr2
      injection hr2 with e1 e2
      subst e1; subst e2
      intro x hx
      exact .inr (row_obj h22 hx).1
  · by_cases hroom : n + s.size ≤ cap
    · have hr2 := run_append_room_string (P := Tryz.prog) W 116 9 ty 5 i0 Tryz.underlying116 Tryz.underlying9 hi hz1 g n cap cur hg s hroom (by omega)
      rw [hr] at hr2
      injection hr2 with e1 e2
      subst e1
      intro x hx
      exact .inl hx
    · have holds : ∀ j u, xs[j]? = some u → W.cell? ((⟨g, 0, none⟩ : Addr).add j) = some u := hown.cells (g := g) rfl
      have hr2 := run_append_grow_string (P := Tryz.prog) W 116 9 ty 5 i0 (.int .u8 0) Tryz.underlying116 Tryz.underlying9 hi hz0 ⟨g, 0, none⟩ n cap xs (by rw [hz1]; simpa using hown.1) holds s (by omega) (by omega) (by rw [hz2]; exact growslice_fits (by omega) (by omega))
      rw [hr] at hr2
      injection hr2 with e1 e2
      subst e1
      intro x hx
      cases hx
      exact .inr (Nat.le_refl _)
/-- a file with more bytes -/
def grown (v : Lv) (s : ByteArray) (bv : Value) : Lv := { safe := v.safe, rest := v.rest ++ s, g := v.g, bv := bv }
theorem grown_all (v : Lv) (s : ByteArray) (bv : Value) : (grown v s bv).all = v.all ++ s := by
  show v.safe ++ (v.rest ++ s) = (v.safe ++ v.rest) ++ s
  exact (ByteArray.append_assoc).symm
theorem strCells_app (a b : ByteArray) : strCells (a ++ b) = strCells a ++ strCells b := by
  unfold strCells
  rw [ba_app, List.map_append]
/-- the slice with more bytes is stored -/
theorem Fw.grown {W w' : World} {v : Lv} {v' : Value} {s : ByteArray} (F : Fw W B v) (h2 : w'.ownsRow B 5 1 v' (v.all.size + s.size) (strCells v.all ++ strCells s)) (h3 : W.grownBy w' v.bv.ownBlock) (h4 : ∀ x, v'.ownBlock = some x → v.bv.ownBlock = some x ∨ W.heap.size ≤ x) :
    w'.cell? ⟨v.g, 0, none⟩ = some v.bv ∧ w'.frozen? ⟨v.g, 0, none⟩ = false ∧ Fw (w'.setCell ⟨v.g, 0, none⟩ v') B (grown v s v') ∧ Ch (fun x => v.at x) W (w'.setCell ⟨v.g, 0, none⟩ v') := by
  have hne : ∀ x, v.bv.ownBlock = some x → x ≠ v.g := by
    rintro x hx rfl
    obtain ⟨_, cur, hcc⟩ := row_obj F.row hx
    rw [F.hd] at hcc; injection hcc with hcc; injection hcc with _ hcc; cases hcc
  have C1 : Ch (fun x => v.bv.ownBlock = some x) W w' := Ch.of_grown h3 (fun x e _ => e)
  have hh := C1.obj F.hd (fun e => hne _ e rfl)
  have C2 : Ch (fun x => v.at x) W (w'.setCell ⟨v.g, 0, none⟩ v') := (C1.mono (fun _ _ e => .inr e)).setCell ⟨v.g, 0, none⟩ _ (fun _ => .inl rfl)
  refine ⟨by simp [World.cell?, hh], by simp [World.frozen?, hh], ⟨two0 hh v', ?_, F.low⟩, C2⟩
  rw [grown_all, ByteArray.size_append, strCells_app]
  refine (show Ch (fun x => x = v.g) w' (w'.setCell ⟨v.g, 0, none⟩ v') from (Ch.refl _ w').setCell _ _ (fun _ => rfl)).row h2 ?_
  intro x hx e
  subst e
  rcases h4 _ hx with h5 | h5
  · exact hne _ h5 rfl
  · have := F.lt
    omega

set_option maxHeartbeats 4000000 in
/-- Append that is refused -/
theorem Append_no (h : Ld w B d es p off mo) (k s : ByteArray) (hz : k.size ≤ 9223372036854775807) (hno : appNo (fil es, p, off) k s ≠ 0) :
    Calls Tryz.prog 20 #[.pointer (some ⟨d, 0, none⟩), .string k, .string s] w fun e w' => e = .returned (.int .i64 (appNo (fil es, p, off) k s)) ∧ w' = w := by
  have c3 := h.c3
  unfold appNo at hno ⊢
  simp only [fil_has, fil_len] at hno ⊢
  cases off with
  | true =>
    clear h hno
    simp only [if_true]
    go_enter Tryz.func20, Tryz.ntmps20
    go_wp2
    go_ret
    exact ⟨rfl, rfl⟩
  | false =>
    simp only [Bool.false_eq_true, if_false] at hno ⊢
    by_cases hname : k.size < 1 ∨ 32 < k.size
    · rw [if_pos hname]
      clear h hno
      rcases hname with h1 | h1
      · have h1' : (k.size : Int) < 1 := by omega
        go_enter Tryz.func20, Tryz.ntmps20
        go_wp2
        go_ret
        exact ⟨rfl, rfl⟩
      · have h1' : ¬ (k.size : Int) < 1 := by omega
        have h2' : (32 : Int) < (k.size : Int) := by omega
        go_enter Tryz.func20, Tryz.ntmps20
        go_wp2
        go_ret
        exact ⟨rfl, rfl⟩
    · rw [if_neg hname] at hno ⊢
      have h1' : ¬ (k.size : Int) < 1 := by omega
      have h2' : ¬ (32 : Int) < (k.size : Int) := by omega
      have hfits : Calls Tryz.prog 52 #[.pointer (some ⟨d, 0, none⟩), .string k, .string s] w fun e w' => e = .returned (.bool false) ∧ w' = w := by
        cases hh : has es k with
        | true =>
          obtain ⟨v, hk⟩ := has_mem hh
          have := fits_has h hk s
          rw [hh] at hno
          simp only [if_true, fil_gv h.rise hk] at hno
          have e1 : v.safe.size + v.rest.size = v.all.size := (ByteArray.size_append).symm
          rw [e1] at hno
          have hd : decide (v.all.size + s.size ≤ 1048576) = false := by
            by_cases hf : 1048576 < v.all.size + s.size
            · simp; omega
            · rw [if_neg hf] at hno; exact absurd rfl hno
          rw [hd] at this
          exact this
        | false =>
          have := fits_no h hz hh s
          rw [hh] at hno
          simp only [Bool.false_eq_true, if_false] at hno
          have hf := h.few
          have hd : decide (es.length < 256 ∧ s.size ≤ 1048576) = false := by
            by_cases hf' : es.length = 256 ∨ 1048576 < s.size
            · simp; omega
            · rw [if_neg hf'] at hno; exact absurd rfl hno
          rw [hd] at this
          exact this
      have hans : (if has es k = true then (if 1048576 < (gv (fil es) k).1.size + (gv (fil es) k).2.size + s.size then (4 : Int) else 0) else if es.length = 256 ∨ 1048576 < s.size then 4 else 0) = 4 := by
        split <;> split <;> simp_all
      rw [hans]
      clear h hno hans hname
      go_enter Tryz.func20, Tryz.ntmps20
      go_wp2_with (go_at_call 52; refine hfits.mono ?_; rintro e w1 ⟨rfl, rfl⟩)
      go_ret
      exact ⟨rfl, rfl⟩
end Go.Proofs.YteifkkceldlfnaaGreatDoor
namespace Go.Proofs.YteifkkceldlfnaaGreatDoor
open Go.RowKit Go.Shelf Go.Sort
open Go.Lib hiding intOf
variable {w : World} {B d : Nat} {es : List Le} {p : Int} {off : Bool} {mo : Option Nat}

theorem put_put {V : Type} (es : List (ByteArray × V)) (k : ByteArray) (a b : V) : put (put es k a) k b = put es k b := by
  induction es with
  | nil => rw [put_nil, put_nil]; exact put_cons_eq (y := (k, a))
  | cons y r ih =>
    rcases lt_three y.1 k with h | h | h
    · rw [put_cons_lt h, put_cons_lt h, put_cons_lt h, ih]
    · subst h
      rw [put_cons_eq, put_cons_eq]
      exact (put_cons_eq (y := y) (es := r) (v := b)).symm
    · rw [put_cons_gt h, put_cons_gt h]
      exact put_cons_eq (y := (k, a))
theorem put_mem {V : Type} {es : List (ByteArray × V)} (hs : Rise es) (k : ByteArray) (a : V) : (k, a) ∈ put es k a := (mem_put hs k a _).2 (.inl rfl)
/-- what an Append that is not refused finds -/
theorem app_zero (h : Ld w B d es p off mo) {k s : ByteArray} (hno : appNo (fil es, p, off) k s = 0) : off = false ∧ 1 ≤ k.size ∧ k.size ≤ 32 ∧
    ((∃ v, (k, v) ∈ es ∧ v.all.size + s.size ≤ 1048576) ∨ (has es k = false ∧ es.length < 256 ∧ s.size ≤ 1048576)) := by
  unfold appNo at hno
  simp only [fil_has, fil_len] at hno
  cases off with
  | true => simp at hno
  | false =>
    simp only [Bool.false_eq_true, if_false] at hno
    by_cases hname : k.size < 1 ∨ 32 < k.size
    · rw [if_pos hname] at hno; cases hno
    · rw [if_neg hname] at hno
      refine ⟨rfl, by omega, by omega, ?_⟩
      cases hh : has es k with
      | true =>
        obtain ⟨v, hk⟩ := has_mem hh
        rw [hh] at hno
        simp only [if_true, fil_gv h.rise hk] at hno
        have e1 : v.safe.size + v.rest.size = v.all.size := (ByteArray.size_append).symm
        rw [e1] at hno
        by_cases hf : 1048576 < v.all.size + s.size
        · rw [if_pos hf] at hno; cases hno
        · exact .inl ⟨v, hk, by omega⟩
      | false =>
        rw [hh] at hno
        simp only [Bool.false_eq_true, if_false] at hno
        have hf := h.few
        by_cases hf' : es.length = 256 ∨ 1048576 < s.size
        · rw [if_pos hf'] at hno; cases hno
        · exact .inr ⟨rfl, by omega, by omega⟩
/-- a new file, and its bytes, behind the disk's own cell -/
theorem Did.grew {w2 w3 w4 : World} {q : Int} {o : Bool} {k s : ByteArray} {g : Nat} {v' : Value} (C2 : Ch (fun x => x = d) w w2) (hr : Rise es) (hO : Opened w2 B d es q o mo k g w3) (hs : s.size ≤ 1048576)
    (hF : Fw w4 B (Go.Proofs.YteifkkceldlfnaaGreatDoor.grown (nf g) s v')) (hC : Ch (fun x => (nf g).at x) w3 w4) (h4 : ∀ x, v'.ownBlock = some x → (nf g).bv.ownBlock = some x ∨ w3.heap.size ≤ x) : Did w B d es mo w4 (put (fil es) k (⟨#[]⟩, ⟨#[]⟩ ++ s), q, o) := by
  obtain ⟨hg, mo', L3, C3, hm⟩ := hO
  have hk := put_mem hr k (nf g)
  have L4 := L3.file hk hC hF rfl h4 (by
    rw [grown_all, nf_all, ByteArray.size_append]
    show 0 + s.size ≤ _
    omega)
  rw [put_put] at L4
  have C3' : Ch (foot d mo es) w2 w3 := C3.mono (fun x _ e => e.elim .inl (fun e => .inr (.inl e)))
  have CA : Ch (foot d mo es) w w3 := (C2.mono (fun _ _ e => .inl e)).trans C3'
  refine ⟨put es k (Go.Proofs.YteifkkceldlfnaaGreatDoor.grown (nf g) s v'), mo', L4, vals_put sr es k _, ?_, ?_⟩
  · refine ⟨hC.os.trans CA.os, hC.tape.trans CA.tape, hC.output.trans CA.output, Nat.le_trans CA.size hC.size, fun x hx hX => (hC.block x (Nat.lt_of_lt_of_le hx CA.size) ?_).trans (CA.block x hx hX)⟩
    rintro (e | e)
    · have e : x = g := e
      have := C2.size
      omega
    · cases e
  · intro x hx
    rcases hx with hx | hx | ⟨e, he, hx⟩
    · exact .inl (.inl hx)
    · rcases hm x hx with h1 | h1
      · exact .inl (.inr (.inl h1))
      · exact .inr (Nat.le_trans C2.size h1)
    · rcases (mem_put hr k _ e).1 he with rfl | ⟨he, _⟩
      · rcases hx with hx | hx
        · have hx : x = g := hx
          have := C2.size
          exact .inr (by omega)
        · rcases h4 x hx with h1 | h1
          · cases h1
          · exact .inr (Nat.le_trans CA.size h1)
      · exact .inl (.inr (.inr ⟨e, he, hx⟩))

theorem Opened.fw {w w' : World} {k : ByteArray} {g : Nat} (h : Opened w B d es p off mo k g w') (hr : Rise es) : Fw w' B (nf g) := by
  obtain ⟨_, mo', L3, _⟩ := h
  exact L3.fw _ (put_mem hr k (nf g))
theorem Opened.size {w w' : World} {k : ByteArray} {g : Nat} (h : Opened w B d es p off mo k g w') : w.heap.size ≤ w'.heap.size := by
  obtain ⟨_, mo', _, C3, _⟩ := h
  exact C3.size
set_option maxRecDepth 100000 in
set_option maxHeartbeats 4000000 in
theorem Append_any (h : Ld w B d es p off mo) (k s : ByteArray) (hz : k.size ≤ 9223372036854775807) (hB : B ≤ w.heap.size) :
    Calls Tryz.prog 20 #[.pointer (some ⟨d, 0, none⟩), .string k, .string s] w fun e w' => e = .returned (.int .i64 (aApp (fil es, p, off) k s).1) ∧ Did w B d es mo w' (aApp (fil es, p, off) k s).2 := by
  unfold aApp
  by_cases hno : appNo (fil es, p, off) k s = 0
  · obtain ⟨rfl, hk1, hk2, hcase⟩ := app_zero h hno
    rw [hno]
    have c3 := h.c3
    have h1' : ¬ (k.size : Int) < 1 := by omega
    have h2' : ¬ (32 : Int) < (k.size : Int) := by omega
    have hA := act_any h
    have hfits : Calls Tryz.prog 52 #[.pointer (some ⟨d, 0, none⟩), .string k, .string s] w fun e w' => e = .returned (.bool true) ∧ w' = w := by
      rcases hcase with ⟨v, hk, hs⟩ | ⟨hk, hl, hs⟩
      · have := fits_has h hk s
        rw [show decide (v.all.size + s.size ≤ 1048576) = true by simpa using hs] at this
        exact this
      · have := fits_no h hz hk s
        rw [show decide (es.length < 256 ∧ s.size ≤ 1048576) = true by simp [hl, hs]] at this
        exact this
    have hr := h.rise
    have hgv : ∀ v, (k, v) ∈ es → getv (fil es) k = (v.safe, v.rest) := fun v hk => by
      unfold getv
      rw [fil_has, mem_has hr hk, if_pos rfl, fil_gv hr hk]
    have hgn : has es k = false → getv (fil es) k = (⟨#[]⟩, ⟨#[]⟩) := fun hk => by
      unfold getv
      rw [fil_has, hk]
      rfl
    clear h
    cases hp : powOk p with
    | false =>
      obtain rfl := pow_zero hp
      rw [stepA_off]
      go_enter Tryz.func20, Tryz.ntmps20
      go_wp2_with (first
        | (go_at_call 52; refine hfits.mono ?_; rintro e w1 ⟨rfl, rfl⟩)
        | (go_at_call 53; refine hA.mono ?_; rintro e w2 ⟨rfl, D2, C2⟩; have HD : Hid _ := And.intro D2 C2; clear D2 C2))
      go_ret
      exact ⟨rfl, Did.own HD.out.1 HD.out.2⟩
    | true =>
      rw [stepA_ok hp]
      rw [hp] at hA
      rcases hcase with ⟨v, hk, hs⟩ | ⟨hk, hl, hs⟩
      · simp only [hgv v hk]
        clear hgv hgn
        go_enter Tryz.func20, Tryz.ntmps20
        go_wp2_with (first
          | (go_at_call 52; refine hfits.mono ?_; rintro e w1 ⟨rfl, rfl⟩)
          | (go_at_call 53; refine hA.mono ?_; rintro e w2 ⟨rfl, D2, C2⟩; have HD : Hid _ := And.intro D2 C2; have F : Fw w2 B v := D2.fw _ hk; have hO := open_ok D2 hk; have m0 := F.c0; (obtain ⟨v', w4, hrun, h2, h3, h4⟩ := bytes_append F.row s hs (Nat.le_trans hB C2.size) 116); obtain ⟨a', c', rfl, -⟩ := row_slice h2; obtain ⟨m4, f4, F4, C4⟩ := F.grown h2 h3 h4; have HE : Hid _ := And.intro F4 (And.intro C4 h4); clear D2 C2 F h2 h3 h4 F4 C4)
          | (go_at_call 54; refine hO.mono ?_; rintro e w3 ⟨rfl, rfl⟩)
          | (at_builtin; refine Lib.wpList_append_run _ rfl _ _ _ _ rfl _ _ rfl rfl _ _ hrun ?_))
        go_ret
        refine ⟨rfl, ?_⟩
        exact Did.file HD.out.1 HD.out.2 hk HE.out.2.1 HE.out.1 rfl HE.out.2.2 (by rw [grown_all, ByteArray.size_append]; exact hs)
      · simp only [hgn hk]
        clear hgv hgn
        go_enter Tryz.func20, Tryz.ntmps20
        go_wp2_with (first
          | (go_at_call 52; refine hfits.mono ?_; rintro e w1 ⟨rfl, rfl⟩)
          | (go_at_call 53; refine hA.mono ?_; rintro e w2 ⟨rfl, D2, C2⟩; have HC2 : Hid _ := And.intro C2 trivial; have hB2 := Nat.le_trans hB C2.size; have hO := open_new D2 hk hk2 hl hB2; clear D2 C2)
          | (go_at_call 54; refine hO.mono ?_; rintro e w3 ⟨g, rfl, hOp⟩; have HO : Hid (Opened w2 B d es (powOf p) (false || !true) mo k g w3) := hOp; have F : Fw w3 B (nf g) := hOp.fw hr; have hB3 := Nat.le_trans hB2 hOp.size; have m0 : w3.cell? ⟨g, 0, none⟩ = some (.slice none 0 0) := F.c0; (obtain ⟨v', w4, hrun, h2, h3, h4⟩ := bytes_append (show w3.ownsRow B 5 1 (.slice none 0 0) (nf g).all.size (strCells (nf g).all) from F.row) s (by rw [nf_all]; show 0 + s.size ≤ _; omega) hB3 116); obtain ⟨a', c', rfl, -⟩ := row_slice h2; obtain ⟨m4, f4, F4, C4⟩ := F.grown h2 h3 h4; have m5 : w4.cell? ⟨g, 0, none⟩ = some (.slice none 0 0) := m4; have f5 : w4.frozen? ⟨g, 0, none⟩ = false := f4; have HE : Hid _ := And.intro F4 (And.intro C4 h4); clear hOp F h2 h3 h4 F4 C4 m4 f4)
          | (at_builtin; refine Lib.wpList_append_run _ rfl _ _ _ _ rfl _ _ rfl rfl _ _ hrun ?_))
        go_ret
        refine ⟨rfl, ?_⟩
        exact Did.grew HC2.out.1 hr HO.out hs HE.out.1 HE.out.2.1 HE.out.2.2
  · rw [stepA_no hno]
    have HD : Hid _ := Did.same h
    exact (Append_no h k s hz hno).mono (fun e w' he => ⟨he.1, by rw [he.2]; exact HD.out⟩)
end Go.Proofs.YteifkkceldlfnaaGreatDoor
namespace Go.Proofs.YteifkkceldlfnaaGreatDoor
open Go.RowKit Go.Shelf Go.Sort
open Go.Lib hiding intOf
variable {w w' : World} {B d : Nat} {es : List Le} {p : Int} {off : Bool} {mo : Option Nat} {st : Ab}

/-- the disk in block d has this -/
def St (w : World) (B d : Nat) (st : Ab) : Prop := ∃ es mo, Ld w B d es st.2.1 st.2.2 mo ∧ fil es = st.1
/-- what was there is kept: all below B, and every disk of the document's -/
def Mv (B : Nat) (w w' : World) : Prop := Below B w w' ∧ ∀ db base fs q o sv, Dk w db base fs q o sv → Dk w' db base fs q o sv
theorem Mv.refl (B : Nat) (w : World) : Mv B w w := ⟨Below.refl _ w, fun _ _ _ _ _ _ h => h⟩
theorem Mv.trans {a b c : World} (h : Mv B a b) (k : Mv B b c) : Mv B a c := ⟨h.1.trans k.1, fun _ _ _ _ _ _ x => k.2 _ _ _ _ _ _ (h.2 _ _ _ _ _ _ x)⟩
theorem Mv.of_below (h : Below w.heap.size w w') (hB : B ≤ w.heap.size) : Mv B w w' := ⟨h.mono hB, fun _ _ _ _ _ _ x => x.below h⟩
theorem St.lt (h : St w B d st) : B ≤ d ∧ d < w.heap.size := by
  obtain ⟨es, mo, h, _⟩ := h
  exact ⟨h.low.1, h.lt⟩
theorem St.below (h : St w B d st) (hb : Below w.heap.size w w') : St w' B d st := by
  obtain ⟨es, mo, h, e⟩ := h
  exact ⟨es, mo, h.below hb, e⟩
theorem St.rise (h : St w B d st) : Rise st.1 := by
  obtain ⟨es, mo, h, e⟩ := h
  rw [← e]
  exact fil_rise h.rise
theorem Did.mv (h : Ld w B d es p off mo) (hd : Did w B d es mo w' st) : St w' B d st ∧ Mv B w w' := by
  obtain ⟨es', mo', L, e, C, _⟩ := hd
  refine ⟨⟨es', mo', L, e⟩, C.below (Nat.le_of_lt (Nat.lt_of_le_of_lt h.low.1 h.lt)) (fun x hx hf => ?_), fun db base fs q o sv hk => hk.ch C (fun x hx => h.not_dk hk hx)⟩
  have := (h.foot_lt hf).2
  omega
/-- a call of a disk that comes to (answer, what it has then) -/
abbrev Comes (w : World) (B d : Nat) (r : Int × Ab) (e : Ending) (w' : World) : Prop := e = .returned (.int .i64 r.1) ∧ St w' B d r.2 ∧ Mv B w w'
theorem sNew (B : Nat) (w : World) (hB : B ≤ w.heap.size) : Calls Tryz.prog 7 #[] w fun e w' => e = .returned (.pointer (some ⟨w.heap.size, 0, none⟩)) ∧ St w' B w.heap.size ([], -1, false) ∧ Below w.heap.size w w' :=
  (New_any B w hB).mono fun _ _ h => ⟨h.1, ⟨_, _, h.2.1, rfl⟩, h.2.2⟩
theorem sApp (h : St w B d st) (k s : ByteArray) (hz : k.size ≤ 9223372036854775807) : Calls Tryz.prog 20 #[.pointer (some ⟨d, 0, none⟩), .string k, .string s] w (Comes w B d (aApp st k s)) := by
  obtain ⟨fs, p, off⟩ := st
  obtain ⟨es, mo, h, e⟩ := h
  obtain rfl : fil es = fs := e
  exact (Append_any h k s hz (Nat.le_of_lt (Nat.lt_of_le_of_lt h.low.1 h.lt))).mono fun _ _ x => ⟨x.1, Did.mv h x.2⟩
theorem sSync (h : St w B d st) (k : ByteArray) (hz : k.size ≤ 9223372036854775807) : Calls Tryz.prog 72 #[.pointer (some ⟨d, 0, none⟩), .string k] w (Comes w B d (aSync st k)) := by
  obtain ⟨fs, p, off⟩ := st
  obtain ⟨es, mo, h, e⟩ := h
  obtain rfl : fil es = fs := e
  exact (Sync_any h k hz).mono fun _ _ x => ⟨x.1, Did.mv h x.2⟩
theorem sCut (h : St w B d st) (k : ByteArray) (n : Int) (hz : k.size ≤ 9223372036854775807) : Calls Tryz.prog 71 #[.pointer (some ⟨d, 0, none⟩), .string k, .int .i64 n] w (Comes w B d (aCut st k n)) := by
  obtain ⟨fs, p, off⟩ := st
  obtain ⟨es, mo, h, e⟩ := h
  obtain rfl : fil es = fs := e
  exact (Cut_any h k n hz).mono fun _ _ x => ⟨x.1, Did.mv h x.2⟩
theorem sDel (h : St w B d st) (k : ByteArray) (hz : k.size ≤ 9223372036854775807) : Calls Tryz.prog 84 #[.pointer (some ⟨d, 0, none⟩), .string k] w (Comes w B d (aDel st k)) := by
  obtain ⟨fs, p, off⟩ := st
  obtain ⟨es, mo, h, e⟩ := h
  obtain rfl : fil es = fs := e
  exact (Delete_any h k hz).mono fun _ _ x => ⟨x.1, Did.mv h x.2⟩
theorem sRead (h : St w B d st) (k : ByteArray) (hz : k.size ≤ 9223372036854775807) : Calls Tryz.prog 45 #[.pointer (some ⟨d, 0, none⟩), .string k] w fun e w' => e = .returned (.tuple #[.string (aRead st k).1, .int .i64 (aRead st k).2]) ∧ w' = w := by
  obtain ⟨fs, p, off⟩ := st
  obtain ⟨es, mo, h, e⟩ := h
  obtain rfl : fil es = fs := e
  exact Read_any h k hz
theorem sOff (h : St w B d st) : Calls Tryz.prog 29 #[.pointer (some ⟨d, 0, none⟩)] w fun e w' => e = .returned (.bool st.2.2) ∧ w' = w := by
  obtain ⟨es, mo, h, e⟩ := h
  exact Off_any h
theorem sPower (h : St w B d st) (a : Int) (ha : a ≤ 9223372036854775807) : Calls Tryz.prog 22 #[.pointer (some ⟨d, 0, none⟩), .int .i64 a] w fun e w' => (∃ v, e = .returned v) ∧ St w' B d (aPow st a) ∧ Mv B w w' := by
  obtain ⟨fs, p, off⟩ := st
  obtain ⟨es, mo, h, e⟩ := h
  obtain rfl : fil es = fs := e
  exact (Power_any h a ha).mono fun _ _ x => ⟨x.1, Did.mv h (st := aPow (fil es, p, off) a) (Did.own x.2.1 x.2.2)⟩
theorem sNames (h : St w B d st) : Calls Tryz.prog 41 #[.pointer (some ⟨d, 0, none⟩)] w fun e w' => ∃ v, e = .returned v ∧ w'.ownsRow w.heap.size 9 1 v st.1.length (nms st.1) ∧ Below w.heap.size w w' := by
  obtain ⟨es, mo, h, e⟩ := h
  have e1 : nms es = nms st.1 := by
    rw [← e]
    unfold nms fil vals
    rw [List.map_map]
    rfl
  have e2 : es.length = st.1.length := by rw [← e, fil_len]
  rw [← e1, ← e2]
  exact Names_any h
/-- Crash with numbers that lie below B, or with none -/
theorem sCrashE (h : St w B d st) {ka : Option Addr} {ks : List Int} {kc : Nat} (hk : Ks w ka ks) (hkf : ks ≠ [] → ∀ a, ka = some a → a.block < B) :
    Calls Tryz.prog 11 #[.pointer (some ⟨d, 0, none⟩), .slice ka ks.length kc] w fun e w' => (∃ x, e = .returned x) ∧ St w' B d (aCrash st ks) ∧ Mv B w w' := by
  obtain ⟨fs, p, off⟩ := st
  obtain ⟨es, mo, h, e⟩ := h
  obtain rfl : fil es = fs := e
  exact (Crash_any h hk (fun h0 a e => ⟨fun hf => by
    have := (h.foot_lt hf).2
    have := hkf h0 a e
    omega, by
    have := hkf h0 a e
    have := h.low.1
    have := h.lt
    omega⟩)).mono fun _ _ x => ⟨x.1, Did.mv h x.2⟩
theorem sCrash (h : St w B d st) {ka : Option Addr} {ks : List Int} {kc : Nat} (hk : Ks w ka ks) (hkf : ∀ a, ka = some a → a.block < B) :
    Calls Tryz.prog 11 #[.pointer (some ⟨d, 0, none⟩), .slice ka ks.length kc] w fun e w' => (∃ x, e = .returned x) ∧ St w' B d (aCrash st ks) ∧ Mv B w w' := sCrashE h hk (fun _ => hkf)
/-- Crash with numbers that were just laid -/
theorem sCrashL (h : St w B d st) {ks : List Int} {kc : Nat} {arr : Array Value} {t : TypeId} (hk : ∀ j (hj : j < ks.length), arr[j]? = some (.int .i64 ks[j])) :
    Calls Tryz.prog 11 #[.pointer (some ⟨d, 0, none⟩), .slice (some ⟨w.heap.size, 0, none⟩) ks.length kc] (w.alloc (.cells arr t)) fun e w' => (∃ x, e = .returned x) ∧ St w' B d (aCrash st ks) ∧ Mv B w w' := by
  obtain ⟨fs, p, off⟩ := st
  obtain ⟨es, mo, h, e⟩ := h
  obtain rfl : fil es = fs := e
  have hb : Below w.heap.size w (w.alloc (.cells arr t)) := (Below.refl _ w).alloc (Nat.le_refl _) _
  have hnew := heap_alloc_new w (.cells arr t)
  refine (Crash_any (h.below hb) (ka := some ⟨w.heap.size, 0, none⟩) (ks := ks) (kc := kc) (fun j hj => ⟨w.heap.size, 0, rfl, ?_⟩) (fun _ a e => ?_)).mono fun _ _ x => ⟨x.1, ?_⟩
  · have := hk j hj
    show (match (w.alloc (.cells arr t)).heap[w.heap.size]? with | some (.cells c _ _) => c[0 + j]? | _ => none) = _
    rw [hnew, Nat.zero_add]
    exact this
  · cases e
    refine ⟨fun hf => ?_, by simp⟩
    have := (h.foot_lt hf).1
    simp at this
  · have := Did.mv (h.below hb) x.2
    exact ⟨this.1, (Mv.of_below hb (Nat.le_of_lt (Nat.lt_of_le_of_lt h.low.1 h.lt))).trans this.2⟩

end Go.Proofs.YteifkkceldlfnaaGreatDoor

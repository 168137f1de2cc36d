/-
  Lists of entries by rising keys; words for memory.
-/
import Derived.Test.YthmfcloecmnfnaaGreatProg
import Derived.WalkKit
import Derived.WalkSpells
import Derived.Lib.Walk
import Derived.BigQuiet
import Derived.Deep.QuietTactic
import Derived.Deep.RegionHeld3
import Derived.Maps.AppendAt
import Derived.Laws.NewBlocks
import Derived.Laws.AppendOwnNone
import Derived.Lib.AppendZerosOnto
import Derived.Sort.Walk0
import Derived.Lib.Strings
import Derived.Below
import Derived.Shelf.Abstract
import Derived.ProofKit
namespace Go.Proofs.YthmfcloecmnfnaaGreat
open Go.RowKit Go.Shelf Go.Sort
open Go.Lib hiding intOf
variable {V : Type}

/-- one text is less than another one, by bytes -/
def lt (a b : ByteArray) : Bool := Op.bytesLess a.toList b.toList

theorem lt_iff (a b : ByteArray) : lt a b = true ↔ a.data.toList < b.data.toList := by
  unfold lt
  rw [Proofs.bytesLess_eq]
  simp [Lib.toList_data]

theorem key_ext {a b : ByteArray} (h : a.data.toList = b.data.toList) : a = b := by
  apply ByteArray.ext
  exact Array.toList_inj.1 h

theorem lt_irrefl (a : ByteArray) : lt a a = false := by
  rw [← Bool.not_eq_true, lt_iff]; exact List.lt_irrefl _

theorem lt_trans {a b c : ByteArray} (h : lt a b = true) (k : lt b c = true) : lt a c = true := by
  rw [lt_iff] at *; exact List.lt_trans h k

theorem lt_asymm {a b : ByteArray} (h : lt a b = true) : lt b a = false := by
  rw [← Bool.not_eq_true]; intro k
  have := lt_trans h k
  rw [lt_irrefl] at this
  cases this

theorem lt_total {a b : ByteArray} (h : lt a b = false) (k : lt b a = false) : a = b := by
  rw [← Bool.not_eq_true, lt_iff] at h k
  exact key_ext (List.le_antisymm (List.not_lt.1 k) (List.not_lt.1 h))

/-- how many entries have a key that is less: the place of a key -/
def pos : List (ByteArray × V) → ByteArray → Nat
  | [], _ => 0
  | e :: r, k => if lt e.1 k then pos r k + 1 else 0

/-- the keys rise -/
def Rise (es : List (ByteArray × V)) : Prop := es.Pairwise (fun a b => lt a.1 b.1 = true)

theorem pos_le : ∀ (es : List (ByteArray × V)) (k : ByteArray), pos es k ≤ es.length
  | [], _ => Nat.le_refl _
  | e :: r, k => by
    rw [pos]
    split
    · have := pos_le r k; simp; omega
    · exact Nat.zero_le _

theorem Rise.tail {e : ByteArray × V} {r : List (ByteArray × V)} (h : Rise (e :: r)) : Rise r := (List.pairwise_cons.1 h).2

theorem pos_lt : ∀ (es : List (ByteArray × V)) (k : ByteArray) (j : Nat), Rise es → (h : j < es.length) → (lt es[j].1 k = true ↔ j < pos es k)
  | e :: r, k, 0, _, _ => by
    rw [pos]
    by_cases hk : lt e.1 k = true <;> simp [hk]
  | e :: r, k, j + 1, h, hj => by
    have ih := pos_lt r k j h.tail (by simpa using hj)
    rw [pos]
    by_cases hk : lt e.1 k = true
    · simp only [hk, if_true, List.getElem_cons_succ]
      rw [ih]; omega
    · simp only [hk, Bool.false_eq_true, if_false, List.getElem_cons_succ]
      constructor
      · intro hy
        exact absurd (lt_trans ((List.pairwise_cons.1 h).1 _ (List.getElem_mem (by simpa using hj))) hy) hk
      · intro h0; omega

/-- the key is there -/
def has (es : List (ByteArray × V)) (k : ByteArray) : Bool :=
  match es[pos es k]? with
  | some e => e.1.toList == k.toList
  | none => false

theorem row_cell {w : World} {e : TypeId} {size : Nat} {g n cap : Nat} {xs : List Value} {base : Nat} (h : w.ownsRow base e size (.slice (some ⟨g, 0, none⟩) n cap) n xs) {j : Nat} {v : Value} (hj : xs[j]? = some v) :
    w.cell? ⟨g, j, none⟩ = some v := by
  obtain ⟨hl, hn | ⟨g', cap', cur, hs, _, hg, _, _, hcs, ht⟩⟩ := h
  · cases hn.1
  · cases hs
    simp only [World.cell?, hg]
    have hj' := (List.getElem?_eq_some_iff.1 hj).1
    rw [← ht] at hj
    rw [List.getElem?_take] at hj
    split at hj
    · simpa using hj
    · cases hj

/-- all blocks but those of X are as they were -/
structure Ch (X : Nat → Prop) (w w' : World) : Prop where
  os : w'.os = w.os
  tape : w'.tape = w.tape
  output : w'.output = w.output
  size : w.heap.size ≤ w'.heap.size
  block : ∀ k, k < w.heap.size → ¬ X k → w'.heap[k]? = w.heap[k]?

theorem Ch.refl (X : Nat → Prop) (w : World) : Ch X w w := ⟨rfl, rfl, rfl, Nat.le_refl _, fun _ _ _ => rfl⟩

theorem Ch.trans {X : Nat → Prop} {a b c : World} (h : Ch X a b) (k : Ch X b c) : Ch X a c :=
  ⟨k.os.trans h.os, k.tape.trans h.tape, k.output.trans h.output, Nat.le_trans h.size k.size, fun i hi hX => (k.block i (Nat.lt_of_lt_of_le hi h.size) hX).trans (h.block i hi hX)⟩

theorem Ch.mono {X Y : Nat → Prop} {a b : World} (h : Ch X a b) (hXY : ∀ k, k < a.heap.size → X k → Y k) : Ch Y a b :=
  ⟨h.os, h.tape, h.output, h.size, fun i hi hY => h.block i hi (fun hX => hY (hXY i hi hX))⟩

theorem Ch.below {X : Nat → Prop} {a b : World} {B : Nat} (h : Ch X a b) (hB : B ≤ a.heap.size) (hX : ∀ k, k < B → ¬ X k) : Below B a b :=
  ⟨h.os, h.tape, h.output, h.size, fun k hk => h.block k (by omega) (hX k hk)⟩

theorem Ch.of_below {X : Nat → Prop} {a b : World} (h : Below a.heap.size a b) : Ch X a b := ⟨h.os, h.tape, h.output, h.size, fun k hk _ => h.block k hk⟩

theorem Ch.of_grown {X : Nat → Prop} {a b : World} {r : Option Nat} (h : a.grownBy b r) (hr : ∀ k, r = some k → k < a.heap.size → X k) : Ch X a b :=
  ⟨h.os, h.tape, h.output, h.size, fun k hk hX => h.block k hk (fun e => hX (hr k e.symm hk))⟩

theorem Ch.drew {X : Nat → Prop} {a b : World} (h : Ch X a b) : Ch X a b.drew := ⟨h.os, h.tape, h.output, h.size, h.block⟩

theorem Ch.alloc {X : Nat → Prop} {a b : World} (h : Ch X a b) (o : Obj) : Ch X a (b.alloc o) :=
  h.trans (Ch.of_grown (World.grownBy_alloc b o none) (fun _ e => by cases e))

theorem Ch.setCell {X : Nat → Prop} {a b : World} (h : Ch X a b) (p : Addr) (v : Value) (hp : p.block < a.heap.size → X p.block) : Ch X a (b.setCell p v) := by
  refine ⟨h.os, h.tape, h.output, by simpa using h.size, fun k hk hX => ?_⟩
  rw [heap_setCell_other b p k v (fun e => by subst e; exact hX (hp hk))]
  exact h.block k hk hX

theorem Ch.cell {X : Nat → Prop} {a b : World} (h : Ch X a b) {p : Addr} {v : Value} (hp : a.cell? p = some v) (hX : ¬ X p.block) : b.cell? p = some v :=
  (World.cell?_of_block (h.block p.block (World.block_lt_of_cell? a p hp) hX)).trans hp

theorem Ch.obj {X : Nat → Prop} {a b : World} (h : Ch X a b) {k : Nat} {o : Obj} (hp : a.heap[k]? = some o) (hX : ¬ X k) : b.heap[k]? = some o :=
  (h.block k (Array.getElem?_eq_some_iff.1 hp).1 hX).trans hp

theorem Ch.row {X : Nat → Prop} {a b : World} (h : Ch X a b) {base : Nat} {e : TypeId} {size : Nat} {v : Value} {n : Nat} {xs : List Value} (hr : a.ownsRow base e size v n xs) (hX : ∀ k, v.ownBlock = some k → ¬ X k) : b.ownsRow base e size v n xs := by
  refine ⟨hr.1, ?_⟩
  rcases hr.2 with hn | ⟨g, cap, cur, rfl, hb, hgg, rest⟩
  · exact .inl hn
  · exact .inr ⟨g, cap, cur, rfl, hb, h.obj hgg (hX g rfl), rest⟩

theorem row_slice {w : World} {base : Nat} {e : TypeId} {size : Nat} {sv : Value} {n : Nat} {cs : List Value} (hrow : w.ownsRow base e size sv n cs) :
    ∃ a c, sv = .slice a n c ∧ (a = none → n = 0) ∧ n ≤ c ∧ c ≤ 9223372036854775807 := by
  rcases hrow.2 with ⟨rfl, h0⟩ | ⟨g, cap, cur, rfl, _, hg, hnc, hcm, _⟩
  · exact ⟨none, 0, by rw [h0], fun _ => h0, by omega, by omega⟩
  · unfold maxLen at hcm; exact ⟨_, cap, rfl, (fun e => by cases e), hnc, by omega⟩

theorem two0 {w : World} {b : Nat} {x y : Value} {t : TypeId} (h : w.heap[b]? = some (.cells #[x, y] t (0, 0))) (v : Value) : (w.setCell ⟨b, 0, none⟩ v).heap[b]? = some (.cells #[v, y] t (0, 0)) := heap_setCell_same w b 0 _ t v h

theorem two1 {w : World} {b : Nat} {x y : Value} {t : TypeId} (h : w.heap[b]? = some (.cells #[x, y] t (0, 0))) (v : Value) : (w.setCell ⟨b, 1, none⟩ v).heap[b]? = some (.cells #[x, v] t (0, 0)) := heap_setCell_same w b 1 _ t v h

/-- what the map has behind Put -/
def put {V : Type} (es : List (ByteArray × V)) (k : ByteArray) (v : V) : List (ByteArray × V) :=
  if has es k then es.set (pos es k) (k, v) else es.take (pos es k) ++ (k, v) :: es.drop (pos es k)

/-- what the map has behind Del -/
def del {V : Type} (es : List (ByteArray × V)) (k : ByteArray) : List (ByteArray × V) :=
  if has es k then es.take (pos es k) ++ es.drop (pos es k + 1) else es

/-- the key's value -/
def val (es : List (ByteArray × Int)) (k : ByteArray) : Int := if has es k then (es[pos es k]?.map (·.2)).getD 0 else 0

theorem has_lt {V : Type} {es : List (ByteArray × V)} {k : ByteArray} (h : has es k = true) : ∃ hp : pos es k < es.length, es[pos es k].1 = k := by
  by_cases hp : pos es k < es.length
  · refine ⟨hp, ?_⟩
    simp [has, hp] at h
    apply key_ext
    simpa [Lib.toList_data] using h
  · simp [has, hp] at h

theorem has_not {V : Type} {es : List (ByteArray × V)} {k : ByteArray} (h : has es k = false) (hp : pos es k < es.length) : es[pos es k].1 ≠ k := by
  intro e
  simp [has, hp, e] at h

theorem val_has {es : List (ByteArray × Int)} {k : ByteArray} (h : has es k = true) (hp : pos es k < es.length) : val es k = es[pos es k].2 := by simp [val, h, hp]

theorem Rise.get {V : Type} {es : List (ByteArray × V)} (h : Rise es) {i j : Nat} (hi : i < es.length) (hj : j < es.length) (hij : i < j) : lt es[i].1 es[j].1 = true := List.pairwise_iff_getElem.1 h i j hi hj hij

theorem put_rise {V : Type} {es : List (ByteArray × V)} (h : Rise es) (k : ByteArray) (v : V) : Rise (put es k v) := by
  unfold put
  split
  · rename_i hh
    obtain ⟨hp, hk⟩ := has_lt hh
    refine List.pairwise_iff_getElem.2 fun i j hi hj hij => ?_
    have hi' : i < es.length := by simpa using hi
    have hj' : j < es.length := by simpa using hj
    have hg := h.get hi' hj' hij
    simp only [List.getElem_set]
    split <;> split
    · omega
    · rename_i e1 e2; subst e1; rw [hk] at hg; exact hg
    · rename_i e1 e2; subst e2; rw [hk] at hg; exact hg
    · exact hg
  · rename_i hh
    have hh' : has es k = false := by simpa using hh
    refine List.pairwise_append.2 ⟨h.sublist (List.take_sublist _ _), List.pairwise_cons.2 ⟨?_, h.sublist (List.drop_sublist _ _)⟩, ?_⟩
    · intro y hy
      obtain ⟨j, hj, rfl⟩ := List.mem_iff_getElem.1 hy
      simp only [List.getElem_drop]
      have hlen : pos es k + j < es.length := by simp at hj; omega
      have hn : lt es[pos es k + j].1 k = false := by rw [← Bool.not_eq_true, pos_lt es k _ h hlen]; omega
      by_cases hl : lt k es[pos es k + j].1 = true
      · exact hl
      · have he := lt_total hn (by simpa using hl)
        exfalso
        have hp0 : pos es k < es.length := by omega
        by_cases hj0 : j = 0
        · subst hj0; exact has_not hh' hp0 (by simpa using he)
        · have h1 := h.get hp0 hlen (by omega)
          rw [he] at h1
          rw [pos_lt es k _ h hp0] at h1
          omega
    · intro a ha y hy
      obtain ⟨i, hi, rfl⟩ := List.mem_iff_getElem.1 ha
      have hi' : i < pos es k ∧ i < es.length := by simp at hi; omega
      have hlk : lt es[i].1 k = true := (pos_lt es k i h hi'.2).2 hi'.1
      simp only [List.getElem_take]
      rcases List.mem_cons.1 hy with rfl | hy
      · exact hlk
      · obtain ⟨j, hj, rfl⟩ := List.mem_iff_getElem.1 hy
        simp only [List.getElem_drop]
        exact h.get hi'.2 (by simp at hj; omega) (by omega)

theorem del_rise {V : Type} {es : List (ByteArray × V)} (h : Rise es) (k : ByteArray) : Rise (del es k) := by
  unfold del
  split
  · rw [← List.eraseIdx_eq_take_drop_succ]
    exact h.sublist (List.eraseIdx_sublist _ _)
  · exact h

theorem put_len {V : Type} (es : List (ByteArray × V)) (k : ByteArray) (v : V) : (put es k v).length = if has es k then es.length else es.length + 1 := by
  have := pos_le es k
  unfold put
  split
  · simp
  · simp; omega

theorem del_len {V : Type} (es : List (ByteArray × V)) (k : ByteArray) : (del es k).length = if has es k then es.length - 1 else es.length := by
  unfold del
  split
  · rename_i h
    obtain ⟨hp, _⟩ := has_lt h
    simp; omega
  · rfl

/-- a block of one cell -/
def Bx (w : World) (b : Nat) (v : Value) (t : TypeId) : Prop := w.heap[b]? = some (.cells #[v] t (0, 0))

theorem Bx.cell {w : World} {b : Nat} {v : Value} {t : TypeId} (h : Bx w b v t) : w.cell? ⟨b, 0, none⟩ = some v := by unfold Bx at h; simp [World.cell?, h]

theorem Bx.fro {w : World} {b : Nat} {v : Value} {t : TypeId} (h : Bx w b v t) : w.frozen? ⟨b, 0, none⟩ = false := by unfold Bx at h; simp [World.frozen?, h]

theorem Bx.lt {w : World} {b : Nat} {v : Value} {t : TypeId} (h : Bx w b v t) : b < w.heap.size := (Array.getElem?_eq_some_iff.1 h).1

theorem Bx.new (w : World) (v : Value) (t : TypeId) : Bx (w.alloc (.cells #[v] t)) w.heap.size v t := heap_alloc_new w _

theorem Bx.ch {w w' : World} {b : Nat} {v : Value} {t : TypeId} {X : Nat → Prop} (h : Bx w b v t) (hc : Ch X w w') (hX : ¬ X b) : Bx w' b v t := hc.obj h hX

theorem Bx.below {w w' : World} {b : Nat} {v : Value} {t : TypeId} {B : Nat} (h : Bx w b v t) (hc : Below B w w') (hB : b < B) : Bx w' b v t := (hc.block b hB).trans h

theorem Bx.alloc {w : World} {b : Nat} {v : Value} {t : TypeId} (h : Bx w b v t) (o : Obj) : Bx (w.alloc o) b v t := h.below ((Below.refl _ w).alloc (Nat.le_refl _) o) h.lt

theorem one0 {w : World} {b : Nat} {x : Value} {t : TypeId} (h : Bx w b x t) (v : Value) : Bx (w.setCell ⟨b, 0, none⟩ v) b v t := heap_setCell_same w b 0 _ t v h

abbrev Ent := ByteArray × Int

/-- a text begins with another one -/
def bg (s k : ByteArray) : Bool := decide (k.size ≤ s.size) && ((s.extract 0 k.size).toList == k.toList)

theorem bg_iff (s k : ByteArray) : bg s k = true ↔ k.data.toList <+: s.data.toList := by
  unfold bg
  simp only [Bool.and_eq_true, decide_eq_true_eq, beq_iff_eq, Lib.toList_data, ByteArray.data_extract, Array.toList_extract, List.extract_eq_take_drop, List.drop_zero, Nat.sub_zero]
  rw [List.prefix_iff_eq_take]
  have h1 : k.data.toList.length = k.size := by simp
  have h2 : s.data.toList.length = s.size := by simp
  constructor
  · rintro ⟨_, h⟩
    rw [h1, h]
  · intro h
    rw [h1] at h
    refine ⟨?_, h.symm⟩
    have := congrArg List.length h
    rw [h1, List.length_take, h2] at this
    omega

def kcells (l : List Ent) : List Value := l.map (fun e => .string e.1)

def vcells (l : List Ent) : List Value := l.map (fun e => .int .i64 e.2)

/-- a slice of keys, a slice of values -/
def KV (w : World) (base : Nat) (kv vv : Value) (l : List Ent) : Prop := w.ownsRow base 9 1 kv l.length (kcells l) ∧ w.ownsRow base 3 1 vv l.length (vcells l)

theorem infoStr : (Tryz.prog.info? 9).map (fun i => (i.zero, i.size, i.bytes)) = some (some (.string ⟨#[]⟩), 1, 16) := by kernel_rfl

theorem infoInt : (Tryz.prog.info? 3).map (fun i => (i.zero, i.size, i.bytes)) = some (some (.int .i64 0), 1, 8) := by kernel_rfl

theorem Bx.ne {W : World} {b b' : Nat} {v v' : Value} {t t' : TypeId} (h : Bx W b v t) (h' : Bx W b' v' t') (ht : t ≠ t') : b ≠ b' := by
  rintro rfl
  have e1 : W.heap[b]? = _ := h
  rw [show W.heap[b]? = _ from h'] at e1
  injection e1 with e1
  injection e1 with e2 e3
  exact ht e3.symm

theorem row_obj {W : World} {base : Nat} {e : TypeId} {size : Nat} {v : Value} {n : Nat} {xs : List Value} (h : W.ownsRow base e size v n xs) {g : Nat} (hg : v.ownBlock = some g) : base ≤ g ∧ ∃ cur, W.heap[g]? = some (.cells cur e (0, 0)) := by
  rcases h.2 with ⟨rfl, _⟩ | ⟨g', cap, cur, rfl, hb, hgg, _⟩
  · cases hg
  · cases hg; exact ⟨hb, cur, hgg⟩

theorem row_ne {W : World} {base base' : Nat} {e e' : TypeId} {size size' : Nat} {v v' : Value} {n n' : Nat} {xs xs' : List Value} (h : W.ownsRow base e size v n xs) (h' : W.ownsRow base' e' size' v' n' xs') (he : e ≠ e') {g g' : Nat} (hg : v.ownBlock = some g) (hg' : v'.ownBlock = some g') : g ≠ g' := by
  rintro rfl
  obtain ⟨_, cur, h1⟩ := row_obj h hg
  obtain ⟨_, cur', h2⟩ := row_obj h' hg'
  rw [h1] at h2
  injection h2 with e1
  injection e1 with e2 e3
  exact he e3

theorem row_box {W : World} {base : Nat} {e t : TypeId} {size : Nat} {v : Value} {n : Nat} {xs : List Value} (h : W.ownsRow base e size v n xs) {b : Nat} {u : Value} (hb : Bx W b u t) (he : e ≠ t) {g : Nat} (hg : v.ownBlock = some g) : g ≠ b := by
  rintro rfl
  obtain ⟨_, cur, h1⟩ := row_obj h hg
  rw [show W.heap[g]? = _ from hb] at h1
  injection h1 with e1
  injection e1 with e2 e3
  exact he e3.symm

theorem new_one (w : World) (n : Nat) (hn : n = w.heap.size) (v : Value) (t : TypeId) : ∀ j u, ([v] : List Value)[j]? = some u → (w.alloc (.cells #[v] t)).cell? ((⟨n, 0, none⟩ : Addr).add j) = some u := by
  subst hn
  exact cell_one_new _ _ _

theorem row_low {W : World} {base base' : Nat} {e : TypeId} {size : Nat} {v : Value} {n : Nat} {xs : List Value} (h : W.ownsRow base e size v n xs) (hb : base' ≤ base) : W.ownsRow base' e size v n xs :=
  ⟨h.1, h.2.imp id (fun ⟨g, cap, cur, e1, e2, rest⟩ => ⟨g, cap, cur, e1, Nat.le_trans hb e2, rest⟩)⟩
end Go.Proofs.YthmfcloecmnfnaaGreat

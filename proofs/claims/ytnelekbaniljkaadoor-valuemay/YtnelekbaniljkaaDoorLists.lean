/-
  Contracts of package wire's reader for lists (takeList, List): each answers as a function on lists of bytes says; but for the reader's own block nothing that was there before the call is changed.
-/
import Derived.Test.YtnelekbaniljkaaDoorTextCalls
import Derived.Test.YtnelekbaniljkaaDoorWList
namespace Go.Proofs.YtnelekbaniljkaaDoor
open Go.RowKit

theorem infoStr : (Tryd.prog.info? 9).map (fun i => (i.zero, i.size, i.bytes)) = some (some (.string ⟨#[]⟩), 1, 16) := by kernel_rfl

/-- strings as cells -/
def strCs (ss : List (List UInt8)) : List Value := ss.map fun s => .string (S s)
theorem strCs_snoc (ss : List (List UInt8)) (s : List UInt8) : strCs (ss ++ [s]) = strCs ss ++ [.string (S s)] := by simp [strCs]
theorem strCs_length (ss : List (List UInt8)) : (strCs ss).length = ss.length := by simp [strCs]

theorem ownsRow_but {w w' : World} {base b : Nat} {t : TypeId} {size : Nat} {v : Value} {n : Nat} {xs : List Value} (h : w.ownsRow base t size v n xs) (hb : But b w w') (hlt : b < base) : w'.ownsRow base t size v n xs := by
  obtain ⟨h1, h2⟩ := h
  refine ⟨h1, ?_⟩
  rcases h2 with h2 | ⟨g, cap, cur, hv, hg, hh, r⟩
  · exact .inl h2
  · have hgs : g < w.heap.size := by
      rcases Nat.lt_or_ge g w.heap.size with h | h
      · exact h
      · rw [Array.getElem?_eq_none h] at hh; cases hh
    exact .inr ⟨g, cap, cur, hv, hg, by rw [hb.block g hgs (by omega)]; exact hh, r⟩

theorem But.grown {b : Nat} {w0 w w' : World} {row : Option Nat} (h : But b w0 w) (hg : w.grownBy w' row) (hr : ∀ k, row = some k → w0.heap.size ≤ k) : But b w0 w' :=
  ⟨hg.os.trans h.os, hg.tape.trans h.tape, hg.output.trans h.output, Nat.le_trans h.size hg.size, fun k hk hb => (hg.block k (Nat.lt_of_lt_of_le hk h.size) (fun e => by have := hr k e.symm; omega)).trans (h.block k hk hb)⟩
theorem Rd.of_block {b e : Nat} {l : List UInt8} {w w' : World} (h : Rd w b l e) (hb : w'.heap[b]? = w.heap[b]?) (hs : w.heap.size ≤ w'.heap.size) : Rd w' b l e :=
  ⟨(World.cell?_of_block (w := w) (a := ⟨b, 0, none⟩) hb).trans h.rest, (World.cell?_of_block (w := w) (a := ⟨b, 1, none⟩) hb).trans h.err, (World.frozen?_of_block (w := w) (a := ⟨b, 0, none⟩) hb).trans h.fr, (World.frozen?_of_block (w := w) (a := ⟨b, 1, none⟩) hb).trans h.fe, Nat.lt_of_lt_of_le h.lt hs⟩

/-- TEXTS, n of them, behind those that are taken: the texts, what is left, why not -/
def texs (most : Int) : Nat → List (List UInt8) → List UInt8 → List (List UInt8) × List UInt8 × Nat
  | 0, acc, l => (acc, l, 0)
  | n + 1, acc, l => if (tex most l).2.2 ≠ 0 then ([], (tex most l).2.1, (tex most l).2.2) else texs most n (acc ++ [(tex most l).1]) (tex most l).2.1
/-- A LIST of at most 'many' texts of at most 'most' bytes -/
def lis (many most : Int) (l : List UInt8) : List (List UInt8) × List UInt8 × Nat :=
  if (cnt many l).2.2 ≠ 0 then ([], (cnt many l).2.1, (cnt many l).2.2) else texs most (cnt many l).1 [] (cnt many l).2.1

theorem numb_less : ∀ (l : List UInt8) (i acc : Nat), (numb i acc l).2.2 = 0 → (numb i acc l).2.1.length + 1 ≤ l.length
  | [], i, _ => by simp only [numb]; intro h; split at h <;> simp at h
  | c :: t, i, acc => by
    have ih := numb_less t (i + 1) (acc + c.toNat % 128 * 2 ^ (i * 7))
    rw [numb]
    split
    · simp
    · split
      · intro h; have := ih h; simp; omega
      · split <;> simp
theorem cnt_less {most : Int} {l : List UInt8} (h : (cnt most l).2.2 = 0) : (cnt most l).2.1.length + 1 ≤ l.length := by
  have := numb_less l 0 0
  unfold cnt at h ⊢
  split at h
  · rename_i h1; exact absurd h h1
  · split at h
    · simp at h
    · rename_i h1 h2
      rw [if_neg h1, if_neg h2]
      exact this (by simpa using h1)
theorem tex_less {most : Int} {l : List UInt8} (h : (tex most l).2.2 = 0) : (tex most l).2.1.length + 1 ≤ l.length := by
  unfold tex at h ⊢
  split at h
  · rename_i h1; exact absurd h h1
  · split at h
    · simp at h
    · rename_i h1 h2
      rw [if_neg h1, if_neg h2]
      have := cnt_less (most := most) (l := l) (by simpa using h1)
      simp; omega

theorem Strs.of_own {w : World} {base : Nat} {v : Value} {ss : List (List UInt8)} (h : w.ownsRow base 9 1 v ss.length (strCs ss)) : Strs w v ss := by
  have hcs := fun g => h.cells (g := g)
  have hlt := h.lt
  rcases h.2 with ⟨rfl, h0⟩ | ⟨g, cap, cur, rfl, _⟩
  · have : ss = [] := List.length_eq_zero_iff.1 h0
    subst this
    exact ⟨none, 0, rfl, .inl rfl⟩
  · refine ⟨some ⟨g, 0, none⟩, cap, rfl, .inr ⟨g, 0, rfl, (hlt g rfl).2, fun j hj => ?_⟩⟩
    have := hcs g rfl j (.string (S (ss.getD j []))) (by simp [strCs, List.getD, hj])
    rw [Addr.add_lit] at this
    exact this

/-- three new blocks: what they hold -/
theorem three (w : World) (x y z : Value) (p q r : TypeId) :
    (((w.alloc (.cells #[x] p)).alloc (.cells #[y] q)).alloc (.cells #[z] r)).cell? ⟨w.heap.size, 0, none⟩ = some x ∧
    (((w.alloc (.cells #[x] p)).alloc (.cells #[y] q)).alloc (.cells #[z] r)).cell? ⟨w.heap.size + 1, 0, none⟩ = some y ∧
    (((w.alloc (.cells #[x] p)).alloc (.cells #[y] q)).alloc (.cells #[z] r)).cell? ⟨w.heap.size + 1 + 1, 0, none⟩ = some z := by
  refine ⟨?_, ?_, ?_⟩
  · rw [World.cell?_alloc_past _ _ _ (by simp; omega), World.cell?_alloc_past _ _ _ (by simp)]
    simp
  · rw [World.cell?_alloc_past _ _ _ (by simp), World.cell?_alloc_at _ _ _ _ (by simp)]
    rfl
  · rw [World.cell?_alloc_at _ _ _ _ (by simp)]
    rfl

end Go.Proofs.YtnelekbaniljkaaDoor

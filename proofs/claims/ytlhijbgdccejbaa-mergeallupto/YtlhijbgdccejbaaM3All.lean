/-
  Ranges and rows that grow beside each other (the first loop of MergeAll).
-/
import Derived.Test.YtlhijbgdccejbaaM3Args
import Derived.Test.YtlhijbgdccejbaaM3Shown
namespace Go.Proofs.Ytlhijbgdccejbaa
open Go.RowKit Go.Shelf Go.Sort
open Go.Lib hiding intOf

/-- so far there are i ranges (what they are lies in the blocks of X) and j slices of rows -/
structure Ga (w1 : World) (ls : List (List Ent)) (i j : Nat) (X : Nat → Prop) (vr vw : Value) (us rs : List Value) (W : World) : Prop where
  rr : W.ownsRow w1.heap.size 27 1 vr i us
  rw : W.ownsRow w1.heap.size 30 1 vw j rs
  su : ∀ k, k < i → ∃ l u, ls[k]? = some l ∧ us[k]? = some u ∧ Sn W u l X
  sr : ∀ k, k < j → ∃ l r, ls[k]? = some l ∧ rs[k]? = some r ∧ W.ownsRow 0 33 2 r l.length (flat l)
  hX : ∀ k, X k → w1.heap.size ≤ k ∧ k < W.heap.size
  dr : ∀ g, vr.ownBlock = some g → ¬ X g
  dw : ∀ g, vw.ownBlock = some g → ¬ X g
  b : Below w1.heap.size w1 W
theorem Ga.start (w1 : World) (ls : List (List Ent)) : Ga w1 ls 0 0 (fun _ => False) (.slice none 0 0) (.slice none 0 0) [] [] w1 :=
  ⟨World.ownsRow_nil _ _ _ _, World.ownsRow_nil _ _ _ _, fun _ h => by omega, fun _ h => by omega, fun _ h => h.elim, fun _ _ h => h, fun _ _ h => h, Below.refl _ _⟩
theorem Ga.below {w1 : World} {ls : List (List Ent)} {i j : Nat} {X : Nat → Prop} {vr vw : Value} {us rs : List Value} {W W' : World} (h : Ga w1 ls i j X vr vw us rs W) (hb : Below W.heap.size W W') : Ga w1 ls i j X vr vw us rs W' := by
  have hc : Ch (fun _ => False) W W' := Ch.of_below hb
  refine ⟨hc.row h.rr (fun _ _ => id), hc.row h.rw (fun _ _ => id), fun k hk => ?_, fun k hk => ?_, fun k hk => ⟨(h.hX k hk).1, Nat.lt_of_lt_of_le (h.hX k hk).2 hb.size⟩, h.dr, h.dw, h.b.trans (hb.mono h.b.size)⟩
  · obtain ⟨l, u, h1, h2, h3⟩ := h.su k hk
    exact ⟨l, u, h1, h2, h3.below hb⟩
  · obtain ⟨l, r, h1, h2, h3⟩ := h.sr k hk
    exact ⟨l, r, h1, h2, hc.row h3 (fun _ _ => id)⟩
/-- one more range -/
theorem Ga.appR {w1 : World} {ls : List (List Ent)} {i j : Nat} {X : Nat → Prop} {vr vw v' : Value} {us rs : List Value} {W w' : World} {o : Obj} {u : Value} {l : List Ent} {Xn : Nat → Prop} {n0 : Nat} (h : Ga w1 ls i j X vr vw us rs W) (hl : ls[i]? = some l) (hS : Sn W u l Xn) (hXn : ∀ k, Xn k → n0 ≤ k)
    (hn : w1.heap.size ≤ n0) (hvr : ∀ g, vr.ownBlock = some g → g < n0) (hvw : ∀ g, vw.ownBlock = some g → g < n0)
    (hown : w'.ownsRow w1.heap.size 27 1 v' (i + 1) (us ++ [u])) (hg : (W.alloc o).grownBy w' vr.ownBlock) (hat : v'.ownBlock = vr.ownBlock ∨ v'.ownBlock = some (W.heap.size + 1)) :
    Ga w1 ls (i + 1) j (fun k => X k ∨ Xn k) v' vw (us ++ [u]) rs w' := by
  have hc : Ch (fun k => vr.ownBlock = some k) W w' := ((Ch.refl _ W).alloc o).trans (Ch.of_grown hg (fun k e _ => e))
  have hq1 : Kq X W w' := Kq.of_ch hc (fun k hk e => h.dr k e hk)
  have hq2 : Kq Xn W w' := Kq.of_ch hc (fun k hk e => by have := hXn k hk; have := hvr k e; omega)
  have hXX : ∀ k, (X k ∨ Xn k) → w1.heap.size ≤ k ∧ k < W.heap.size := fun k hk => hk.elim (h.hX k) (fun h' => ⟨Nat.le_trans hn (hXn k h'), hS.1 k h'⟩)
  have hXX' : ∀ k, (X k ∨ Xn k) → k < w'.heap.size := fun k hk => Nat.lt_of_lt_of_le (hXX k hk).2 hc.size
  have hul : us.length = i := by have := h.rr.1; omega
  refine ⟨hown, hc.row h.rw (fun k hk e => row_ne h.rw h.rr (by decide) hk e rfl), fun k hk => ?_, fun k hk => ?_, fun k hk => ⟨(hXX k hk).1, hXX' k hk⟩, fun g hg' hx => ?_, fun g hg' hx => ?_, h.b.trans (hc.below h.b.size (fun k hk e => by have := (h.rr.lt k e).1; omega))⟩
  · by_cases hki : k < i
    · obtain ⟨l', u', h1, h2, h3⟩ := h.su k hki
      exact ⟨l', u', h1, by rw [List.getElem?_append_left (by omega)]; exact h2, (h3.kq hq1).wide (fun k h => .inl h) hXX'⟩
    · obtain rfl : k = i := by omega
      refine ⟨l, u, hl, ?_, (hS.kq hq2).wide (fun k h => .inr h) hXX'⟩
      rw [List.getElem?_append_right (by omega), hul]; simp
  · obtain ⟨l', r, h1, h2, h3⟩ := h.sr k hk
    exact ⟨l', r, h1, h2, hc.row h3 (fun k hk e => row_ne h3 h.rr (by decide) hk e rfl)⟩
  · rcases hat with e | e
    · rw [e] at hg'
      exact hx.elim (h.dr g hg') (fun h' => by have := hXn g h'; have := hvr g hg'; omega)
    · rw [e] at hg'; cases hg'
      have := (hXX _ hx).2; omega
  · exact hx.elim (h.dw g hg') (fun h' => by have := hXn g h'; have := hvw g hg'; omega)
/-- one more slice of rows -/
theorem Ga.appW {w1 : World} {ls : List (List Ent)} {i j : Nat} {X : Nat → Prop} {vr vw v' : Value} {us rs : List Value} {W w' : World} {o : Obj} {r : Value} {l : List Ent} (h : Ga w1 ls i j X vr vw us rs W) (hl : ls[j]? = some l) (hr : W.ownsRow 0 33 2 r l.length (flat l))
    (hown : w'.ownsRow w1.heap.size 30 1 v' (j + 1) (rs ++ [r])) (hg : (W.alloc o).grownBy w' vw.ownBlock) (hat : v'.ownBlock = vw.ownBlock ∨ v'.ownBlock = some (W.heap.size + 1)) :
    Ga w1 ls i (j + 1) X vr v' us (rs ++ [r]) w' := by
  have hc : Ch (fun k => vw.ownBlock = some k) W w' := ((Ch.refl _ W).alloc o).trans (Ch.of_grown hg (fun k e _ => e))
  have hq1 : Kq X W w' := Kq.of_ch hc (fun k hk e => h.dw k e hk)
  have hrl : rs.length = j := by have := h.rw.1; omega
  refine ⟨hc.row h.rr (fun k hk e => row_ne h.rr h.rw (by decide) hk e rfl), hown, fun k hk => ?_, fun k hk => ?_, fun k hk => ⟨(h.hX k hk).1, Nat.lt_of_lt_of_le (h.hX k hk).2 hc.size⟩, h.dr, fun g hg' hx => ?_, h.b.trans (hc.below h.b.size (fun k hk e => by have := (h.rw.lt k e).1; omega))⟩
  · obtain ⟨l', u', h1, h2, h3⟩ := h.su k hk
    exact ⟨l', u', h1, h2, h3.kq hq1⟩
  · by_cases hki : k < j
    · obtain ⟨l', r', h1, h2, h3⟩ := h.sr k hki
      exact ⟨l', r', h1, by rw [List.getElem?_append_left (by omega)]; exact h2, hc.row h3 (fun k hk e => row_ne h3 h.rw (by decide) hk e rfl)⟩
    · obtain rfl : k = j := by omega
      refine ⟨l, r, hl, ?_, hc.row hr (fun k hk e => row_ne hr h.rw (by decide) hk e rfl)⟩
      rw [List.getElem?_append_right (by omega), hrl]; simp
  · rcases hat with e | e
    · rw [e] at hg'; exact h.dw g hg' hx
    · rw [e] at hg'; cases hg'
      have := (h.hX _ hx).2; omega
/-- all ranges, all rows -/
theorem Ga.fin {w1 : World} {ls : List (List Ent)} {X : Nat → Prop} {vr vw : Value} {us rs : List Value} {W : World} (h : Ga w1 ls ls.length ls.length X vr vw us rs W) : (∃ Y, Rgs W vr ls Y) ∧ Rws W vw ls := by
  constructor
  · refine ⟨fun k => X k ∨ vr.ownBlock = some k, ?_⟩
    have hXX : ∀ k, (X k ∨ vr.ownBlock = some k) → k < W.heap.size := fun k hk => hk.elim (fun h' => (h.hX k h').2) (fun e => (h.rr.lt k e).2)
    refine ⟨hXX, ?_⟩
    rcases h.rr.2 with ⟨rfl, h0⟩ | ⟨g, cap, cur, rfl, hb, hg, hnc, _⟩
    · exact .inl ⟨rfl, List.eq_nil_of_length_eq_zero h0⟩
    · refine .inr ⟨g, 0, cap, rfl, hnc, .inr rfl, fun k hk => ?_⟩
      obtain ⟨l, u, h1, h2, h3⟩ := h.su k hk
      rw [List.getElem?_eq_getElem hk] at h1
      cases h1
      refine ⟨u, ?_, h3.wide (fun k h => .inl h) hXX⟩
      rw [Nat.zero_add]
      exact row_cell h.rr h2
  · rcases h.rw.2 with ⟨rfl, h0⟩ | ⟨g, cap, cur, rfl, hb, hg, hnc, _⟩
    · exact ⟨none, 0, by rw [h0], .inl (List.eq_nil_of_length_eq_zero h0)⟩
    · refine ⟨_, cap, rfl, .inr ⟨g, 0, rfl, (Array.getElem?_eq_some_iff.1 hg).1, fun k hk => ?_⟩⟩
      obtain ⟨l, r, h1, h2, h3⟩ := h.sr k hk
      rw [List.getElem?_eq_getElem hk] at h1
      cases h1
      refine ⟨r, ?_, rw_of_row h3⟩
      rw [Nat.zero_add]
      exact row_cell h.rw h2
theorem infoSl : (Try.prog.info? 30).map (fun i => (i.zero, i.size, i.bytes)) = some (some (.slice none 0 0), 1, 24) := by kernel_rfl
end Go.Proofs.Ytlhijbgdccejbaa

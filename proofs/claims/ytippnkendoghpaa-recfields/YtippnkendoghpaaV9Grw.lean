/-
  Rows of variables; slices.Grow of nothing; slices.Concat of three.
-/
import Derived.Test.YtippnkendoghpaaV9Cmp
import Derived.Lib.AppendZeros
import Derived.Deep.DeepAppendWide
namespace Go.Proofs.Ytippnkendoghpaa
open Go.RowKit Go.Shelf Go.Sort
open Go.Lib hiding intOf

/-- the cells of variables -/
def vc (x : Vr) : List Value := [.string x.1, .int .i64 x.2.1, .int .i64 x.2.2.1, .string (S x.2.2.2)]
def vcs (l : List Vr) : List Value := l.flatMap vc
theorem vcs_cons (x : Vr) (t : List Vr) : vcs (x :: t) = vc x ++ vcs t := rfl
theorem vcs_append (a b : List Vr) : vcs (a ++ b) = vcs a ++ vcs b := List.flatMap_append
theorem vcs_len : ∀ l : List Vr, (vcs l).length = l.length * 4
  | [] => rfl
  | x :: t => by rw [vcs_cons, List.length_append, vcs_len t, List.length_cons, show (vc x).length = 4 from rfl]; omega
theorem vcs_get : ∀ (l : List Vr) (j i : Nat), i < 4 → (vcs l)[j * 4 + i]? = (l[j]?).bind (fun x => (vc x)[i]?)
  | [], j, i, _ => by simp [vcs]
  | x :: t, 0, i, h => by rw [vcs_cons, Nat.zero_mul, Nat.zero_add, List.getElem?_append_left (show i < (vc x).length from h)]; rfl
  | x :: t, j + 1, i, h => by
    rw [vcs_cons, List.getElem?_append_right (by show 4 ≤ _; omega), show (j + 1) * 4 + i - (vc x).length = j * 4 + i by show _ - 4 = _; omega, vcs_get t j i h]
    rfl
theorem vcs_one : ∀ (l : List Vr) (u : Value), u ∈ vcs l → u.oneCell' = true := by
  intro l u hu
  obtain ⟨x, -, hx⟩ := List.mem_flatMap.1 hu
  simp only [vc, List.mem_cons, List.not_mem_nil, or_false] at hx
  rcases hx with rfl | rfl | rfl | rfl <;> rfl
/-- a row of one's own is a slice -/
theorem Vs.row {w : World} {base : Nat} {v : Value} {l : List Vr} (h : w.ownsRow base 54 4 v l.length (vcs l)) : Vs w v l := by
  rcases h.2 with ⟨rfl, h0⟩ | ⟨g, cap, cur, rfl, _, hg, hnc, _⟩
  · exact ⟨none, 0, by rw [h0], ⟨by omega, fun _ => rfl⟩, .inl (List.eq_nil_of_length_eq_zero h0)⟩
  · refine ⟨some ⟨g, 0, none⟩, cap, rfl, ⟨hnc, fun e => by cases e⟩, .inr ⟨g, 0, rfl, (Array.getElem?_eq_some_iff.1 hg).1, fun j hj => ?_⟩⟩
    have c : ∀ i u, i < 4 → (vc l[j])[i]? = some u → w.cell? ⟨g, 0 + j * 4 + i, none⟩ = some u := fun i u hi hu => by
      rw [Nat.zero_add]
      refine row_cell h ?_
      rw [vcs_get l j i hi, List.getElem?_eq_getElem hj]
      exact hu
    exact ⟨c 0 _ (by omega) rfl, c 1 _ (by omega) rfl, c 2 _ (by omega) rfl, c 3 _ (by omega) rfl⟩
/-- the cells that a slice has -/
theorem Vs.cells {w : World} {l : List Vr} {ad : Addr} {cap : Nat} (h : Vs w (.slice (some ad) l.length cap) l) : ∀ j u, (vcs l)[j]? = some u → w.cell? (ad.add j) = some u := by
  obtain ⟨a, c, e, -, h⟩ := h
  cases e
  rcases h with rfl | ⟨b, off, e, -, hc⟩
  · intro j u hj; simp [vcs] at hj
  · cases e
    intro j u hj
    have e1 : j = j / 4 * 4 + j % 4 := by omega
    have hlt : j < (vcs l).length := (List.getElem?_eq_some_iff.1 hj).1
    rw [vcs_len] at hlt
    have hq : j / 4 < l.length := by omega
    rw [e1, vcs_get l (j / 4) (j % 4) (by omega), List.getElem?_eq_getElem hq] at hj
    rw [Addr.add_lit]
    obtain ⟨c0, c1, c2, c3⟩ := hc (j / 4) hq
    have hm : j % 4 < 4 := by omega
    obtain ⟨m, hmm⟩ : ∃ m, j % 4 = m := ⟨_, rfl⟩
    rw [hmm] at hj hm e1
    match m, hm with
    | 0, _ => rw [e1]; simp [vc] at hj; subst hj; rw [← Nat.add_assoc, Nat.add_zero]; exact c0
    | 1, _ => rw [e1]; simp [vc] at hj; subst hj; rw [← Nat.add_assoc]; exact c1
    | 2, _ => rw [e1]; simp [vc] at hj; subst hj; rw [← Nat.add_assoc]; exact c2
    | 3, _ => rw [e1]; simp [vc] at hj; subst hj; rw [← Nat.add_assoc]; exact c3
theorem infoVar : (Try.prog.info? 54).map (fun i => (i.zero, i.size, i.bytes)) = some (some (.agg #[.string ⟨#[]⟩, .int .i64 0, .int .i64 0, .string ⟨#[]⟩]), 4, 48) := by kernel_rfl
theorem own_fresh (W : World) (n c : Nat) (z : Value) (hz : z.cells.size = 4) (hn : n ≤ c) (hc : c ≤ maxLen) (e : TypeId) : (W.alloc (.cells (Builtin.zeroCells z.cells n ++ Builtin.zeroCells z.cells (c - n)) e)).ownsRow W.heap.size e 4 (.slice (some ⟨W.heap.size, 0, none⟩) 0 c) 0 [] := by
  refine ⟨by simp, .inr ⟨W.heap.size, c, _, rfl, Nat.le_refl _, heap_alloc_new W _, Nat.zero_le _, hc, ?_, by simp⟩⟩
  simp [Builtin.zeroCells, hz]
  omega

/-- slices of variables in a row -/
abbrev Prt := Value × List Vr
def tot (us : List Prt) : Nat := (us.map fun x => x.2.length).sum
def cat9 (us : List Prt) : List Vr := us.flatMap fun x => x.2
theorem tot_snoc (us : List Prt) (x : Prt) : tot (us ++ [x]) = tot us + x.2.length := by simp [tot]
theorem cat_snoc9 (us : List Prt) (x : Prt) : cat9 (us ++ [x]) = cat9 us ++ x.2 := by simp [cat9]
theorem tot_take (us : List Prt) (i : Nat) : tot (us.take i) ≤ tot us := by
  have := List.take_append_drop i us
  have h : tot us = tot (us.take i) + tot (us.drop i) := by
    conv => lhs; rw [← this]
    simp only [tot, List.map_append, List.sum_append]
  omega
theorem cat_len9 (us : List Prt) : (cat9 us).length = tot us := by
  unfold cat9 tot
  rw [List.length_flatMap]
structure Pt (w : World) (b : Nat) (us : List Prt) : Prop where
  lt : b < w.heap.size
  c : ∀ (j : Nat) (h : j < us.length), w.cell? ⟨b, j, none⟩ = some us[j].1
  v : ∀ (j : Nat) (h : j < us.length), Vs w us[j].1 us[j].2
theorem Pt.up {w w' : World} {b : Nat} {us : List Prt} (h : Pt w b us) (hb : Below w.heap.size w w') : Pt w' b us :=
  ⟨Nat.lt_of_lt_of_le h.lt hb.size, fun j hj => (hb.cell (p := ⟨b, j, none⟩) h.lt).trans (h.c j hj), fun j hj => (h.v j hj).up hb⟩
theorem fit48 (n : Nat) (h : n ≤ 1000) : (n + n / 4 + 192) * 48 ≤ 281474976710656 := by omega
theorem take_snocP {us : List Prt} {k : Nat} (h : k < us.length) : us.take (k + 1) = us.take k ++ [us[k]] := List.take_succ_eq_append_getElem h

end Go.Proofs.Ytippnkendoghpaa

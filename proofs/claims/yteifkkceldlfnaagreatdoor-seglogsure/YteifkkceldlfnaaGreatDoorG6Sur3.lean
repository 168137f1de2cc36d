/-
  What SeglogSure's arguments give to a walk; a batch that is refused, gathered all the same.
-/
import Derived.Test.YteifkkceldlfnaaGreatDoorG6Sur2
import Derived.Test.YteifkkceldlfnaaGreatDoorG6Card
import Derived.Deep.DeepAppendWide
import Derived.Laws.OwnMore
namespace Go.Proofs.YteifkkceldlfnaaGreatDoor
open Go.RowKit Go.Shelf Go.Sort
open Go.Lib hiding intOf

section
open Go.ChangeShapes Go.WideShapes Go.ChangeAt Go.WideMaps Go.WideElems
theorem mem_weightsAll {H : Type} {e : TypeId} {n : Nat} {x : DataW H} (hx : n ∈ x.weights Tryz.prog e) : ∀ {l : List (DataW H)}, x ∈ l → n ∈ DataW.weightsAll Tryz.prog e l
  | y :: r, h => by
    rw [DataW.weightsAll, List.mem_append]
    rcases List.mem_cons.1 h with rfl | h
    · exact .inl hx
    · exact .inr (mem_weightsAll hx h)
theorem openKs {H : Type} {enc : TypeId × Value → H} {W : World} {v : Value} {x : DataW H × List MemPlace} {fuel : Nat} (hf : DataW.trod enc Tryz.prog W 0 (fun _ => true) true fuel 37 [v] = some x) :
    ∃ ka ks kc, v = .slice ka (ks : List Int).length kc ∧ Ks W ka ks ∧ (ks ≠ [] → ∀ a, ka = some a → a.block < W.heap.size) := by
  rcases open_ints Tryz.underlying37 Tryz.underlying3 (by kernel_rfl) hf with ⟨hcs, hx⟩ | ⟨x, len0, cap0, zs, hcs, _, hl, hm, hz, hx, hcell, hws⟩
  · simp at hcs
    subst hcs
    exact ⟨none, [], 0, rfl, fun j hj => (by cases hj), fun h => absurd rfl h⟩
  · simp at hcs
    subst hcs
    have hsl : zs.length = cap0 := by simpa using hz
    have hlen : (zs.take len0).length = len0 := by simp; omega
    have key : 0 < len0 → ∃ b off, x = ⟨b, off, none⟩ ∧ b < W.heap.size := by
      intro h0
      have hc := hcell 0 (by omega)
      obtain ⟨b, off, spot⟩ := x
      have hspot : spot = none := by simpa [Addr.add] using World.cell?_spot hc
      subst hspot
      refine ⟨b, off, rfl, ?_⟩
      have hc0 : W.cell? ⟨b, off, none⟩ = some (.int .i64 (zs.getD 0 0)) := by simpa [Addr.add] using hc
      rcases Nat.lt_or_ge b W.heap.size with h | h
      · exact h
      · simp only [World.cell?] at hc0
        rw [Array.getElem?_eq_none h] at hc0
        cases hc0
    refine ⟨some x, zs.take len0, cap0, by rw [hlen], fun j hj => ?_, fun h0 a e => ?_⟩
    · rw [hlen] at hj
      obtain ⟨b, off, rfl, _⟩ := key (by omega)
      refine ⟨b, off, rfl, ?_⟩
      have hcj := hcell j (by omega)
      rw [Addr.add_lit] at hcj
      rw [hcj]
      have hjs : j < zs.length := by omega
      simp [List.getD, hjs]
    · cases e
      have : 0 < len0 := by
        rcases Nat.eq_zero_or_pos len0 with h | h
        · subst h; simp at h0
        · exact h
      obtain ⟨b, off, rfl, h⟩ := key this
      exact h
end
theorem gRoom_name (lg : Lg) (st : Ab) : (gRoom lg st).2.2.1.pre = lg.pre ∧ (gRoom lg st).2.2.1.sz = lg.sz := by
  unfold gRoom
  split
  · exact ⟨rfl, rfl⟩
  · split
    · exact ⟨rfl, rfl⟩
    · split <;> exact ⟨rfl, rfl⟩
theorem gAppend_name (lg : Lg) (st : Ab) (l : List (List UInt8)) : (gAppend lg st l).2.1.pre = lg.pre ∧ (gAppend lg st l).2.1.sz = lg.sz := by
  have h := gRoom_name lg st
  unfold gAppend
  split
  · exact ⟨rfl, rfl⟩
  · split
    · exact h
    · simp only
      split
      · exact h
      · exact h
theorem gFlush_name (lg : Lg) (st : Ab) : (gFlush lg st).2.1.pre = lg.pre ∧ (gFlush lg st).2.1.sz = lg.sz := by
  unfold gFlush
  split
  · exact ⟨rfl, rfl⟩
  · split
    · exact ⟨rfl, rfl⟩
    · split <;> exact ⟨rfl, rfl⟩
theorem gFlush_pn {lg : Lg} {st : Ab} {all : List (List UInt8)} (h : Pn lg all) : Pn (gFlush lg st).2.1 all := by
  unfold gFlush
  split
  · exact h
  · split
    · exact h
    · split
      · exact h
      · exact ⟨h.e, h.r, h.f, h.a, h.n⟩
/-- a batch that is no wrong argument is short -/
theorem gApp_short {lg : Lg} {st : Ab} {l : List (List UInt8)} (h : (gAppend lg st l).1.2 ≠ 1) : 1 ≤ l.length ∧ l.length ≤ 256 := by
  have h1 : isB l = true := by
    cases hb : isB l with
    | true => rfl
    | false =>
      have : gNo lg l = 1 := by unfold gNo; rw [if_pos hb]
      unfold gAppend at h
      rw [if_pos (by rw [this]; decide), this] at h
      exact absurd rfl h
  exact ⟨(isB_iff.1 h1).1.1, (isB_iff.1 h1).1.2⟩
/-- a batch of the argument -/
structure BatW (w : World) (a : Option Addr) (i : Nat) (l : List (List UInt8)) (b o : Nat) (ua : Option Addr) (uc : Nat) : Prop where
  at' : a = some ⟨b, o, none⟩
  lt : b < w.heap.size
  cell : w.cell? ⟨b, o + i, none⟩ = some (.slice ua l.length uc)
  strs : Strs w (.slice ua l.length uc) l
  len : l.length * 16 ≤ 140737488355328
  nil : ua = none → uc = 0 ∧ l = []
theorem openBatW {H : Type} {enc : TypeId × Value → H} {W : World} {v : Value} {x : DataW H × List MemPlace} {fuel : Nat}
    (hf : DataW.trod enc Tryz.prog W 0 (fun _ => true) true fuel 35 [v] = some x) : ∃ ls, Strs W v ls ∧ ∃ ua uc, v = .slice ua ls.length uc ∧ (ua = none → uc = 0 ∧ ls = []) ∧ ((x.1.weights Tryz.prog 35).all (· ≤ reachBytes) = true → ls.length * 16 ≤ 140737488355328) := by
  obtain ⟨ls0, h0, h1⟩ := openBat hf
  rcases ChangeShapes.open_strings Tryz.underlying35 Tryz.underlying9 (by kernel_rfl) hf with ⟨hcs, hx⟩ | ⟨x', len0, cap0, ss, hcs, _, hl, hm, hz, hx, hcell, hws⟩
  · simp at hcs
    subst hcs
    obtain ⟨a, c, e, _⟩ := h0
    have e1 : ls0.length = 0 := by injection e with _ e _; exact e.symm
    have e2 : ls0 = [] := List.eq_nil_of_length_eq_zero e1
    subst e2
    exact ⟨[], ⟨none, 0, rfl, .inl rfl⟩, none, 0, rfl, fun _ => ⟨rfl, rfl⟩, fun _ => by simp⟩
  · simp at hcs
    subst hcs
    obtain ⟨a, c, e, hh⟩ := h0
    have e1 : len0 = ls0.length := by injection e
    refine ⟨ls0, ⟨a, c, e, hh⟩, some x', cap0, by rw [e1], fun h => (by cases h), fun hw => ?_⟩
    subst hx
    have hb : Tryz.prog.bytesOf 9 = 16 := by kernel_rfl
    simp only [DataW.weights, Tryz.underlying35, List.all_cons, Bool.and_eq_true, decide_eq_true_eq, List.all_append, hb] at hw
    have hr : reachBytes = 140737488351232 := rfl
    have hsl : ss.length = cap0 := by simpa using hz
    have h9 : (ChangeShapes.strs (H := H) (List.take len0 ss)).length = len0 := by simp [ChangeShapes.strs]; omega
    have h8 := hw.1
    rw [h9] at h8
    omega
theorem openBatsW {H : Type} {enc : TypeId × Value → H} {W : World} {v : Value} {x : DataW H × List MemPlace} {fuel : Nat}
    (hf : DataW.trod enc Tryz.prog W 0 (fun _ => true) true fuel 58 [v] = some x) : ∃ (ls : List (List (List UInt8))) (a : Option Addr) (c : Nat), v = .slice a ls.length c ∧ ls.length ≤ 9223372036854775807 ∧
      ((x.1.weights Tryz.prog 58).all (· ≤ reachBytes) = true → ∀ i, i < ls.length → ∃ l b o ua uc, BatW W a i l b o ua uc) := by
  rcases Deep.open_slice1 Tryz.underlying58 (by kernel_rfl) hf with ⟨hcs, hx⟩ | ⟨a, len, cap, m, n, V, D, Pl, hcs, _, hl, hm, hmm, hx, hall⟩
  · simp at hcs
    subst hcs
    exact ⟨[], none, 0, rfl, by simp, fun _ i hi => by simp at hi⟩
  · simp at hcs
    subst hcs
    have hmc : m = cap := by simpa using hmm
    refine ⟨(List.range len).map fun _ => [], some a, cap, by simp, by simp; unfold maxLen at hm; omega, fun hw i hi => ?_⟩
    have hi' : i < len := by simpa using hi
    obtain ⟨b, off, spot⟩ := a
    have hc := (hall i (by omega)).1
    have hc0 := (hall 0 (by omega)).1
    have hspot : spot = none := by simpa [Addr.add] using World.cell?_spot hc0
    subst hspot
    rw [Addr.add_lit] at hc
    obtain ⟨l, h1, ua, uc, h2, h3, h4⟩ := openBatW (hall i (by omega)).2
    subst hx
    rw [h2] at hc h1
    refine ⟨l, b, off, ua, uc, rfl, World.block_lt_of_cell? _ _ hc, hc, h1, h4 ?_, h3⟩
    simp only [DataW.weights, Tryz.underlying58, List.all_cons, Bool.and_eq_true, decide_eq_true_eq, List.all_append] at hw
    rw [List.all_eq_true] at hw ⊢
    intro q hq
    have hmem : D i ∈ (List.range len).map D := List.mem_map.2 ⟨i, List.mem_range.2 hi', rfl⟩
    exact hw.2.1 q (mem_weightsAll hq hmem)
section
variable {W0 wr : World} {N lb d : Nat} {lg : Lg} {st : Ab} {all l : List (List UInt8)} {v ev : Value} {ends : List Nat}
theorem Rz.gatherB (h : Rz W0 wr N lb d lg st all v ev ends) {ua : Option Addr} {uc : Nat} (hs : Strs W0 (.slice ua l.length uc) l) (hn : ua = none → uc = 0 ∧ l = []) (hb : all.length ≤ 1099511627777) (hl : l.length * 16 ≤ 140737488355328) :
    ∃ a1 n1 c1 w1, (Builtin.append_ #[35, 35] 35 #[v, .slice ua l.length uc]).run Tryz.prog wr = .ok (.slice a1 n1 c1) w1 ∧ w1.cell? ⟨N, 0, none⟩ = some v ∧ w1.frozen? ⟨N, 0, none⟩ = false ∧ Ls (fun x => W0.heap.size ≤ x) (w1.setCell ⟨N, 0, none⟩ (.slice a1 n1 c1)) W0.heap.size lb d lg st ∧ Below W0.heap.size W0 (w1.setCell ⟨N, 0, none⟩ (.slice a1 n1 c1)) := by
  obtain ⟨i0, hi0, hz0, hz1, hz2⟩ := info_parts infoStr
  have hN := h.bx.lt
  have fin : ∀ v1 w1, Ch (fun k => v.ownBlock = some k) wr w1 → w1.cell? ⟨N, 0, none⟩ = some v ∧ w1.frozen? ⟨N, 0, none⟩ = false ∧ Ls (fun x => W0.heap.size ≤ x) (w1.setCell ⟨N, 0, none⟩ v1) W0.heap.size lb d lg st ∧ Below W0.heap.size W0 (w1.setCell ⟨N, 0, none⟩ v1) := fun v1 w1 c1 => by
    have b1 := h.bx.ch c1 (fun e => (h.apart e).1 rfl)
    have c2 : Ch (fun k => k = N) w1 (w1.setCell ⟨N, 0, none⟩ v1) := (Ch.refl _ w1).setCell _ _ (fun _ => rfl)
    have c3 : Ch (fun k => k = N ∨ v.ownBlock = some k) wr (w1.setCell ⟨N, 0, none⟩ v1) := (c1.mono (fun k _ h => .inr h)).joinG c2 (fun k _ h => .inl h)
    refine ⟨b1.cell, b1.fro, (h.ls.tight.ch c3 (fun x hx e => ?_)).mono (fun x hx => hx.1.1), h.bw.trans (c3.below h.bw.size (fun k hk e => ?_))⟩
    · rcases e with e | e
      · exact hx.1.2.1 e
      · exact hx.1.2.2.1 e
    · rcases e with e | e
      · have := h.lo; omega
      · have := (row_obj h.row e).1; omega
  cases ua with
  | none =>
    obtain ⟨rfl, rfl⟩ := hn rfl
    have r1 := run_append_owned_none (P := Tryz.prog) (w := wr) W0.heap.size 35 35 9 i0 1 Tryz.underlying35 hi0 v all.length _ h.row
    obtain ⟨a1, k1, rfl, -⟩ := row_slice h.row
    exact ⟨a1, _, k1, wr, r1, fin _ wr (Ch.refl _ wr)⟩
  | some ad =>
    have hc : ∀ j u, (strCs l)[j]? = some u → wr.cell? (ad.add j) = some u := fun j u hj => by
      obtain ⟨ua', uc', ee, hx⟩ := hs
      cases ee
      obtain ⟨hjl, hje⟩ := List.getElem?_eq_some_iff.1 hj
      rw [strCs_length] at hjl
      rcases hx with hx | ⟨b2, o2, e2, hlt, hcc⟩
      · rw [hx] at hjl; cases hjl
      · cases e2
        rw [Addr.add_lit]
        refine ((h.bw.cell (p := ⟨b2, o2 + j, none⟩) hlt).trans (hcc j hjl)).trans ?_
        rw [← hje]
        simp [strCs, List.getD, List.getElem?_eq_getElem hjl]
    have hbb : ((all.length + l.length) + (all.length + l.length) / 4 + 192) * 16 ≤ 281474976710656 := by omega
    obtain ⟨v1, w1, r1, r2, r3, -⟩ := run_append_own_wide (P := Tryz.prog) (w := wr) W0.heap.size 35 35 9 i0 (.string ⟨#[]⟩) 1 16 Tryz.underlying35 hi0 hz0 hz1 hz2 rfl (by decide) v all.length _ h.row ad l.length uc (strCs l) (by rw [strCs_length]; simp) hc (by intro x hx; obtain ⟨y, _, rfl⟩ := List.mem_map.1 hx; rfl) (by unfold maxLen; omega) hbb h.bw.size
    obtain ⟨a1, k1, rfl, -⟩ := row_slice r2
    exact ⟨a1, _, k1, w1, r1, fin _ w1 (Ch.of_grown r3 (fun k e _ => e))⟩
end
end Go.Proofs.YteifkkceldlfnaaGreatDoor

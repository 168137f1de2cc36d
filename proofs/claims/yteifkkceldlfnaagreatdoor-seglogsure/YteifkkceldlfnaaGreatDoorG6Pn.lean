/-
  A log from which nothing was dropped: what it has is what was appended.
-/
import Derived.Test.YteifkkceldlfnaaGreatDoorG6DropP
import Derived.Test.YteifkkceldlfnaaGreatDoorG6Files
namespace Go.Proofs.YteifkkceldlfnaaGreatDoor
open Go.RowKit Go.Shelf Go.Sort
open Go.Lib hiding intOf

structure Pn (lg : Lg) (all : List (List UInt8)) : Prop where
  e : lg.segs = [] → lg.next = 1
  r : ∀ s ∈ lg.segs, s.recs ≠ []
  f : gFirst lg = 1
  a : recsOf lg.segs = all
  n : lg.next = all.length + 1
theorem gRoom_same (lg : Lg) (st : Ab) : (gRoom lg st).2.2.1.segs = lg.segs ∧ (gRoom lg st).2.2.1.next = lg.next ∧ ∀ s, (gRoom lg st).2.1 = some s → lg.segs.getLast? = some s := by
  unfold gRoom
  split
  · exact ⟨rfl, rfl, fun s h => by cases h⟩
  · rename_i s hs
    split
    · exact ⟨rfl, rfl, fun s' h => by cases h; exact hs⟩
    · split
      · exact ⟨rfl, rfl, fun s h => by cases h⟩
      · exact ⟨rfl, rfl, fun s h => by cases h⟩
theorem Pn.same {lg lg' : Lg} {all : List (List UInt8)} (h : Pn lg all) (h1 : lg'.segs = lg.segs) (h2 : lg'.next = lg.next) : Pn lg' all := by
  refine ⟨fun e => h2.trans (h.e (h1 ▸ e)), fun s hs => h.r s (h1 ▸ hs), ?_, by rw [h1]; exact h.a, h2.trans h.n⟩
  have := h.f
  unfold gFirst at this ⊢
  rw [h1, h2]
  exact this
theorem Pn.put {lg : Lg} {all : List (List UInt8)} (h : Pn lg all) (lg2 : Lg) (o : Option Sg) (ho : ∀ s, o = some s → lg.segs.getLast? = some s) {l : List (List UInt8)} (hl : l ≠ []) (n : Nat) : Pn { lg2 with segs := segsPut lg.segs o lg.next l n, next := lg.next + l.length } (all ++ l) := by
  cases o with
  | none =>
    refine ⟨fun e => ?_, fun s hs => ?_, ?_, ?_, ?_⟩
    · simp [segsPut] at e
    · simp only [segsPut] at hs
      rcases List.mem_append.1 hs with hs | hs
      · exact h.r s hs
      · rw [List.mem_singleton.1 hs]; exact hl
    · have := h.f
      unfold gFirst at this ⊢
      simp only [segsPut]
      cases hc : lg.segs with
      | nil => simp only [List.nil_append]; exact h.e hc
      | cons s t => rw [hc] at this; exact this
    · simp only [segsPut, recsOf, List.flatMap_append]
      rw [show lg.segs.flatMap Sg.recs = recsOf lg.segs from rfl, h.a]
      simp
    · simp only [List.length_append]
      have := h.n
      omega
  | some s =>
    have hs := ho s rfl
    have hsp : lg.segs = lg.segs.dropLast ++ [s] := by obtain ⟨ys, e⟩ := List.getLast?_eq_some_iff.1 hs; rw [e]; simp
    refine ⟨fun e => ?_, fun x hx => ?_, ?_, ?_, ?_⟩
    · simp [segsPut] at e
    · simp only [segsPut] at hx
      rcases List.mem_append.1 hx with hx | hx
      · exact h.r x (by rw [hsp]; exact List.mem_append_left _ hx)
      · rw [List.mem_singleton.1 hx]
        simp [Sg.more, hl]
    · have := h.f
      unfold gFirst at this ⊢
      simp only [segsPut]
      cases hc : lg.segs.dropLast with
      | nil =>
        rw [hc, List.nil_append] at hsp
        rw [hsp] at this
        exact this
      | cons x t =>
        rw [hc] at hsp
        rw [hsp] at this
        exact this
    · simp only [segsPut, recsOf, List.flatMap_append]
      have e1 := h.a
      rw [hsp] at e1
      simp only [recsOf, List.flatMap_append] at e1
      rw [← e1]
      simp [Sg.more]
    · simp only [List.length_append]
      have := h.n
      omega
theorem Pn.append {lg : Lg} {all : List (List UInt8)} (h : Pn lg all) (st : Ab) (l : List (List UInt8)) : Pn (gAppend lg st l).2.1 (if (gAppend lg st l).1.2 = 0 then all ++ l else all) := by
  obtain ⟨r1, r2, r3⟩ := gRoom_same lg st
  unfold gAppend
  by_cases h0 : gNo lg l ≠ 0
  · rw [if_pos h0]
    simp only
    rw [if_neg h0]
    exact h
  rw [if_neg h0]
  have hl : l ≠ [] := by
    rintro rfl
    apply h0
    unfold gNo
    have : isB [] = false := by decide
    rw [if_pos this]
    decide
  by_cases h1 : (gRoom lg st).1 ≠ 0
  · rw [if_pos h1]
    simp only
    rw [if_neg h1]
    exact h.same r1 r2
  rw [if_neg h1]
  simp only
  by_cases h2 : (aApp (gRoom lg st).2.2.2 (gName lg.pre (gRoom lg st).2.1 lg.next) (S (bfr lg.next l))).1 ≠ 0
  · rw [if_pos h2]
    simp only
    rw [if_neg h2]
    exact h.same r1 r2
  rw [if_neg h2]
  simp only
  rw [if_pos trivial]
  exact h.put _ _ r3 hl _

/-- where a log begins behind a drop -/
theorem dropS_head (pre : ByteArray) (below : Nat) : ∀ (segs : List Sg) (st : Ab) (n : Nat), Cn segs n → ∀ s r, segs = s :: r → ∃ s' r', (dropS pre below segs st).2.1 = s' :: r' ∧ s' ∈ segs ∧ (s'.first = s.first ∨ s'.first ≤ below)
  | [], _, _, _, _, _, h => by cases h
  | [a], st, _, _, s, r, h => by cases h; exact ⟨a, [], rfl, by simp, .inl rfl⟩
  | a :: b :: q, st, n, hc, s, r, h => by
    cases h
    unfold dropS
    by_cases h1 : a.next ≤ below
    · rw [if_pos h1]
      by_cases h2 : (aDel st (nam pre a.first)).1 ≠ 0
      · rw [if_pos h2]; exact ⟨a, b :: q, rfl, by simp, .inl rfl⟩
      · rw [if_neg h2]
        obtain ⟨s', r', e1, e2, e3⟩ := dropS_head pre below (b :: q) (aDel st (nam pre a.first)).2 n hc.2.2 b q rfl
        refine ⟨s', r', e1, List.mem_cons_of_mem _ e2, .inr ?_⟩
        have := hc.1
        rcases e3 with e3 | e3 <;> omega
    · rw [if_neg h1]; exact ⟨a, b :: q, rfl, by simp, .inl rfl⟩
theorem Pn.drop {lg : Lg} {all : List (List UInt8)} (h : Pn lg all) (ok : Ok lg) (st : Ab) (k : Nat) : (lg.next = 1 ∨ gFirst (gDrop lg st k).2.1 < lg.next) ∧ (k = 0 ∨ gFirst (gDrop lg st k).2.1 ≤ k) := by
  cases hs : lg.segs with
  | nil =>
    have e : (gDrop lg st k).2.1.segs = [] := by unfold gDrop; rw [hs]; rfl
    have hn := h.e hs
    have hf : gFirst (gDrop lg st k).2.1 = 1 := by
      unfold gFirst
      rw [e]
      exact hn
    exact ⟨.inl hn, by omega⟩
  | cons s r =>
    obtain ⟨s', r', e1, e2, e3⟩ := dropS_head lg.pre k lg.segs st lg.next ok.cn s r hs
    have hf : gFirst (gDrop lg st k).2.1 = s'.first := by
      unfold gFirst gDrop
      simp only
      rw [e1]
    have hs1 : s.first = 1 := by
      have := h.f
      unfold gFirst at this
      rw [hs] at this
      exact this
    rw [hf]
    refine ⟨.inr ?_, by omega⟩
    have h1 := ok.cn.le s' e2
    have h2 := List.length_pos_iff.2 (h.r s' e2)
    unfold Sg.next at h1
    omega
theorem gFrom_len {lg : Lg} {all : List (List UInt8)} (h : Pn lg all) (pos : Nat) : (gFrom lg pos).length ≤ lg.next := by
  unfold gFrom
  rw [ent_length, List.length_drop, h.a, h.n]
  omega
theorem lg0_pn (pre : ByteArray) (sz : Nat) : Pn (lg0 pre sz) [] := ⟨fun _ => rfl, fun s hs => (by cases hs), rfl, rfl, rfl⟩
theorem lg0_hv (pre : ByteArray) (sz : Nat) : Hv (lg0 pre sz).pre (lg0 pre sz).segs ([], -1, false) := ⟨rfl, List.Pairwise.nil, fun s hs => (by cases hs)⟩
end Go.Proofs.YteifkkceldlfnaaGreatDoor

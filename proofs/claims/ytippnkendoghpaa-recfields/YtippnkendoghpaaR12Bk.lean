/-
  What was written is read, whatever follows; what was read is what was written: numbers, texts, values, variables.
-/
import Derived.Test.YtippnkendoghpaaV9Tkv
import Derived.Test.YtippnkendoghpaaV9Dvb
namespace Go.Proofs.Ytippnkendoghpaa.r12
open Go.RowKit Go.Shelf Go.Sort
open Go.Lib hiding intOf

theorem ne13 : ¬ (1 : Int) = 3 := by decide
theorem ne23 : ¬ (2 : Int) = 3 := by decide
theorem rdU_back {v : Nat} (hv : v < 18446744073709551616) (more : List UInt8) : rdU (Lib.uvarint v ++ more) 0 = (v, more, 0) := by unfold rdU; rw [numb_back0 hv]; rfl
theorem rdT_back {s : List UInt8} {most : Int} (hs : s.length < 18446744073709551616) (hm : (s.length : Int) ≤ most) (more : List UInt8) : rdT most (txt s ++ more) 0 = (s, more, 0) := by unfold rdT; rw [tex_back hs hm]; rfl
/-- what was written is taken, whatever follows -/
theorem tkV_back {v : V9} (hm : mayV v = true) (hk : Vk v) (more : List UInt8) : tkV (bytV v ++ more) = some (v, more) := by
  have h3 := may_kind hm
  have hl := may_len hm
  obtain ⟨k, n, s⟩ := v
  obtain ⟨-, ⟨n1, n2⟩, -⟩ := hk
  simp only at h3 hl n1 n2
  unfold bytV
  rw [if_pos hm]
  rcases h3 with rfl | rfl | rfl
  · rw [if_neg ne13, show (1 : Int).toNat.toUInt8 = (1 : UInt8) from rfl, List.cons_append]
    have hs : s = [] := by unfold mayV at hm; rw [if_neg ne13] at hm; exact (of_decide_eq_true hm).1
    subst hs
    simp only [tkV]
    rw [if_neg (by decide), rdU_back (Lib.zigzag_lt n1 n2)]
    simp only [unzig n]
    rw [if_pos ⟨trivial, hm⟩]
    rfl
  · rw [if_neg ne23, show (2 : Int).toNat.toUInt8 = (2 : UInt8) from rfl, List.cons_append]
    have hs : s = [] := by unfold mayV at hm; rw [if_neg ne23] at hm; exact (of_decide_eq_true hm).1
    subst hs
    simp only [tkV]
    rw [if_neg (by decide), rdU_back (Lib.zigzag_lt n1 n2)]
    simp only [unzig n]
    rw [if_pos ⟨trivial, hm⟩]
    rfl
  · rw [if_pos rfl, show (3 : Int).toNat.toUInt8 = (3 : UInt8) from rfl, List.cons_append]
    have hn : n = 0 := by unfold mayV at hm; rw [if_pos rfl] at hm; exact (of_decide_eq_true hm).1
    subst hn
    simp only [tkV]
    rw [if_pos (by decide), rdT_back (by omega) (by omega)]
    rfl
theorem namV_len {s : List UInt8} (h : namV s = true) : s.length ≤ 32 := by
  unfold namV at h
  simp only [Bool.and_eq_true, decide_eq_true_eq] at h
  exact h.1.1.2.2
theorem tkN_back : ∀ (L acc : List Vr) (more : List UInt8), (∀ x ∈ L, okV x = true) → (∀ x ∈ L, Vk x.2) → tkN L.length acc ((L.map rowV).flatten ++ more) = some (acc ++ L)
  | [], acc, more, _, _ => by simp [tkN]
  | x :: t, acc, more, ho, hk => by
    have h1 := ho x (List.mem_cons_self ..)
    unfold okV at h1
    rw [Bool.and_eq_true] at h1
    have hn := namV_len h1.1
    rw [List.length_cons, List.map_cons, List.flatten_cons]
    rw [show rowV x = txt x.1.data.toList ++ bytV x.2 from rfl]
    unfold tkN
    rw [List.append_assoc, List.append_assoc, rdT_back (by omega) (by omega)]
    simp only
    rw [if_pos trivial, tkV_back h1.2 (hk x (List.mem_cons_self ..))]
    simp only
    rw [S_of, tkN_back t _ more (fun y hy => ho y (List.mem_cons_of_mem _ hy)) (fun y hy => hk y (List.mem_cons_of_mem _ hy))]
    simp
theorem tkL_back {L : List Vr} (hr : rgt L = true) (hk : ∀ x ∈ L, Vk x.2) (more : List UInt8) : tkL (vbs L ++ more) = some L := by
  obtain ⟨h16, -, ho⟩ := rgt_iff.1 hr
  unfold vbs tkL
  rw [if_pos hr, List.append_assoc, rdU_back (by omega)]
  simp only
  rw [if_pos ⟨trivial, h16⟩, tkN_back L [] more ho hk]
  simp only [List.nil_append]
  rw [if_pos hr]
theorem trip {α β : Type} (p : α × β × Nat) (h : p.2.2 = 0) : p = (p.1, p.2.1, 0) := by obtain ⟨a, b, c⟩ := p; simp only at h; subst h; rfl
theorem zig {v : Nat} : Lib.zigzag (Lib.unzigzag v) = v := by
  unfold Lib.unzigzag
  split
  · unfold Lib.zigzag; rw [if_pos (by omega)]; omega
  · unfold Lib.zigzag; rw [if_neg (by omega)]; omega
theorem rdB_one {l l2 : List UInt8} {e v : Nat} (h : rdB l e = (v, l2, 0)) : e = 0 ∧ v < 256 ∧ l = v.toUInt8 :: l2 := by
  unfold rdB at h
  split at h
  · rename_i he
    cases l with
    | nil => cases h
    | cons c t =>
      simp only [Prod.mk.injEq] at h
      obtain ⟨rfl, rfl, -⟩ := h
      exact ⟨he, c.toNat_lt, by simp⟩
  · rename_i he
    simp only [Prod.mk.injEq] at h
    exact absurd h.2.2 he
theorem rdU_one {l l2 : List UInt8} {e v : Nat} (h : rdU l e = (v, l2, 0)) : e = 0 ∧ l = Lib.uvarint v ++ l2 := by
  unfold rdU at h
  split at h
  · rename_i he
    split at h
    · rename_i h0
      simp only [Prod.mk.injEq] at h
      obtain ⟨rfl, rfl, -⟩ := h
      exact ⟨he, numb_one0 (trip _ h0)⟩
    · rename_i h0
      simp only [Prod.mk.injEq] at h
      exact absurd h.2.2 h0
  · rename_i he
    simp only [Prod.mk.injEq] at h
    exact absurd h.2.2 he
theorem tex_one {most : Int} {l : List UInt8} (h : (tex most l).2.2 = 0) : l = txt (tex most l).1 ++ (tex most l).2.1 ∧ ((tex most l).1.length : Int) ≤ most := by
  unfold tex at h ⊢
  by_cases h1 : (cnt most l).2.2 ≠ 0
  · rw [if_pos h1] at h; exact absurd h h1
  · rw [if_neg h1] at h ⊢
    by_cases h2 : (cnt most l).2.1.length < (cnt most l).1
    · rw [if_pos h2] at h; cases h
    · rw [if_neg h2]
      simp only
      unfold cnt at h1 h2 ⊢
      by_cases h3 : (numb 0 0 l).2.2 ≠ 0
      · rw [if_pos h3] at h1; exact absurd h3 (by simpa using h1)
      · rw [if_neg h3] at h1 h2 ⊢
        by_cases h4 : most < ((numb 0 0 l).1 : Int)
        · rw [if_pos h4] at h1; simp at h1
        · rw [if_neg h4] at h2 ⊢
          simp only at h2 ⊢
          have h5 := numb_one0 (l := l) (v := (numb 0 0 l).1) (rest := (numb 0 0 l).2.1) (trip _ (by simpa using h3))
          have hl : ((numb 0 0 l).2.1.take (numb 0 0 l).1).length = (numb 0 0 l).1 := by rw [List.length_take]; omega
          refine ⟨?_, by rw [hl]; omega⟩
          unfold txt
          rw [hl, List.append_assoc, List.take_append_drop]
          exact h5
theorem rdT_one {most : Int} {l s l2 : List UInt8} {e : Nat} (h : rdT most l e = (s, l2, 0)) : e = 0 ∧ l = txt s ++ l2 ∧ (s.length : Int) ≤ most := by
  unfold rdT at h
  split at h
  · rename_i he
    split at h
    · rename_i h0
      simp only [Prod.mk.injEq] at h
      obtain ⟨rfl, rfl, -⟩ := h
      exact ⟨he, tex_one h0⟩
    · rename_i h0
      simp only [Prod.mk.injEq] at h
      exact absurd h.2.2 h0
  · rename_i he
    simp only [Prod.mk.injEq] at h
    exact absurd h.2.2 he
theorem tkV_one {l t : List UInt8} {v : V9} (h : tkV l = some (v, t)) : mayV v = true ∧ l = bytV v ++ t := by
  cases l with
  | nil => cases h
  | cons c r =>
    have hc := c.toNat_lt
    by_cases h3 : c.toNat = 3
    · obtain ⟨s, l2, e2, hr⟩ : ∃ s l2 e2, rdT 1024 r 0 = (s, l2, e2) := ⟨_, _, _, rfl⟩
      rw [tk_text h3 hr] at h
      split at h
      · rename_i h0
        subst h0
        obtain ⟨-, h5, h6⟩ := rdT_one hr
        cases h
        have hm : mayV (3, 0, s) = true := by unfold mayV; rw [if_pos rfl]; exact decide_eq_true ⟨rfl, by simp only; omega⟩
        refine ⟨hm, ?_⟩
        unfold bytV
        rw [if_pos hm, if_pos rfl, h5, List.cons_append]
        congr 1
        apply UInt8.toNat_inj.1
        rw [h3]; rfl
      · cases h
    · obtain ⟨n, l2, e2, hr⟩ : ∃ n l2 e2, rdU r 0 = (n, l2, e2) := ⟨_, _, _, rfl⟩
      rw [tk_num h3 hr] at h
      split at h
      · rename_i h0
        obtain ⟨h0, hm⟩ := h0
        subst h0
        obtain ⟨-, h5⟩ := rdU_one hr
        cases h
        refine ⟨hm, ?_⟩
        unfold bytV
        rw [if_pos hm, if_neg (by simp only; omega), zig, h5, List.cons_append]
        congr 1
        simp
      · cases h
theorem tkN_sm : ∀ (n : Nat) (acc : List Vr) (l : List UInt8) (L : List Vr), tkN n acc l = some L → Sm9 acc → Sm9 L ∧ L.length = acc.length + n
  | 0, acc, l, L, h, hs => by cases h; exact ⟨hs, rfl⟩
  | n + 1, acc, l, L, h, hs => by
    unfold tkN at h
    obtain ⟨s, l2, e2, hr⟩ : ∃ s l2 e2, rdT 32 l 0 = (s, l2, e2) := ⟨_, _, _, rfl⟩
    rw [hr] at h
    simp only at h
    split at h
    · rename_i h0
      have hb := (rdT9_le hr).2 h0
      cases hv : tkV l2 with
      | none => rw [hv] at h; cases h
      | some p =>
        rw [hv] at h
        simp only at h
        have hk := tkV_vk (v := p.1) (t := p.2) hv
        have := tkN_sm n _ _ L h (fun x hx => by
          rcases List.mem_append.1 hx with hx | hx
          · exact hs x hx
          · rw [List.mem_singleton] at hx; subst hx; exact ⟨by simp only; rw [S_size]; omega, hk.1⟩)
        refine ⟨this.1, ?_⟩
        rw [this.2]; simp; omega
    · cases h
theorem tlR_sm (l : List UInt8) : Sm9 (tlR l).1 ∧ (tlR l).1.length ≤ 16 := by
  unfold tlR
  cases h : tkL l with
  | none => exact ⟨(fun x hx => by cases hx), by simp⟩
  | some L =>
    simp only
    unfold tkL at h
    split at h
    · rename_i h1
      cases h2 : tkN (rdU l 0).1 [] (rdU l 0).2.1 with
      | none => rw [h2] at h; cases h
      | some r =>
        rw [h2] at h
        simp only at h
        have h3 := tkN_sm _ _ _ _ h2 (fun x hx => by cases hx)
        split at h
        · cases h
          exact ⟨h3.1, by rw [h3.2]; simp; omega⟩
        · cases h
    · cases h
theorem tlR_back {L : List Vr} (hr : rgt L = true) (hk : Sm9 L) (more : List UInt8) : tlR (vbs L ++ more) = (L, true) := by
  unfold tlR
  rw [tkL_back hr (fun x hx => (hk x hx).2)]
end Go.Proofs.Ytippnkendoghpaa.r12

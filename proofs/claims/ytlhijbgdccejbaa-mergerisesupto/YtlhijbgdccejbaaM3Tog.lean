/-
  What ranges come to (merge's together).
-/
import Derived.Test.YtlhijbgdccejbaaM3Rsg
namespace Go.Proofs.Ytlhijbgdccejbaa
open Go.RowKit Go.Shelf Go.Sort
open Go.Lib hiding intOf

/-- v is a slice of ranges over these lists; what they are lies in the blocks of X -/
def Rgs (w : World) (v : Value) (ls : List (List Ent)) (X : Nat → Prop) : Prop :=
  (∀ k, X k → k < w.heap.size) ∧ ((v = .slice none 0 0 ∧ ls = []) ∨ ∃ b off cap, v = .slice (some ⟨b, off, none⟩) ls.length cap ∧ ls.length ≤ cap ∧ X b ∧ ∀ (j : Nat) (h : j < ls.length), ∃ u, w.cell? ⟨b, off + j, none⟩ = some u ∧ Sn w u ls[j] X)
theorem Rgs.kq {w w' : World} {v : Value} {ls : List (List Ent)} {X : Nat → Prop} (h : Rgs w v ls X) (hk : Kq X w w') : Rgs w' v ls X := by
  refine ⟨fun k hx => Nat.lt_of_lt_of_le (h.1 k hx) hk.1, h.2.imp id ?_⟩
  rintro ⟨b, off, cap, e, hc, hb, hj⟩
  refine ⟨b, off, cap, e, hc, hb, fun j h' => ?_⟩
  obtain ⟨u, h1, h2⟩ := hj j h'
  exact ⟨u, kq_cell hk (p := ⟨b, off + j, none⟩) hb h1, h2.kq hk⟩
theorem Rgs.below {w w' : World} {v : Value} {ls : List (List Ent)} {X : Nat → Prop} (h : Rgs w v ls X) (hb : Below w.heap.size w w') : Rgs w' v ls X := h.kq (Kq.of_below hb)
theorem Rgs.cut {w : World} {b off cap : Nat} {ls : List (List Ent)} {X : Nat → Prop} (h : Rgs w (.slice (some ⟨b, off, none⟩) ls.length cap) ls X) (i : Nat) (hi : i < ls.length) :
    Rgs w (.slice (some ⟨b, off, none⟩) i cap) (ls.take i) X ∧ Rgs w (.slice (some ⟨b, off + i, none⟩) (ls.length - i) (cap - i)) (ls.drop i) X ∧ ls.length ≤ cap := by
  rcases h.2 with ⟨e, _⟩ | ⟨b', off', cap', e, hc, hb, hj⟩
  · cases e
  · cases e
    refine ⟨⟨h.1, .inr ⟨b, off, cap, by simp; omega, by simp; omega, hb, fun j h' => ?_⟩⟩, ⟨h.1, .inr ⟨b, off + i, cap - i, by simp, by simp; omega, hb, fun j h' => ?_⟩⟩, hc⟩
    · obtain ⟨u, h1, h2⟩ := hj j (by simp at h'; omega)
      exact ⟨u, h1, by simpa using h2⟩
    · obtain ⟨u, h1, h2⟩ := hj (i + j) (by simp at h'; omega)
      exact ⟨u, by rw [Nat.add_assoc]; exact h1, by simpa using h2⟩
def sumLen (ls : List (List Ent)) : Nat := (ls.map (·.length)).sum
theorem sumLen_cut (ls : List (List Ent)) (i : Nat) : sumLen (ls.take i) + sumLen (ls.drop i) = sumLen ls := by
  unfold sumLen
  rw [← List.sum_append, ← List.map_append, List.take_append_drop]

set_option maxRecDepth 100000 in
set_option maxHeartbeats 4000000 in
theorem together_any : ∀ (n : Nat) {w : World} {v : Value} {ls : List (List Ent)} {X : Nat → Prop}, ls.length = n → Rgs w v ls X → sumLen ls * 24 ≤ 140737488355328 → ls.length ≤ 4611686018427387904 →
    Calls Try.prog 22 #[v] w fun e w' => ∃ v', e = .returned v' ∧ w'.ownsRow w.heap.size 54 2 v' (merged ls).length (flat (merged ls)) ∧ Below w.heap.size w w' := by
  intro n
  induction n using Nat.strongRecOn with
  | ind n ih =>
  intro w v ls X hl h hn hbig
  rcases id h.2 with ⟨rfl, rfl⟩ | ⟨b, off, cap, rfl, hc, hb, hj⟩
  · clear h ih
    go_enter Try.func22, Try.ntmps22
    go_wp2
    go_ret
    exact ⟨_, rfl, World.ownsRow_nil _ _ _ _, Below.refl _ _⟩
  · by_cases h0 : ls.length = 0
    · have hl0 : ls = [] := List.eq_nil_of_length_eq_zero h0
      subst hl0
      clear h ih hj
      simp only [List.length_nil]
      go_enter Try.func22, Try.ntmps22
      go_wp2
      go_ret
      exact ⟨_, rfl, World.ownsRow_nil _ _ _ _, Below.refl _ _⟩
    · by_cases h1 : ls.length = 1
      · obtain ⟨l, rfl⟩ := List.length_eq_one_iff.1 h1
        obtain ⟨u, hu, hS⟩ := hj 0 (by simp)
        simp only [Nat.add_zero, List.getElem_cons_zero] at hu hS
        have hnl : l.length * 24 ≤ 140737488355328 := by simpa [sumLen] using hn
        rw [merged_one]
        have HS : Hid _ := hS
        clear h ih hj h0 h1 hl
        simp only [List.length_singleton]
        rcases hS.form with rfl | ⟨sf, sb, rfl⟩
        all_goals
          clear hS
          go_enter Try.func22, Try.ntmps22
          go_wp2_with (first
            | (go_at_call 31; refine (mrising_any HS.out hnl).mono ?_; rintro e w1 ⟨v1, rfl, ho, hB⟩; obtain ⟨a1, c1, rfl, -⟩ := row_slice ho; have HO : Hid _ := And.intro ho hB; clear ho hB))
          go_ret
          exact ⟨_, rfl, HO.out.1, HO.out.2⟩
      · subst hl
        have hh1 : 1 ≤ ls.length / 2 := by omega
        have hh2 : (ls.length / 2) < ls.length := by omega
        obtain ⟨hc1, hc2, hcap⟩ := h.cut (ls.length / 2) hh2
        have hsum := sumLen_cut ls (ls.length / 2)
        have m1 := merged_len (ls.take (ls.length / 2))
        have m2 := merged_len (ls.drop (ls.length / 2))
        have hmm : merged ls = putAll (merged (ls.drop (ls.length / 2))) (merged (ls.take (ls.length / 2))) := by rw [← merged_append, List.take_append_drop]
        have IH1 := ih (ls.length / 2) (by omega) (w := w.drew) (v := .slice (some ⟨b, off, none⟩) (ls.length / 2) cap) (ls := ls.take (ls.length / 2)) (X := X) (by simp; omega) (hc1.kq (Kq.refl _ _)) (by omega) (by simp; omega)
        have IH2 : Hid (∀ w1, Below w.heap.size w w1 → _) := fun w1 (hB : Below w.heap.size w w1) => ih (ls.length - (ls.length / 2)) (by omega) (w := w1) (v := .slice (some ⟨b, off + ls.length / 2, none⟩) (ls.length - (ls.length / 2)) (cap - (ls.length / 2))) (ls := ls.drop (ls.length / 2)) (X := X) (by simp) (hc2.below hB) (by omega) (by simp; omega)
        have HM : Hid (merged ls = putAll (merged (ls.drop (ls.length / 2))) (merged (ls.take (ls.length / 2))) ∧ (merged (ls.take (ls.length / 2))).length + (merged (ls.drop (ls.length / 2))).length ≤ sumLen ls) := ⟨hmm, by unfold sumLen at hsum ⊢; omega⟩
        have hq : ((ls.length : Int)).tdiv 2 = ((ls.length / 2 : Nat) : Int) := by rw [Int.tdiv_eq_ediv_of_nonneg (by omega)]; omega
        have hne0 : ((ls.length : Int) == 0) = false := by rw [beq_eq_false_iff_ne]; omega
        have hne1 : ((ls.length : Int) == 1) = false := by rw [beq_eq_false_iff_ne]; omega
        have hle1 : (ls.length : Int) / 2 ≤ (cap : Int) := by omega
        have hle0 : 0 ≤ (ls.length : Int) / 2 := by omega
        have htn : ((ls.length : Int) / 2).toNat = ls.length / 2 := by omega
        have hle2 : (ls.length : Int) / 2 ≤ (ls.length : Int) := by omega
        have hcne : ¬ cap = (ls.length / 2) := by omega
        clear hc1 hc2 ih hj h hmm m1 m2 hsum
        go_enter Try.func22, Try.ntmps22
        go_wp2_with fail
        go_region_with (first
          | (go_at_call 22; refine Calls.mono IH1 ?_; rintro e w1 ⟨v1, rfl, ho1, hB1⟩; obtain ⟨a1, c1, rfl, -⟩ := row_slice ho1; have H1 : Hid _ := And.intro ho1 hB1; clear ho1 hB1 IH1)
          | (go_at_call 22; refine Calls.mono (IH2.out w1 ⟨H1.out.2.os, H1.out.2.tape, H1.out.2.output, H1.out.2.size, H1.out.2.block⟩) ?_; rintro e w2 ⟨v2, rfl, ho2, hB2⟩; obtain ⟨a2, c2, rfl, -⟩ := row_slice ho2; have H2 : Hid _ := And.intro ho2 hB2; clear ho2 hB2)
          | (go_at_call 32; refine (join_any ((rc_of_row H1.out.1).below H2.out.2) (rc_of_row H2.out.1) (merged_rise _) (merged_rise _) (by have := HM.out.2; omega)).mono ?_; rintro e w3 ⟨v3, rfl, ho3, hB3⟩; obtain ⟨a3, c3, rfl, -⟩ := row_slice ho3; have H3 : Hid _ := And.intro ho3 hB3; clear ho3 hB3))
        all_goals
          go_wp2
          go_ret
          have hB1 : Below w.heap.size w w1 := ⟨H1.out.2.os, H1.out.2.tape, H1.out.2.output, H1.out.2.size, H1.out.2.block⟩
          have hB2 := hB1.trans (H2.out.2.mono hB1.size)
          refine ⟨_, rfl, ?_, hB2.trans (H3.out.2.mono hB2.size)⟩
          rw [HM.out.1]
          exact row_low H3.out.1 hB2.size
end Go.Proofs.Ytlhijbgdccejbaa

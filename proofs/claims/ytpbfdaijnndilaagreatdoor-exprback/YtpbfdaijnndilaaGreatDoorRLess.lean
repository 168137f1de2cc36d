/-
  The document's Less, where a seat has of wherryref02 nothing else: it only reads.
-/
import Derived.Test.YtpbfdaijnndilaaGreatDoorROrd
namespace Go.Proofs.YtpbfdaijnndilaaGreatDoor
open Go.RowKit Go.Shelf Go.Sort
open Go.Lib hiding intOf

theorem less_from (a b : List UInt8) (i : Nat) (ha : i < a.length) (hb : i < b.length) (hp : a.take i = b.take i) : (a < b ↔ (a[i] < b[i] ∨ (a[i] = b[i] ∧ a.drop (i + 1) < b.drop (i + 1)))) := by
  have e1 : a = a.take i ++ (a[i] :: a.drop (i + 1)) := by rw [List.getElem_cons_drop]; exact (List.take_append_drop i a).symm
  have e2 : b = a.take i ++ (b[i] :: b.drop (i + 1)) := by rw [hp, List.getElem_cons_drop]; exact (List.take_append_drop i b).symm
  have key : ∀ (p x y : List UInt8), p ++ x < p ++ y ↔ x < y := by
    intro p x y
    induction p with
    | nil => rfl
    | cons c p ih => simp only [List.cons_append, List.cons_lt_cons_iff, ih]; simp
  have h1 : (a < b) ↔ (a.take i ++ (a[i] :: a.drop (i + 1)) < a.take i ++ (b[i] :: b.drop (i + 1))) := by rw [← e1, ← e2]
  rw [h1, key, List.cons_lt_cons_iff]

theorem get_list (a : ByteArray) (i : Nat) (h : i < a.size) : a.data.toList[i]'(by simpa using h) = a[i] := rfl

theorem below_drewN {B : Nat} {w wr : World} (h : Below B w wr) (n : Nat) : Below B w (wr.drewN n) := ⟨h.os, h.tape, h.output, h.size, h.block⟩

theorem less_done (a b : ByteArray) (i : Nat) (h1 : i ≤ a.size) (h2 : i ≤ b.size) (h3 : a.data.toList.take i = b.data.toList.take i) (he : i = a.size ∨ i = b.size) : lt a b = decide (a.size < b.size) := by
  have la : a.data.toList.length = a.size := by simp
  have lb : b.data.toList.length = b.size := by simp
  rw [Bool.eq_iff_iff, lt_iff, decide_eq_true_iff]
  by_cases ha : i = a.size
  · rw [List.take_of_length_le (by omega)] at h3
    rw [h3]
    by_cases hb : i = b.size
    · rw [List.take_of_length_le (by omega)]
      constructor
      · intro h; exact absurd h (List.lt_irrefl _)
      · intro h; omega
    · constructor
      · intro _; omega
      · intro _
        have hd : b.data.toList.drop i ≠ [] := by
          intro h
          have := congrArg List.length h
          rw [List.length_drop, lb] at this
          simp at this
          omega
        have : ∀ (p r : List UInt8), r ≠ [] → p < p ++ r := by
          intro p r hr
          induction p with
          | nil => cases r with
            | nil => exact absurd rfl hr
            | cons c r => simp
          | cons c p ih => rw [List.cons_append, List.cons_lt_cons_iff]; exact .inr ⟨rfl, ih⟩
        have h5 := this (b.data.toList.take i) _ hd
        rw [List.take_append_drop] at h5
        exact h5
  · have hb : i = b.size := he.resolve_left ha
    rw [List.take_of_length_le (l := b.data.toList) (by omega)] at h3
    constructor
    · intro h
      rw [← h3] at h
      exact absurd h (List.not_lt.2 (List.IsPrefix.le (List.take_prefix i _)))
    · intro h; omega

set_option maxHeartbeats 1000000 in
theorem Less_quiet (a b : ByteArray) (ha : a.size < 4611686018427387904) (_hb : b.size < 4611686018427387904) (w : World) : Calls Tryz.prog 40 #[.string a, .string b] w fun e w' => e = .returned (.bool (lt a b)) ∧ ∃ m, w' = w.drewN m := by
  go_enter Tryz.func40, Tryz.ntmps40
  go_wp2
  go_loopw [5] (fun vi wr => ∃ i : Nat, vi = .int .i64 i ∧ i ≤ a.size ∧ i ≤ b.size ∧ a.data.toList.take i = b.data.toList.take i ∧ ∃ n, wr = w.drewN n) (fun vi _ => a.size - (intOf vi).toNat)
  case atStart => exact ⟨0, rfl, Nat.zero_le _, Nat.zero_le _, by simp, 0, (World.drewN_zero w).symm⟩
  case round =>
    obtain ⟨i, rfl, h1, h2, h3, n0, rfl⟩ := hrel
    have H3 : Hid (a.data.toList.take i = b.data.toList.take i) := h3
    clear h3
    have la : a.data.toList.length = a.size := by simp
    have lb : b.data.toList.length = b.size := by simp
    by_cases hia : i < a.size
    · have hii : (i : Int) < (a.size : Int) := by omega
      by_cases hib : i < b.size
      · have hij : (i : Int) < (b.size : Int) := by omega
        have hlf := less_from a.data.toList b.data.toList i (by simpa using hia) (by simpa using hib) H3.out
        rw [get_list a i hia, get_list b i hib] at hlf
        by_cases hab : a[i] = b[i]
        · have hne : ((a[i].toNat : Int) != (b[i].toNat : Int)) = false := by simp [hab]
          have R : Hid (a.data.toList.take (i + 1) = b.data.toList.take (i + 1)) := by
            show a.data.toList.take (i + 1) = b.data.toList.take (i + 1)
            rw [List.take_succ_eq_append_getElem (by simpa using hia), List.take_succ_eq_append_getElem (by simpa using hib), H3.out, get_list a i hia, get_list b i hib, hab]
          clear hlf hab la lb
          go_wp2_with fail
          go_quiet (fail)
          all_goals go_wp2_with fail
          go_roundw
          case rel => exact ⟨i + 1, by simp, by omega, by omega, R.out, by first | exact ⟨_, rfl⟩ | exact ⟨_, World.drewN_drewN _ _ _⟩ | exact ⟨_, by rw [World.drewN_drewN, World.drewN_drewN]⟩⟩
          case measure => simp [intOf]; omega
        · have hne : ((a[i].toNat : Int) != (b[i].toNat : Int)) = true := by
            simp only [bne_iff_ne, ne_eq]
            intro h
            exact hab (UInt8.toNat_inj.1 (by omega))
          have R : Hid (decide (a[i].toNat < b[i].toNat) = lt a b) := by
            show decide (a[i].toNat < b[i].toNat) = lt a b
            rw [Bool.eq_iff_iff, lt_iff, hlf, decide_eq_true_iff]
            constructor
            · intro h; exact .inl (UInt8.lt_iff_toNat_lt.2 h)
            · rintro (h | ⟨h, _⟩)
              · exact UInt8.lt_iff_toNat_lt.1 h
              · exact absurd h hab
          clear hlf hab la lb
          go_wp2_with fail
          go_quiet (fail)
          all_goals go_wp2_with fail
          go_quiet (fail)
          all_goals go_wp2_with fail
          all_goals go_ret
          all_goals exact ⟨by rw [← R.out]; rfl, by first | exact ⟨_, rfl⟩ | exact ⟨_, World.drewN_drewN _ _ _⟩ | exact ⟨_, by rw [World.drewN_drewN, World.drewN_drewN]⟩⟩
      · have R := less_done a b i h1 h2 H3.out (.inr (by omega))
        have R' : Hid (lt a b = decide (a.size < b.size)) := R
        clear R la lb
        have hij : ¬ (i : Int) < (b.size : Int) := by omega
        go_wp2
        all_goals go_ret
        all_goals exact ⟨by rw [R'.out]; rfl, n0, rfl⟩
    · have R := less_done a b i h1 h2 H3.out (.inl (by omega))
      have R' : Hid (lt a b = decide (a.size < b.size)) := R
      clear R la lb
      have hii : ¬ (i : Int) < (a.size : Int) := by omega
      go_wp2
      all_goals go_ret
      all_goals exact ⟨by rw [R'.out]; rfl, n0, rfl⟩

theorem Less_any (a b : ByteArray) (ha : a.size < 4611686018427387904) (hb : b.size < 4611686018427387904) (w : World) : Calls Tryz.prog 40 #[.string a, .string b] w fun e w' => e = .returned (.bool (lt a b)) ∧ Below w.heap.size w w' := by
  refine (Less_quiet a b ha hb w).mono ?_
  rintro e w' ⟨h, m, rfl⟩
  exact ⟨h, below_drewN (Below.refl _ w) m⟩
end Go.Proofs.YtpbfdaijnndilaaGreatDoor

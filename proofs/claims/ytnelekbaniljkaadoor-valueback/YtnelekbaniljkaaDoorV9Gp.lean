/-
  What was put is got, all others stay, and the list stays right: plain.
-/
import Derived.Test.YtnelekbaniljkaaDoorV9Put
import Derived.Test.YtnelekbaniljkaaDoorV9Get
namespace Go.Proofs.YtnelekbaniljkaaDoor
open Go.RowKit Go.Shelf Go.Sort
open Go.Lib hiding intOf

theorem get_mem : ∀ {l : List Vr}, Rise l → ∀ {x : Vr}, x ∈ l → getV l x.1 = (x.2, true)
  | [], _, _, h => by cases h
  | y :: t, hr, x, h => by
    unfold getV
    rcases List.mem_cons.1 h with rfl | h
    · rw [if_pos rfl]
    · have h1 : lt y.1 x.1 = true := (List.pairwise_cons.1 hr).1 x h
      rw [if_neg (fun e => by rw [e, lt_irrefl] at h1; cases h1)]
      exact get_mem hr.tail h
theorem put_mem (l : List Vr) (k : ByteArray) (x : V9) : (k, x) ∈ put l k x := by
  rw [put_parts]
  exact List.mem_append_right _ (List.mem_append_left _ (List.mem_singleton_self _))
theorem put_old {l : List Vr} {k : ByteArray} (x : V9) {y : Vr} (hy : y ∈ l) (hk : y.1 ≠ k) : y ∈ put l k x := by
  rw [put_parts]
  obtain ⟨i, hi, rfl⟩ := List.getElem_of_mem hy
  rcases Nat.lt_or_ge i (pos l k) with h | h
  · exact List.mem_append_left _ (List.mem_take_iff_getElem.2 ⟨i, by omega, rfl⟩)
  · refine List.mem_append_right _ (List.mem_append_right _ ?_)
    cases hh : has l k with
    | false =>
      refine List.mem_drop_iff_getElem.2 ⟨i - pos l k, by simp; omega, ?_⟩
      simp [Nat.add_sub_cancel' h]
    | true =>
      have hne : i ≠ pos l k := fun e => by
        subst e
        simp only [has, List.getElem?_eq_getElem hi] at hh
        simp at hh
        have hq := str_ne hk
        rw [hh] at hq
        simp at hq
      refine List.mem_drop_iff_getElem.2 ⟨i - (pos l k + 1), by simp; omega, ?_⟩
      congr 1
      simp only [if_true]; omega
theorem put_sub {l : List Vr} {k : ByteArray} {x : V9} {y : Vr} (h : y ∈ put l k x) : y = (k, x) ∨ y ∈ l := by
  rw [put_parts] at h
  rcases List.mem_append.1 h with h | h
  · exact .inr (List.mem_of_mem_take h)
  · rcases List.mem_append.1 h with h | h
    · exact .inl (List.mem_singleton.1 h)
    · exact .inr (List.mem_of_mem_drop h)
/-- a Put that answers no error: the value is got, the others stay, the list is right -/
theorem putV_ok {l : List Vr} {k : ByteArray} {x : V9} (h : (putV l k x).2 = 0) : (putV l k x).1 = put l k x ∧ rgt (put l k x) = true ∧ getV (put l k x) k = (x, true) ∧ ∀ y ∈ l, y.1 ≠ k → getV (put l k x) y.1 = (y.2, true) := by
  unfold putV at h ⊢
  split at h
  · rename_i h1
    rw [if_pos h1]
    simp only [Bool.and_eq_true] at h1
    obtain ⟨⟨hr, hn⟩, hm⟩ := h1
    obtain ⟨h16, hrise, hok⟩ := rgt_iff.1 hr
    split at h
    · cases h
    · rename_i h2
      rw [if_neg h2]
      have hr2 := put_rise hrise k x
      refine ⟨rfl, rgt_iff.2 ⟨?_, hr2, fun y hy => ?_⟩, get_mem hr2 (put_mem l k x), fun y hy hk => get_mem hr2 (put_old x hy hk)⟩
      · rw [put_len]
        cases hh : has l k with
        | true => simpa using h16
        | false =>
          have : l.length ≠ 16 := fun e => h2 ⟨hh, e⟩
          simp; omega
      · rcases put_sub hy with rfl | hy
        · unfold okV; simp [hn, hm]
        · exact hok y hy
  · cases h
theorem putV_no {l : List Vr} {k : ByteArray} {x : V9} (h : (putV l k x).2 ≠ 0) : (putV l k x).1 = [] := by
  unfold putV at h ⊢
  split
  · rename_i h1
    rw [if_pos h1] at h
    split
    · rfl
    · rename_i h2; rw [if_neg h2] at h; exact absurd rfl h
  · rfl
end Go.Proofs.YtnelekbaniljkaaDoor

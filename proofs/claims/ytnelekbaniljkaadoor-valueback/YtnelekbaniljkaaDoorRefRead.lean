/-
  Contracts of the document's answer for what is read (wherryref01.Number, Reader's Uint, Int, Byte, Text, List, End), by the same functions on lists of bytes as those of package wire's reader; but for the reader's own block nothing that was there before the call is changed.
-/
import Derived.Test.YtnelekbaniljkaaDoorPlain
import Derived.Test.YtnelekbaniljkaaDoorListOwn
namespace Go.Proofs.YtnelekbaniljkaaDoor
open Go.RowKit

theorem S_get {l t : List UInt8} {c : UInt8} {k : Nat} (h : l.drop k = c :: t) (hk : k < (S l).size) : (S l)[k]'hk = c := by
  have hk2 : k < l.length := by rw [S_size] at hk; exact hk
  have h1 : l[k] = c := by
    have := List.getElem_drop (xs := l) (i := k) (j := 0) (h := by rw [h]; simp)
    simp [h] at this
    exact this.symm
  rw [← h1]
  rfl

theorem drop_step {l t : List UInt8} {c : UInt8} {k : Nat} (h : l.drop k = c :: t) : k < l.length ∧ l.drop (k + 1) = t ∧ t.length + (k + 1) = l.length := by
  have h1 : k < l.length := by
    rcases Nat.lt_or_ge k l.length with h2 | h2
    · exact h2
    · rw [List.drop_eq_nil_of_le h2] at h; cases h
  have h3 : l.drop (k + 1) = t := by
    rw [List.drop_eq_getElem_cons h1] at h
    exact (List.cons.inj h).2
  refine ⟨h1, h3, ?_⟩
  rw [← h3, List.length_drop]
  omega

/-- A NUMBER, of a reader with l left and error e: the number, what is left then, its error then -/
def rdU (l : List UInt8) (e : Nat) : Nat × List UInt8 × Nat :=
  if e = 0 then (if (numb 0 0 l).2.2 = 0 then ((numb 0 0 l).1, (numb 0 0 l).2.1, 0) else (0, l, (numb 0 0 l).2.2)) else (0, l, e)

theorem Uint_all {b e v e2 : Nat} {l l2 : List UInt8} {w : World} (h : Rd w b l e) (hres : Hid (rdU l e = (v, l2, e2))) :
    Calls Tryd.prog 46 #[.pointer (some ⟨b, 0, none⟩)] w fun r w' => r = .returned (.int .u64 (v : Int)) ∧ Rd w' b l2 e2 ∧ But b w w' := by
  have hr := hres.out
  obtain ⟨v1, r1, f1, hn⟩ : ∃ v1 r1 f1, numb 0 0 l = (v1, r1, f1) := ⟨_, _, _, rfl⟩
  unfold rdU at hr
  rw [hn] at hr
  by_cases he : e = 0
  · subst he
    rw [if_pos rfl] at hr
    by_cases hf : f1 = 0
    · subst hf
      rw [if_pos rfl] at hr
      simp only [Prod.mk.injEq] at hr
      obtain ⟨rfl, rfl, rfl⟩ := hr
      exact Uint_ok h hn
    · rw [if_neg hf] at hr
      simp only [Prod.mk.injEq] at hr
      obtain ⟨rfl, rfl, rfl⟩ := hr
      exact Uint_bad h hn hf
  · rw [if_neg he] at hr
    simp only [Prod.mk.injEq] at hr
    obtain ⟨rfl, rfl, rfl⟩ := hr
    refine (Uint_wrong h he).mono ?_
    rintro r w' ⟨rfl, rfl⟩
    exact ⟨rfl, h, But.refl _ _⟩

theorem drop_rest {l rest : List UInt8} {v : Nat} (h : numb 0 0 l = (v, rest, 0)) : (S l).extract (l.length - rest.length) l.length = S rest ∧ rest.length ≤ l.length := by
  have h1 := numb_one0 h
  have h2 : l.length = (Lib.uvarint v).length + rest.length := by rw [h1, List.length_append]
  refine ⟨?_, by omega⟩
  rw [S_drop, show l.length - rest.length = (Lib.uvarint v).length from by omega]
  conv => lhs; rw [h1]
  rw [List.drop_left]

theorem rdU_lt {l l2 : List UInt8} {e v e2 : Nat} (h : Hid (rdU l e = (v, l2, e2))) : v < 18446744073709551616 := by
  have hr := h.out
  unfold rdU at hr
  have hn := numb_lt l 0 0 (by omega) (by simp)
  split at hr
  · split at hr
    · simp only [Prod.mk.injEq] at hr; omega
    · simp only [Prod.mk.injEq] at hr; omega
  · simp only [Prod.mk.injEq] at hr; omega

end Go.Proofs.YtnelekbaniljkaaDoor

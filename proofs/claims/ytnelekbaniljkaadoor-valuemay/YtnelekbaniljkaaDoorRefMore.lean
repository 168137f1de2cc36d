/-
  Contracts of the two readers' calls Int, Byte, End and Text, wire's and the document's: the same answers, by functions on lists of bytes; but for the reader's own block nothing that was there before the call is changed.
-/
import Derived.Test.YtnelekbaniljkaaDoorRefRead
namespace Go.Proofs.YtnelekbaniljkaaDoor
open Go.RowKit

theorem unzig0 : Lib.unzigzag 0 = 0 := rfl

theorem Int_all {b e v e2 : Nat} {l l2 : List UInt8} {w : World} (h : Rd w b l e) (hres : Hid (rdU l e = (v, l2, e2))) :
    Calls Tryd.prog 43 #[.pointer (some ⟨b, 0, none⟩)] w fun r w' => r = .returned (.int .i64 (Lib.unzigzag v)) ∧ Rd w' b l2 e2 ∧ But b w w' := by
  have hr := hres.out
  obtain ⟨v1, r1, f1, hn⟩ : ∃ v1 r1 f1, numb 0 0 l = (v1, r1, f1) := ⟨_, _, _, rfl⟩
  unfold rdU at hr
  rw [hn] at hr
  by_cases he : e = 0
  · subst he
    rw [if_pos rfl] at hr
    by_cases hf : f1 = 0
    · subst hf
      rw [if_pos rfl] at hr
      simp only [Prod.mk.injEq] at hr
      obtain ⟨rfl, rfl, rfl⟩ := hr
      exact Int1_ok h hn
    · rw [if_neg hf] at hr
      simp only [Prod.mk.injEq] at hr
      obtain ⟨rfl, rfl, rfl⟩ := hr
      rw [unzig0]
      exact Int1_bad h hn hf
  · rw [if_neg he] at hr
    simp only [Prod.mk.injEq] at hr
    obtain ⟨rfl, rfl, rfl⟩ := hr
    rw [unzig0]
    refine (Int1_wrong h he).mono ?_
    rintro r w' ⟨rfl, rfl⟩
    exact ⟨rfl, h, But.refl _ _⟩

/-- A BYTE -/
def rdB (l : List UInt8) (e : Nat) : Nat × List UInt8 × Nat :=
  if e = 0 then (match l with
    | [] => (0, [], 2)
    | c :: t => (c.toNat, t, 0)) else (0, l, e)

theorem Byte_all {b e v e2 : Nat} {l l2 : List UInt8} {w : World} (h : Rd w b l e) (hres : Hid (rdB l e = (v, l2, e2))) :
    Calls Tryd.prog 42 #[.pointer (some ⟨b, 0, none⟩)] w fun r w' => r = .returned (.int .u8 (v : Int)) ∧ Rd w' b l2 e2 ∧ But b w w' := by
  have hr := hres.out
  unfold rdB at hr
  by_cases he : e = 0
  · subst he
    rw [if_pos rfl] at hr
    cases l with
    | nil =>
      simp only [Prod.mk.injEq] at hr
      obtain ⟨rfl, rfl, rfl⟩ := hr
      exact Byte1_bad h
    | cons c t =>
      simp only [Prod.mk.injEq] at hr
      obtain ⟨rfl, rfl, rfl⟩ := hr
      exact Byte1_ok h
  · rw [if_neg he] at hr
    simp only [Prod.mk.injEq] at hr
    obtain ⟨rfl, rfl, rfl⟩ := hr
    refine (Byte1_wrong h he).mono ?_
    rintro r w' ⟨rfl, rfl⟩
    exact ⟨rfl, h, But.refl _ _⟩

/-- A TEXT -/
def rdT (most : Int) (l : List UInt8) (e : Nat) : List UInt8 × List UInt8 × Nat :=
  if e = 0 then (if (tex most l).2.2 = 0 then ((tex most l).1, (tex most l).2.1, 0) else ([], l, (tex most l).2.2)) else ([], l, e)

theorem Text_allW {b e e2 : Nat} {most : Int} {s l l2 : List UInt8} {w : World} (h : Rd w b l e) (hl : l.length ≤ 281474976710656) (hm : most ≤ 9223372036854775807) (hres : Hid (rdT most l e = (s, l2, e2))) :
    Calls Tryd.prog 44 #[.pointer (some ⟨b, 0, none⟩), .int .i64 most] w fun r w' => r = .returned (.string (S s)) ∧ Rd w' b l2 e2 ∧ But b w w' := by
  have hr := hres.out
  obtain ⟨v1, r1, f1, hn⟩ : ∃ v1 r1 f1, tex most l = (v1, r1, f1) := ⟨_, _, _, rfl⟩
  unfold rdT at hr
  rw [hn] at hr
  by_cases he : e = 0
  · subst he
    rw [if_pos rfl] at hr
    by_cases hf : f1 = 0
    · subst hf
      rw [if_pos rfl] at hr
      simp only [Prod.mk.injEq] at hr
      obtain ⟨rfl, rfl, rfl⟩ := hr
      exact Text_ok h (by omega) hm hn
    · rw [if_neg hf] at hr
      simp only [Prod.mk.injEq] at hr
      obtain ⟨rfl, rfl, rfl⟩ := hr
      exact Text_bad h (by omega) hm hn hf
  · rw [if_neg he] at hr
    simp only [Prod.mk.injEq] at hr
    obtain ⟨rfl, rfl, rfl⟩ := hr
    exact Text_wrong h he most

theorem Text_all {b e e2 : Nat} {most : Int} {s l l2 : List UInt8} {w : World} (h : Rd w b l e) (hl : l.length ≤ 140737488355328) (hm : most ≤ 9223372036854775807) (hres : Hid (rdT most l e = (s, l2, e2))) :
    Calls Tryd.prog 44 #[.pointer (some ⟨b, 0, none⟩), .int .i64 most] w fun r w' => r = .returned (.string (S s)) ∧ Rd w' b l2 e2 ∧ But b w w' :=
  Text_allW h (by omega) hm hres

/-- what rdU says where rdT goes on from it -/
theorem rdU_of {l rest : List UInt8} {v f : Nat} (h : numb 0 0 l = (v, rest, f)) : rdU l 0 = if f = 0 then (v, rest, 0) else (0, l, f) := by
  unfold rdU
  rw [h, if_pos rfl]

end Go.Proofs.YtnelekbaniljkaaDoor

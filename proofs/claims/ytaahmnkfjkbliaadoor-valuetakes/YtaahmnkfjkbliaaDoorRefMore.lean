/-
  Contracts of the two readers' calls Int, Byte, End and Text, wire's and the document's: the same answers, by functions on lists of bytes; but for the reader's own block nothing that was there before the call is changed.
-/
import Derived.Test.YtaahmnkfjkbliaaDoorRefRead
namespace Go.Proofs.YtaahmnkfjkbliaaDoor
open Go.RowKit

theorem unzig0 : Lib.unzigzag 0 = 0 := rfl

theorem Int_all {b e v e2 : Nat} {l l2 : List UInt8} {w : World} (h : Rd w b l e) (hres : Hid (rdU l e = (v, l2, e2))) :
    Calls Tryd.prog 51 #[.pointer (some ⟨b, 0, none⟩)] w fun r w' => r = .returned (.int .i64 (Lib.unzigzag v)) ∧ Rd w' b l2 e2 ∧ But b w w' := by
  have hr := hres.out
  obtain ⟨v1, r1, f1, hn⟩ : ∃ v1 r1 f1, numb 0 0 l = (v1, r1, f1) := ⟨_, _, _, rfl⟩
  unfold rdU at hr
  rw [hn] at hr
  by_cases he : e = 0
  · subst he
    rw [if_pos rfl] at hr
    by_cases hf : f1 = 0
    · subst hf
      rw [if_pos rfl] at hr
      simp only [Prod.mk.injEq] at hr
      obtain ⟨rfl, rfl, rfl⟩ := hr
      exact Int1_ok h hn
    · rw [if_neg hf] at hr
      simp only [Prod.mk.injEq] at hr
      obtain ⟨rfl, rfl, rfl⟩ := hr
      rw [unzig0]
      exact Int1_bad h hn hf
  · rw [if_neg he] at hr
    simp only [Prod.mk.injEq] at hr
    obtain ⟨rfl, rfl, rfl⟩ := hr
    rw [unzig0]
    refine (Int1_wrong h he).mono ?_
    rintro r w' ⟨rfl, rfl⟩
    exact ⟨rfl, h, But.refl _ _⟩

set_option maxHeartbeats 1000000 in
theorem rInt_all {b e v e2 : Nat} {l l2 : List UInt8} {w : World} (h : Rd w b l e) (hl : l.length ≤ 9223372036854775800) (hres : Hid (rdU l e = (v, l2, e2))) :
    Calls Tryd.prog 56 #[.pointer (some ⟨b, 0, none⟩)] w fun r w' => r = .returned (.int .i64 (Lib.unzigzag v)) ∧ Rd w' b l2 e2 ∧ But b w w' := by
  have hv := rdU_lt hres
  by_cases hodd : v % 2 = 0
  · have hz : Lib.unzigzag v = (v : Int) / 2 := by simp [Lib.unzigzag, hodd]
    have hb : ((v : Int) % 2 == 0) = true := beq_iff_eq.2 (by omega)
    have HZ : Hid (Lib.unzigzag v = (v : Int) / 2) := hz
    clear hz hodd
    go_enter Tryd.func56, Tryd.ntmps56
    go_wp2_with fail
    refine (rUint_all h hl hres).mono ?_
    rintro r w1 ⟨rfl, hr, hbt⟩
    go_wp2
    go_ret
    exact ⟨by rw [HZ.out]; rfl, hr, hbt⟩
  · have hz : Lib.unzigzag v = -((v : Int) / 2) - 1 := by simp [Lib.unzigzag, hodd]
    have hb : ((v : Int) % 2 == 0) = false := beq_eq_false_iff_ne.2 (by omega)
    have HZ : Hid (Lib.unzigzag v = -((v : Int) / 2) - 1) := hz
    clear hz hodd
    go_enter Tryd.func56, Tryd.ntmps56
    go_wp2_with fail
    refine (rUint_all h hl hres).mono ?_
    rintro r w1 ⟨rfl, hr, hbt⟩
    go_wp2
    go_ret
    exact ⟨by rw [HZ.out]; rfl, hr, hbt⟩

/-- A BYTE -/
def rdB (l : List UInt8) (e : Nat) : Nat × List UInt8 × Nat :=
  if e = 0 then (match l with
    | [] => (0, [], 2)
    | c :: t => (c.toNat, t, 0)) else (0, l, e)

theorem Byte_all {b e v e2 : Nat} {l l2 : List UInt8} {w : World} (h : Rd w b l e) (hres : Hid (rdB l e = (v, l2, e2))) :
    Calls Tryd.prog 50 #[.pointer (some ⟨b, 0, none⟩)] w fun r w' => r = .returned (.int .u8 (v : Int)) ∧ Rd w' b l2 e2 ∧ But b w w' := by
  have hr := hres.out
  unfold rdB at hr
  by_cases he : e = 0
  · subst he
    rw [if_pos rfl] at hr
    cases l with
    | nil =>
      simp only [Prod.mk.injEq] at hr
      obtain ⟨rfl, rfl, rfl⟩ := hr
      exact Byte1_bad h
    | cons c t =>
      simp only [Prod.mk.injEq] at hr
      obtain ⟨rfl, rfl, rfl⟩ := hr
      exact Byte1_ok h
  · rw [if_neg he] at hr
    simp only [Prod.mk.injEq] at hr
    obtain ⟨rfl, rfl, rfl⟩ := hr
    refine (Byte1_wrong h he).mono ?_
    rintro r w' ⟨rfl, rfl⟩
    exact ⟨rfl, h, But.refl _ _⟩

set_option maxHeartbeats 1000000 in
theorem rByte_all {b e v e2 : Nat} {l l2 : List UInt8} {w : World} (h : Rd w b l e) (hres : Hid (rdB l e = (v, l2, e2))) :
    Calls Tryd.prog 54 #[.pointer (some ⟨b, 0, none⟩)] w fun r w' => r = .returned (.int .u8 (v : Int)) ∧ Rd w' b l2 e2 ∧ But b w w' := by
  have hr := hres.out
  have c0 := h.rest
  have c1 := h.err
  have f0 := h.fr
  have f1 := h.fe
  unfold rdB at hr
  clear hres
  by_cases he : e = 0
  · subst he
    rw [if_pos rfl] at hr
    cases l with
    | nil =>
      simp only [Prod.mk.injEq] at hr
      obtain ⟨rfl, rfl, rfl⟩ := hr
      have hne : (S []).toList.isEmpty = true := by simp [S_toList]
      go_enter Tryd.func54, Tryd.ntmps54
      go_wp2
      go_ret
      exact ⟨rfl, h.set1 2, (But.refl _ _).setCell _ _⟩
    | cons c t =>
      simp only [Prod.mk.injEq] at hr
      obtain ⟨rfl, rfl, rfl⟩ := hr
      have hne : (S (c :: t)).toList.isEmpty = false := by simp [S_toList]
      have hsz : 0 < (S (c :: t)).size := by simp [S_size]
      have hx := S_extract c t
      have hc : ((S (c :: t))[0]'hsz) = c := by simp [S]; rfl
      go_enter Tryd.func54, Tryd.ntmps54
      go_wp2
      go_ret
      exact ⟨rfl, h.set0 t, (But.refl _ _).setCell _ _⟩
  · rw [if_neg he] at hr
    simp only [Prod.mk.injEq] at hr
    obtain ⟨rfl, rfl, rfl⟩ := hr
    have hbe : (((e : Nat) : Int) != 0) = true := by rw [bne_iff_ne]; omega
    have hbf : (((e : Nat) : Int) == 0) = false := beq_eq_false_iff_ne.2 (by omega)
    clear he
    go_enter Tryd.func54, Tryd.ntmps54
    go_wp2
    go_ret
    exact ⟨rfl, h, But.refl _ _⟩

/-- A TEXT -/
def rdT (most : Int) (l : List UInt8) (e : Nat) : List UInt8 × List UInt8 × Nat :=
  if e = 0 then (if (tex most l).2.2 = 0 then ((tex most l).1, (tex most l).2.1, 0) else ([], l, (tex most l).2.2)) else ([], l, e)

theorem Text_all {b e e2 : Nat} {most : Int} {s l l2 : List UInt8} {w : World} (h : Rd w b l e) (hl : l.length ≤ 140737488355328) (hm : most ≤ 9223372036854775807) (hres : Hid (rdT most l e = (s, l2, e2))) :
    Calls Tryd.prog 52 #[.pointer (some ⟨b, 0, none⟩), .int .i64 most] w fun r w' => r = .returned (.string (S s)) ∧ Rd w' b l2 e2 ∧ But b w w' := by
  have hr := hres.out
  obtain ⟨v1, r1, f1, hn⟩ : ∃ v1 r1 f1, tex most l = (v1, r1, f1) := ⟨_, _, _, rfl⟩
  unfold rdT at hr
  rw [hn] at hr
  by_cases he : e = 0
  · subst he
    rw [if_pos rfl] at hr
    by_cases hf : f1 = 0
    · subst hf
      rw [if_pos rfl] at hr
      simp only [Prod.mk.injEq] at hr
      obtain ⟨rfl, rfl, rfl⟩ := hr
      exact Text_ok h (by omega) hm hn
    · rw [if_neg hf] at hr
      simp only [Prod.mk.injEq] at hr
      obtain ⟨rfl, rfl, rfl⟩ := hr
      exact Text_bad h (by omega) hm hn hf
  · rw [if_neg he] at hr
    simp only [Prod.mk.injEq] at hr
    obtain ⟨rfl, rfl, rfl⟩ := hr
    exact Text_wrong h he most

/-- what rdU says where rdT goes on from it -/
theorem rdU_of {l rest : List UInt8} {v f : Nat} (h : numb 0 0 l = (v, rest, f)) : rdU l 0 = if f = 0 then (v, rest, 0) else (0, l, f) := by
  unfold rdU
  rw [h, if_pos rfl]

end Go.Proofs.YtaahmnkfjkbliaaDoor

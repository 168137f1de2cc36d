/-
  Package wire's List of whatever reader: made out of the text RefList, without the document's reader.
-/
import Derived.Test.YteifkkceldlfnaaGreatDoorGFrame
namespace Go.Proofs.YteifkkceldlfnaaGreatDoor
open Go.RowKit
open Go.Lib hiding intOf

def rdL (many most : Int) (l : List UInt8) (e : Nat) : List (List UInt8) × List UInt8 × Nat :=
  if e = 0 then (if (lis many most l).2.2 = 0 then ((lis many most l).1, (lis many most l).2.1, 0) else ([], l, (lis many most l).2.2)) else ([], l, e)

theorem List_all {b e e2 : Nat} {many most : Int} {res : List (List UInt8)} {l l2 : List UInt8} {w : World} (h : Rd w b l e) (hl : l.length ≤ 8796093022208) (hmany : many ≤ 9223372036854775807) (hm : most ≤ 9223372036854775807) (hres : Hid (rdL many most l e = (res, l2, e2))) :
    Calls Tryz.prog 130 #[.pointer (some ⟨b, 0, none⟩), .int .i64 many, .int .i64 most] w fun r w' => ∃ v', r = .returned v' ∧ w'.ownsRow w.heap.size 9 1 v' res.length (strCs res) ∧ Rd w' b l2 e2 ∧ But b w w' := by
  have hr := hres.out
  obtain ⟨v1, r1, f1, hn⟩ : ∃ v1 r1 f1, lis many most l = (v1, r1, f1) := ⟨_, _, _, rfl⟩
  unfold rdL at hr
  rw [hn] at hr
  by_cases he : e = 0
  · subst he
    rw [if_pos rfl] at hr
    by_cases hf : f1 = 0
    · subst hf
      rw [if_pos rfl] at hr
      simp only [Prod.mk.injEq] at hr
      obtain ⟨rfl, rfl, rfl⟩ := hr
      exact Lst_own h hl hmany hm hn
    · rw [if_neg hf] at hr
      simp only [Prod.mk.injEq] at hr
      obtain ⟨rfl, rfl, rfl⟩ := hr
      refine (Lst_bad h hl hmany hm hn hf).mono ?_
      rintro r w' ⟨rfl, hr, hb⟩
      exact ⟨_, rfl, World.ownsRow_nil _ _ _ _, hr, hb⟩
  · rw [if_neg he] at hr
    simp only [Prod.mk.injEq] at hr
    obtain ⟨rfl, rfl, rfl⟩ := hr
    refine (Lst_wrong h he many most).mono ?_
    rintro r w' ⟨rfl, hr, hb⟩
    exact ⟨_, rfl, World.ownsRow_nil _ _ _ _, hr, hb⟩

theorem rdU_le {l l2 : List UInt8} {e v e2 : Nat} (h : Hid (rdU l e = (v, l2, e2))) : l2.length ≤ l.length := by
  have hr := h.out
  have hn := numb_le l 0 0
  unfold rdU at hr
  split at hr
  · split at hr
    · simp only [Prod.mk.injEq] at hr; rw [← hr.2.1]; exact hn
    · simp only [Prod.mk.injEq] at hr; rw [← hr.2.1]; omega
  · simp only [Prod.mk.injEq] at hr; rw [← hr.2.1]; omega
theorem texs_le {most : Int} : ∀ (n : Nat) (acc : List (List UInt8)) (l : List UInt8), (texs most n acc l).2.1.length ≤ l.length
  | 0, acc, l => by simp [texs]
  | n + 1, acc, l => by
    have h1 := tex_le most l
    have h2 := texs_le (most := most) n (acc ++ [(tex most l).1]) (tex most l).2.1
    rw [texs]
    split
    · exact h1
    · omega
theorem rdL_le {many most : Int} {l l2 : List UInt8} {res : List (List UInt8)} {e e2 : Nat} (h : Hid (rdL many most l e = (res, l2, e2))) : l2.length ≤ l.length := by
  have hr := h.out
  have hn : (lis many most l).2.1.length ≤ l.length := by
    have h1 := cnt_le many l
    have h2 := texs_le (most := most) (cnt many l).1 [] (cnt many l).2.1
    unfold lis
    split
    · exact h1
    · omega
  unfold rdL at hr
  split at hr
  · split at hr
    · simp only [Prod.mk.injEq] at hr; rw [← hr.2.1]; exact hn
    · simp only [Prod.mk.injEq] at hr; rw [← hr.2.1]; omega
  · simp only [Prod.mk.injEq] at hr; rw [← hr.2.1]; omega
theorem texs_cnt {most : Int} : ∀ (n : Nat) (acc : List (List UInt8)) (l : List UInt8), (texs most n acc l).1.length ≤ acc.length + l.length
  | 0, acc, l => by simp [texs]
  | n + 1, acc, l => by
    have h2 := texs_cnt (most := most) n (acc ++ [(tex most l).1]) (tex most l).2.1
    rw [texs]
    split
    · simp
    · rename_i h1
      have h3 := tex_less (most := most) (l := l) (by simpa using h1)
      simp at h2
      omega
theorem rdL_cnt {many most : Int} {l l2 : List UInt8} {res : List (List UInt8)} {e e2 : Nat} (h : Hid (rdL many most l e = (res, l2, e2))) : res.length ≤ l.length := by
  have hr := h.out
  have hn : (lis many most l).1.length ≤ l.length := by
    have h1 := cnt_le many l
    have h2 := texs_cnt (most := most) (cnt many l).1 [] (cnt many l).2.1
    unfold lis
    split
    · simp
    · simp at h2; omega
  unfold rdL at hr
  split at hr
  · split at hr
    · simp only [Prod.mk.injEq] at hr; rw [← hr.1]; exact hn
    · simp only [Prod.mk.injEq] at hr; rw [← hr.1]; simp
  · simp only [Prod.mk.injEq] at hr; rw [← hr.1]; simp

end Go.Proofs.YteifkkceldlfnaaGreatDoor

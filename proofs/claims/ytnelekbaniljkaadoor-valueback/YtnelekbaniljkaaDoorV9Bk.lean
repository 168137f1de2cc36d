/-
  What variables' bytes are taken as: the variables themselves, whatever follows.
-/
import Derived.Test.YtnelekbaniljkaaDoorV9One
namespace Go.Proofs.YtnelekbaniljkaaDoor
open Go.RowKit Go.Shelf Go.Sort
open Go.Lib hiding intOf

theorem namV_len {s : List UInt8} (h : namV s = true) : s.length ≤ 32 := by
  unfold namV at h
  simp only [Bool.and_eq_true, decide_eq_true_eq] at h
  exact h.1.1.2.2
theorem tkN_back : ∀ (L acc : List Vr) (more : List UInt8), (∀ x ∈ L, okV x = true) → (∀ x ∈ L, Vk x.2) → tkN L.length acc ((L.map rowV).flatten ++ more) = some (acc ++ L)
  | [], acc, more, _, _ => by simp [tkN]
  | x :: t, acc, more, ho, hk => by
    have h1 := ho x (List.mem_cons_self ..)
    unfold okV at h1
    rw [Bool.and_eq_true] at h1
    have hn := namV_len h1.1
    rw [List.length_cons, List.map_cons, List.flatten_cons]
    rw [show rowV x = txt x.1.data.toList ++ bytV x.2 from rfl]
    unfold tkN
    rw [List.append_assoc, List.append_assoc, rdT_back (by omega) (by omega)]
    simp only
    rw [if_pos trivial, tkV_back h1.2 (hk x (List.mem_cons_self ..))]
    simp only
    rw [S_of, tkN_back t _ more (fun y hy => ho y (List.mem_cons_of_mem _ hy)) (fun y hy => hk y (List.mem_cons_of_mem _ hy))]
    simp
theorem tkL_back {L : List Vr} (hr : rgt L = true) (hk : ∀ x ∈ L, Vk x.2) (more : List UInt8) : tkL (vbs L ++ more) = some L := by
  obtain ⟨h16, -, ho⟩ := rgt_iff.1 hr
  unfold vbs tkL
  rw [if_pos hr, List.append_assoc, rdU_back (by omega)]
  simp only
  rw [if_pos ⟨trivial, h16⟩, tkN_back L [] more ho hk]
  simp only [List.nil_append]
  rw [if_pos hr]
end Go.Proofs.YtnelekbaniljkaaDoor

/-
  Package disk: Names.
-/
import Derived.Test.YtedcabnjcbdkaaaL4Cut2
import Derived.Test.YtedcabnjcbdkaaaL4Lay
namespace Go.Proofs.Ytedcabnjcbdkaaa
open Go.RowKit Go.Shelf Go.Sort
open Go.Lib hiding intOf
variable {w : World} {B d : Nat} {es : List Le} {p : Int} {off : Bool} {mo : Option Nat}

/-- the names' cells -/
def nms {V : Type} (es : List (ByteArray × V)) : List Value := es.map fun e => .string e.1
theorem enc_str (s : ByteArray) : encStr s.data.toList = .string s := by
  show Value.string ⟨s.data.toList.toArray⟩ = _
  rw [ba_list]
theorem names_sorted {V : Type} {es : List (ByteArray × V)} (h : Rise es) {ss : List (List UInt8)} (hp : ss.Perm (es.map fun e => e.1.data.toList)) : ss.length = es.length ∧ (ss.mergeSort (fun x y => decide (x ≤ y))).map encStr = nms es := by
  refine ⟨by rw [hp.length_eq, List.length_map], ?_⟩
  have h1 : ss.mergeSort (fun x y => decide (x ≤ y)) = (es.map fun e => e.1.data.toList).mergeSort (fun x y => decide (x ≤ y)) := mergeSort_of_perm hp
  rw [h1, List.mergeSort_of_pairwise]
  · rw [List.map_map]
    unfold nms
    apply List.map_congr_left
    intro e _
    exact enc_str e.1
  · rw [List.pairwise_map]
    exact h.imp (fun {a b} hab => by
      rw [decide_eq_true_iff]
      exact List.le_of_lt ((lt_iff a.1 b.1).1 hab))
theorem strKeys_ents (es : List Le) : strKeys (DataW.map (ents dg es)) = es.map fun e => e.1.data.toList := by
  show (ents dg es).map (fun p => strOf p.1) = _
  unfold ents
  rw [List.map_map]
  rfl

set_option maxHeartbeats 1000000 in
theorem inOrder_any (h : Ld w B d es p off mo) :
    Calls Try.prog 34 #[.map mo] w fun e w' => ∃ v, e = .returned v ∧ w'.ownsRow w.heap.size 9 1 v es.length (nms es) ∧ Below w.heap.size w w' := by
  refine (callsIn_wide (n := 6)).1 ?_
  have hfK : Fence.wide.fn 45 := trivial
  have hfS : Fence.wide.fn 44 := trivial
  cases mo with
  | none =>
    have he := h.mn rfl
    subst he
    clear h
    refine callsIn_of_wp Try.func34 rfl trivial ?_ rfl
    simp only [Try.ntmps34, List.size_toArray, List.length_cons, List.length_nil, Nat.reduceAdd, Nat.reduceSub, Array.replicate_succ, Array.replicate_zero, List.push_toArray, List.append_toArray, List.nil_append, List.cons_append]
    gi_wp2_with (first
      | (gi_at_call 45; refine (keys_any _ _).mono ?_; rintro e w' ⟨rfl, rfl⟩)
      | (gi_at_call 44; refine (sorted_nil w).mono ?_; rintro e w' ⟨v, ss, rfl, hS, hrow, hnil, hb⟩))
    go_ret
    obtain ⟨h1, h2⟩ := names_sorted (es := ([] : List Le)) List.Pairwise.nil (ss := ss) (by rw [hS]; exact List.Perm.nil)
    rw [h1, h2] at hrow
    exact ⟨v, rfl, row_low hrow (by simp), ((Below.refl _ w).alloc (Nat.le_refl _) _).trans (hb.mono (by simp))⟩
  | some mb =>
    have hown := h.mp mb rfl
    have hf := h.few
    have hr := h.rise
    clear h
    have hsz : Maps.size (DataW.map (ents dg es)) = es.length := by rw [Maps.size_eq, ents_len]
    have hmax : Maps.size (DataW.map (ents dg es)) ≤ maxLen := by rw [hsz]; unfold maxLen; omega
    have hbytes : Maps.size (DataW.map (ents dg es)) * 16 ≤ 140737488355328 := by rw [hsz]; omega
    refine callsIn_of_wp Try.func34 rfl trivial ?_ rfl
    simp only [Try.ntmps34, List.size_toArray, List.length_cons, List.length_nil, Nat.reduceAdd, Nat.reduceSub, Array.replicate_succ, Array.replicate_zero, List.push_toArray, List.append_toArray, List.nil_append, List.cons_append]
    gi_wp2_with (first
      | (gi_at_call 45; refine (keys_any _ _).mono ?_; rintro e w' ⟨rfl, rfl⟩)
      | (gi_at_call 44; refine (sorted_any mb _ _ rdF w hown hmax hbytes).mono ?_; rintro e w' ⟨v, ss, rfl, hS, hrow, hnil, hb⟩))
    go_ret
    rw [strKeys_ents] at hS
    obtain ⟨h1, h2⟩ := names_sorted hr hS
    rw [h1, h2] at hrow
    exact ⟨v, rfl, row_low hrow (by simp), ((Below.refl _ w).alloc (Nat.le_refl _) _).trans (hb.mono (by simp))⟩

set_option maxHeartbeats 1000000 in
theorem Names_any (h : Ld w B d es p off mo) :
    Calls Try.prog 16 #[.pointer (some ⟨d, 0, none⟩)] w fun e w' => ∃ v, e = .returned v ∧ w'.ownsRow w.heap.size 9 1 v es.length (nms es) ∧ Below w.heap.size w w' := by
  have hI := inOrder_any h
  have c0 := h.c0
  clear h
  go_enter Try.func16, Try.ntmps16
  go_wp2_with (go_at_call 34; refine hI.mono ?_; rintro e w1 ⟨v, rfl, hv, hb⟩; have HR : Hid _ := And.intro hv hb; clear hv hb)
  go_ret
  exact ⟨v, rfl, HR.out.1, HR.out.2⟩
set_option maxHeartbeats 1000000 in
theorem Names_nil (w : World) :
    Calls Try.prog 16 #[.pointer none] w fun e w' => e = .returned (.slice none 0 0) ∧ w' = w := by
  go_enter Try.func16, Try.ntmps16
  go_wp2
  go_ret
  exact ⟨rfl, rfl⟩
end Go.Proofs.Ytedcabnjcbdkaaa

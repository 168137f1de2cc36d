/-
  Frames, plain: what was put is taken, whatever follows; no beginning of a frame is one; a frame of whose sum, kind or load one byte is another one is refused.
-/
import Derived.Test.YtiaeicfmdnmeeaaF5Pure
namespace Go.Proofs.Ytiaeicfmdnmeeaa
open Go.RowKit

theorem frm_length (k : UInt8) (l : List UInt8) : (frm k l).length = 5 + (txt l).length := by simp [frm, four_length]; omega
theorem txt_pos (l : List UInt8) : l.length + 1 ≤ (txt l).length := by
  have := Lib.uvarint_pos l.length
  rw [txt_length]
  omega
theorem drop_four (c : Nat) (r : List UInt8) : (four c ++ r).drop 4 = r := List.drop_left' (four_length c)
theorem take_four (c : Nat) (r : List UInt8) : (four c ++ r).take 4 = four c := List.take_left' (four_length c)
/-- four bytes, then a kind, then a text, then more -/
theorem tak_any (q : List UInt8) (hq : q.length = 4) (k : UInt8) (l more : List UInt8) (hl : l.length ≤ 65536) :
    tak (q ++ k :: (txt l ++ more)) = if q = four (sumOf (k :: txt l)) then (k, l, 5 + (txt l).length, 0) else (0, [], 0, 3) := by
  have h1 := txt_pos l
  have hlen : (q ++ k :: (txt l ++ more)).length = 5 + (txt l).length + more.length := by simp [hq]; omega
  have h5 : (q ++ k :: (txt l ++ more)).drop 5 = txt l ++ more := by
    rw [show (5 : Nat) = 4 + 1 from rfl, ← List.drop_drop, List.drop_left' hq]; rfl
  have h4 : (q ++ k :: (txt l ++ more)).drop 4 = k :: (txt l ++ more) := List.drop_left' hq
  have ht : (q ++ k :: (txt l ++ more)).take 4 = q := List.take_left' hq
  have hb : (k :: (txt l ++ more)).take (5 + (txt l).length + more.length - 4 - more.length) = k :: txt l := by
    rw [show 5 + (txt l).length + more.length - 4 - more.length = (txt l).length + 1 by omega, List.take_succ_cons, List.take_left' rfl]
  have hg : (q ++ k :: (txt l ++ more)).getD 4 0 = k := by
    simp [List.getD, hq]
  unfold tak
  rw [if_neg (by rw [hlen]; omega), h5, tex_back (by omega) (by omega), h4, ht, hlen, hg]
  show (if (0 : Nat) ≠ 0 then _ else if q = four (sumOf ((k :: (txt l ++ more)).take (5 + (txt l).length + more.length - 4 - more.length))) then _ else _) = _
  rw [if_neg (by simp), hb, Nat.add_sub_cancel]
/-- what was put is taken, whatever follows -/
theorem tak_back (k : UInt8) (l more : List UInt8) (hl : l.length ≤ 65536) : tak (frm k l ++ more) = (k, l, (frm k l).length, 0) := by
  unfold frm
  rw [List.append_assoc, List.cons_append, tak_any _ (four_length _) k l more hl, if_pos rfl]
  congr 3
  simp [four_length]
  omega
theorem tak_none (k : UInt8) (l : List UInt8) (hl : l.length ≤ 65536) : tak (frm k l) = (k, l, (frm k l).length, 0) := by
  have := tak_back k l [] hl
  rwa [List.append_nil] at this
/-- no beginning of a frame is one -/
theorem tak_cut (k : UInt8) (l : List UInt8) (hl : l.length ≤ 65536) {n : Nat} (hn : n < (frm k l).length) : (tak ((frm k l).take n)).2.2.2 = 2 := by
  rw [frm_length] at hn
  by_cases h6 : n < 6
  · unfold tak
    rw [if_pos (by simp; omega)]
  · have e : (frm k l).take n = four (sumOf (k :: txt l)) ++ k :: (txt l).take (n - 5) := by
      unfold frm
      rw [List.take_append, List.take_of_length_le (by rw [four_length]; omega), four_length, show n - 4 = (n - 5) + 1 by omega, List.take_succ_cons]
    have h5 : ((frm k l).take n).drop 5 = (txt l).take (n - 5) := by
      rw [e, show (5 : Nat) = 4 + 1 from rfl, ← List.drop_drop, drop_four]; rfl
    have hc := tex_cut (s := l) (k := n - 5) (most := 65536) (by omega) (by omega) (by omega)
    have hlen : ((frm k l).take n).length = n := by rw [List.length_take, frm_length]; omega
    unfold tak
    rw [if_neg (by rw [hlen]; exact h6), h5]
    generalize tex 65536 ((txt l).take (n - 5)) = r at hc ⊢
    obtain ⟨s, rest, er⟩ := r
    simp only at hc
    subst hc
    rfl
theorem cons_ne {a b c : List UInt8} {x y : UInt8} (h : x ≠ y) : a ++ y :: b ≠ a ++ x :: c := fun e => h (List.cons.inj (List.append_cancel_left e)).1.symm
/-- one byte is another one -/
theorem tak_turned (k : UInt8) (l : List UInt8) (hl : l.length ≤ 65536) {a b : List UInt8} {x y : UInt8} (h : frm k l = a ++ x :: b) (hxy : x ≠ y) (hp : a.length ≤ 4 ∨ (frm k l).length - l.length ≤ a.length) : (tak (a ++ y :: b)).2.2.2 = 3 := by
  have hfl := frm_length k l
  have hc4 := four_length (sumOf (k :: txt l))
  have htl := txt_length l
  have hlen : (frm k l).length = a.length + 1 + b.length := by rw [h]; simp; omega
  unfold frm at h
  by_cases h4 : a.length < 4
  · have ht := congrArg (List.take 4) h
    have hd := congrArg (List.drop 4) h
    rw [take_four, List.take_append, List.take_of_length_le (by omega), show 4 - a.length = (3 - a.length) + 1 by omega, List.take_succ_cons] at ht
    rw [drop_four, List.drop_append, List.drop_of_length_le (by omega), List.nil_append, show 4 - a.length = (3 - a.length) + 1 by omega, List.drop_succ_cons] at hd
    have e : a ++ y :: b = (a ++ y :: b.take (3 - a.length)) ++ k :: (txt l ++ []) := by
      rw [List.append_nil, hd, List.append_assoc, List.cons_append, List.take_append_drop]
    have hlq : (a ++ y :: b.take (3 - a.length)).length = 4 := by
      have := congrArg List.length ht
      rw [hc4] at this
      simp at this ⊢
      omega
    rw [e, tak_any _ hlq k l [] hl, if_neg (by rw [ht]; exact cons_ne hxy)]
  · by_cases h5 : a.length = 4
    · obtain ⟨h1, h2⟩ := List.append_inj h (by rw [hc4, h5])
      obtain ⟨h2, h3⟩ := List.cons.inj h2
      subst h1 h2 h3
      have e : four (sumOf (k :: txt l)) ++ y :: txt l = four (sumOf (k :: txt l)) ++ y :: (txt l ++ []) := by rw [List.append_nil]
      rw [e, tak_any _ hc4 y l [] hl, if_neg]
      intro e2
      exact sum_apart [] (txt l) hxy (four_inj (sumOf_lt _) (sumOf_lt _) e2)
    · have hp' : 5 + (Lib.uvarint l.length).length ≤ a.length := by rcases hp with h | h <;> omega
      have hfr : four (sumOf (k :: txt l)) ++ k :: txt l = (four (sumOf (k :: txt l)) ++ k :: Lib.uvarint l.length) ++ l := by unfold txt; simp
      have hpl : (four (sumOf (k :: txt l)) ++ k :: Lib.uvarint l.length).length = 5 + (Lib.uvarint l.length).length := by rw [List.length_append, hc4, List.length_cons]; omega
      rw [hfr] at h
      have ha : a = a.take (5 + (Lib.uvarint l.length).length) ++ a.drop (5 + (Lib.uvarint l.length).length) := (List.take_append_drop _ _).symm
      have h' : (four (sumOf (k :: txt l)) ++ k :: Lib.uvarint l.length) ++ l = a.take (5 + (Lib.uvarint l.length).length) ++ (a.drop (5 + (Lib.uvarint l.length).length) ++ x :: b) := by
        rw [← List.append_assoc, List.take_append_drop]; exact h
      obtain ⟨h1, h2⟩ := List.append_inj h' (by rw [hpl, List.length_take]; omega)
      generalize a.drop (5 + (Lib.uvarint l.length).length) = a2 at *
      have hll : l.length = (a2 ++ y :: b).length := by have := congrArg List.length h2; simp at this ⊢; omega
      have htx : txt (a2 ++ y :: b) = Lib.uvarint l.length ++ (a2 ++ y :: b) := by unfold txt; rw [← hll]
      have e : a ++ y :: b = four (sumOf (k :: txt l)) ++ k :: (txt (a2 ++ y :: b) ++ []) := by
        rw [ha, ← h1, htx]; simp
      rw [e, tak_any _ hc4 k _ [] (by rw [← hll]; exact hl), if_neg]
      intro e2
      refine sum_apart (k :: (Lib.uvarint l.length ++ a2)) b hxy ?_
      have e3 := four_inj (sumOf_lt _) (sumOf_lt _) e2
      have htx2 : txt l = Lib.uvarint l.length ++ (a2 ++ x :: b) := by unfold txt; rw [← h2]
      rw [htx, htx2] at e3
      simpa using e3
end Go.Proofs.Ytiaeicfmdnmeeaa

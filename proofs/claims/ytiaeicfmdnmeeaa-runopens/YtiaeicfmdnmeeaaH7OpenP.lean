/-
  What stands where in a run's bytes, as the document's Open reads them: pure.
-/
import Derived.Test.YtiaeicfmdnmeeaaH7RefB
namespace Go.Proofs.Ytiaeicfmdnmeeaa
open Go.RowKit Go.Shelf Go.Sort
open Go.Lib hiding intOf

/-- four bytes' number -/
def le4 (l : List UInt8) : Nat := match l with
  | [a, b, c, d] => a.toNat + 256 * b.toNat + 65536 * c.toNat + 16777216 * d.toNat
  | _ => 0
theorem le4_four {n : Nat} (h : n < 4294967296) : le4 (four n) = n := by
  unfold four le4
  simp
  omega
theorem four_le4 {l : List UInt8} (h : l.length = 4) : four (le4 l) = l := by
  match l, h with
  | [a, b, c, d], _ =>
    have ha := a.toNat_lt
    have hb := b.toNat_lt
    have hc := c.toNat_lt
    have hd := d.toNat_lt
    unfold four le4
    simp only [List.cons.injEq, and_true]
    refine ⟨?_, ?_, ?_, ?_⟩ <;> (apply UInt8.toNat_inj.1; simp; omega)

/-- where a run's index lies -/
theorem tail_rn {b : List UInt8} {bs : List (List R7)} (h : Rn b bs) (hl : b.length ≤ 1048576) : b.length = (fbs bs).length + (frm 3 (ix bs)).length + 4 ∧ le4 (b.drop (b.length - 4)) = (frm 3 (ix bs)).length ∧ b.take (fbs bs).length = fbs bs ∧ (b.drop (fbs bs).length).take (frm 3 (ix bs)).length = frm 3 (ix bs) := by
  obtain ⟨rfl, -, -, -⟩ := h
  have h4 := four_length (frm 3 (ix bs)).length
  have hb : (rn bs).length = (fbs bs).length + (frm 3 (ix bs)).length + 4 := by simp [rn, tl, h4]; omega
  refine ⟨hb, ?_, ?_, ?_⟩
  · have e : (rn bs).drop ((rn bs).length - 4) = four (frm 3 (ix bs)).length := by
      have e1 : rn bs = (fbs bs ++ frm 3 (ix bs)) ++ four (frm 3 (ix bs)).length := by simp [rn, tl]
      have e2 : (rn bs).length - 4 = (fbs bs ++ frm 3 (ix bs)).length := by rw [List.length_append]; omega
      rw [e2, e1]
      exact List.drop_left
    rw [e]
    exact le4_four (by omega)
  · unfold rn; exact List.take_left
  · unfold rn tl
    rw [List.drop_left]
    exact List.take_left
/-- the same, the other way -/
theorem rn_tail {b : List UInt8} {bs : List (List R7)} {fin : Nat} (hl : 4 ≤ b.length) (hf : fin + le4 (b.drop (b.length - 4)) + 4 = b.length) (h1 : b.take fin = fbs bs) (h2 : (b.drop fin).take (le4 (b.drop (b.length - 4))) = frm 3 (ix bs)) : b = rn bs := by
  have hz : (b.drop (b.length - 4)).length = 4 := by rw [List.length_drop]; omega
  have hsz : (frm 3 (ix bs)).length = le4 (b.drop (b.length - 4)) := by rw [← h2, List.length_take, List.length_drop]; omega
  have h4 := four_le4 hz
  have e1 := List.take_append_drop fin b
  have e2 := List.take_append_drop (le4 (b.drop (b.length - 4))) (b.drop fin)
  have e3 : (b.drop fin).drop (le4 (b.drop (b.length - 4))) = b.drop (b.length - 4) := by rw [List.drop_drop]; congr 1; omega
  unfold rn tl
  rw [hsz, h4, ← h1, ← h2]
  rw [e3] at e2
  rw [e2]
  exact e1.symm

/-- what the document's Open has read of a run: the blocks bs; rest: the index's rest; at: where it is -/
structure Sy (b load : List UInt8) (fin many : Nat) (bs : List (List R7)) (rest : List UInt8) : Prop where
  ld : load = Lib.uvarint many ++ (ixs bs ++ rest)
  tk : b.take (fbs bs).length = fbs bs
  le : (fbs bs).length ≤ fin
  g : Gbs bs
section
variable {b load rest : List UInt8} {fin many : Nat} {bs bs' : List (List R7)}
theorem Sy.sync (h : Sy b load fin many bs rest) (hR : Rn b bs') (hl : b.length ≤ 1048576) (hm : many < 18446744073709551616) (hf : fin + le4 (b.drop (b.length - 4)) + 4 = b.length) (ht : tak ((b.drop fin).take (le4 (b.drop (b.length - 4)))) = (3, load, le4 (b.drop (b.length - 4)), 0)) :
    ∃ q, bs' = bs ++ q ∧ rest = ixs q ∧ many = bs'.length ∧ fin = (fbs bs').length ∧ load = ix bs' := by
  obtain ⟨t1, t2, t3, t4⟩ := tail_rn hR hl
  have hfin : fin = (fbs bs').length := by omega
  rw [t2, hfin, t4, tak_none 3 (ix bs') hR.2.2.2] at ht
  simp only [Prod.mk.injEq, true_and, and_true] at ht
  have hload : load = ix bs' := ht.symm
  have hbl : bs'.length < 18446744073709551616 := by
    have h1 := ix_one hR.2.1
    have h2 := hR.2.2.2
    unfold ix at h2
    rw [List.length_append] at h2
    omega
  have e1 := h.ld
  rw [hload] at e1
  have n1 := numb_back0 hm (ixs bs ++ rest)
  rw [← e1] at n1
  unfold ix at n1
  rw [numb_back0 hbl] at n1
  simp only [Prod.mk.injEq, and_true] at n1
  obtain ⟨n2, n3⟩ := n1
  have e2 : fbs bs ++ b.drop (fbs bs).length = fbs bs' ++ (frm 3 (ix bs') ++ four (frm 3 (ix bs')).length) := by
    have := List.take_append_drop (fbs bs).length b
    rw [h.tk] at this
    rw [this, hR.1]
    rfl
  obtain ⟨q, q1, q2⟩ := head_run bs bs' h.g hR.2.1 hR.2.2.2 e2
  refine ⟨q, q1, ?_, n2.symm, hfin, hload⟩
  rw [q1, ixs_append] at n3
  exact (List.append_cancel_left n3).symm
/-- one more block -/
theorem Sy.step (h : Sy b load fin many bs rest) (hfb : fin ≤ b.length) {len : Nat} {r1 r2 first : List UInt8} {y : List R7} (h1 : rdU rest 0 = (len, r1, 0)) (h2 : rdT 64 r1 0 = (first, r2, 0)) (h3 : len ≤ fin - (fbs bs).length) (h4 : (b.drop (fbs bs).length).take len = fb y) (hy : Gb y) (h5 : key1 y = first) : Sy b load fin many (bs ++ [y]) r2 := by
  have hle := h.le
  have e1 : rest = Lib.uvarint len ++ r1 := by
    unfold rdU at h1
    rw [if_pos rfl] at h1
    by_cases hz : (numb 0 0 rest).2.2 = 0
    · rw [if_pos hz] at h1
      simp only [Prod.mk.injEq, and_true] at h1
      exact numb_one0 (Prod.ext h1.1 (Prod.ext h1.2 hz))
    · rw [if_neg hz] at h1
      simp only [Prod.mk.injEq] at h1
      exact absurd h1.2.2 hz
  have e2 : r1 = txt first ++ r2 := by
    unfold rdT at h2
    rw [if_pos rfl] at h2
    by_cases hz : (tex 64 r1).2.2 = 0
    · rw [if_pos hz] at h2
      simp only [Prod.mk.injEq, and_true] at h2
      exact (tex_one (most := 64) (Prod.ext h2.1 (Prod.ext h2.2 hz))).1
    · rw [if_neg hz] at h2
      simp only [Prod.mk.injEq] at h2
      exact absurd h2.2.2 hz
  have hlen : (fb y).length = len := by rw [← h4, List.length_take, List.length_drop]; omega
  refine ⟨?_, ?_, ?_, ?_⟩
  · rw [h.ld, ixs_snoc, e1, e2]
    unfold ixe
    rw [hlen, h5]
    simp
  · rw [fbs_snoc, List.length_append, hlen, List.take_add, h.tk, h4]
  · rw [fbs_snoc, List.length_append, hlen]; omega
  · intro z hz
    rcases List.mem_append.1 hz with hz | hz
    · exact h.g z hz
    · rw [List.mem_singleton.1 hz]; exact hy
/-- of a run, each round goes through -/
theorem Sy.can (h : Sy b load fin many bs rest) (hR : Rn b bs') (hl : b.length ≤ 1048576) (hm : many < 18446744073709551616) (hf : fin + le4 (b.drop (b.length - 4)) + 4 = b.length) (ht : tak ((b.drop fin).take (le4 (b.drop (b.length - 4)))) = (3, load, le4 (b.drop (b.length - 4)), 0)) (hlt : bs.length < many) :
    ∃ y r1 r2, rdU rest 0 = ((fb y).length, r1, 0) ∧ rdT 64 r1 0 = (key1 y, r2, 0) ∧ (fb y).length ≤ fin - (fbs bs).length ∧ (b.drop (fbs bs).length).take (fb y).length = fb y ∧ Gb y := by
  obtain ⟨q, q1, q2, q3, q4, q5⟩ := h.sync hR hl hm hf ht
  cases q with
  | nil => rw [q1] at q3; simp at q3; omega
  | cons y t =>
    have hy : Gb y := hR.2.1 y (by rw [q1]; simp)
    have hfl : (fbs bs').length = (fbs bs).length + (fb y).length + (fbs t).length := by rw [q1, fbs_append, fbs_cons, List.length_append, List.length_append]; omega
    have hkl : (key1 y).length ≤ 64 := by
      cases hyy : y with
      | nil => exact absurd hyy hy.1
      | cons x u =>
        have := (may_len (hy.2.2 x (by rw [hyy]; simp))).1
        simpa [key1] using this
    refine ⟨y, txt (key1 y) ++ ixs t, ixs t, ?_, ?_, by omega, ?_, hy⟩
    · rw [q2, ixs_cons]
      unfold ixe rdU
      have hb : (fb y).length < 18446744073709551616 := by
        have := (tail_rn hR hl).1
        omega
      rw [List.append_assoc, numb_back0 hb]
      simp
    · unfold rdT
      rw [tex_back (by omega) (by omega)]
      simp
    · have e : b = fbs bs ++ (fb y ++ (fbs t ++ tl bs')) := by rw [hR.1, rn]; rw [show fbs bs' = fbs bs ++ (fb y ++ fbs t) by rw [q1, fbs_append, fbs_cons]]; simp
      rw [e, List.drop_left]
      exact List.take_left
/-- of what was read whole: it is a run -/
theorem Sy.done (h : Sy b load fin many bs []) (hl : 4 ≤ b.length) (hf : fin + le4 (b.drop (b.length - 4)) + 4 = b.length) (ht : tak ((b.drop fin).take (le4 (b.drop (b.length - 4)))) = (3, load, le4 (b.drop (b.length - 4)), 0)) (hm : bs.length = many) (ha : (fbs bs).length = fin) (hfl : flt none bs.flatten = 0) : Rn b bs := by
  obtain ⟨e1, e2, e3⟩ := tak_one ht
  have hload : load = ix bs := by rw [h.ld, List.append_nil, ← hm]; rfl
  have hd : ((b.drop fin).take (le4 (b.drop (b.length - 4)))).drop (le4 (b.drop (b.length - 4))) = [] := by rw [List.drop_eq_nil_iff, List.length_take]; omega
  rw [hd, List.append_nil, hload] at e1
  rw [hload] at e3
  exact ⟨rn_tail hl hf (by rw [← ha]; exact h.tk) e1, h.g, hfl, e3⟩
end
end Go.Proofs.Ytiaeicfmdnmeeaa

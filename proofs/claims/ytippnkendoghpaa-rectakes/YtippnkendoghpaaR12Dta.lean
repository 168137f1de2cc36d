/-
  The document's Take of every bytes: what it comes to.
-/
import Derived.Test.YtippnkendoghpaaGDtk
namespace Go.Proofs.Ytippnkendoghpaa.r12
open Go.RowKit Go.Shelf Go.Sort
open Go.Lib hiding intOf

theorem Is.rdd {s : List UInt8} {r : R12} (h : Is s r) : rdR td s = r ∧ (P11 td s).2 = (vbs r.v, 0) ∧ P12 td s = (r.v, true) := by
  have l1 := mA_le r; have l2 := mB_le r
  have f := h.may.1
  have a1 := f.la; have a2 := f.lb; have a3 := f.lc
  have b := back h.k f (t := td) (by unfold td; simp only; omega) (by unfold td; simp only; omega) (by unfold td; simp only; omega) []
  rw [List.append_nil, h.eq, List.append_nil] at b
  exact b
theorem may_bool (r : R12) : ∃ p : Bool, p = true ↔ May r := by
  by_cases h : May r
  · exact ⟨true, fun _ => h, fun _ => rfl⟩
  · exact ⟨false, (fun e => by cases e), fun e => absurd e h⟩
theorem vbs_rest {L : List Vr} {rest : List UInt8} (h : vbs L = vbs L ++ rest) : rest = [] := by
  have := congrArg List.length h
  rw [List.length_append] at this
  exact List.length_eq_zero_iff.1 (by omega)
theorem tkN_one : ∀ (n : Nat) (acc : List Vr) (l : List UInt8) (L : List Vr), tkN n acc l = some L → ∃ t, rwf acc ++ l = rwf L ++ t ∧ L.length = acc.length + n
  | 0, acc, l, L, h => by cases h; exact ⟨l, rfl, rfl⟩
  | n + 1, acc, l, L, h => by
    unfold tkN at h
    obtain ⟨s, l2, e2, hr⟩ : ∃ s l2 e2, rdT 32 l 0 = (s, l2, e2) := ⟨_, _, _, rfl⟩
    rw [hr] at h
    simp only at h
    split at h
    · rename_i h0
      subst h0
      obtain ⟨-, g1, -⟩ := rdT_one hr
      cases hv : tkV l2 with
      | none => rw [hv] at h; cases h
      | some p =>
        rw [hv] at h
        simp only at h
        obtain ⟨-, g2⟩ := tkV_one (v := p.1) (t := p.2) hv
        obtain ⟨t, q1, q2⟩ := tkN_one n _ _ L h
        refine ⟨t, ?_, by rw [q2]; simp; omega⟩
        rw [← q1, rwf_snoc, g1, g2]
        simp [rowV, S, List.append_assoc]
    · cases h
theorem tkL_one {l : List UInt8} {L : List Vr} (h : tkL l = some L) : rgt L = true ∧ l = vbs L ++ l.drop (vbs L).length := by
  unfold tkL at h
  split at h
  · rename_i h1
    cases h2 : tkN (rdU l 0).1 [] (rdU l 0).2.1 with
    | none => rw [h2] at h; cases h
    | some r =>
      rw [h2] at h
      simp only at h
      split at h
      · rename_i hg
        cases h
        refine ⟨hg, ?_⟩
        obtain ⟨t, q1, q2⟩ := tkN_one _ _ _ _ h2
        obtain ⟨-, g⟩ := rdU_one (show rdU l 0 = ((rdU l 0).1, (rdU l 0).2.1, 0) from trip _ h1.1)
        have e : l = vbs L ++ t := by
          rw [vbs_yes hg, q2, List.length_nil, Nat.zero_add, List.append_assoc, ← q1]
          simpa [rwf] using g
        have e2 : l.drop (vbs L).length = t := by
          conv => lhs; rw [e]
          simp
        rw [e2]
        exact e
      · cases h
  · cases h
theorem dTake_rec {s : List UInt8} (hs : s.length ≤ 140737488355328) (w : World) : Calls Try.prog 16 #[.string (S s)] w fun e w' => TkR s e w' ∧ Below w.heap.size w w' := by
  have hk := rdR_k td hs
  have hIs : ∀ r, Is s r → rdR td s = r ∧ (P11 td s).2 = (vbs r.v, 0) ∧ P12 td s = (r.v, true) := fun r h => h.rdd
  have hone := fun (h0 : (P11 td s).2.2 = 0) rest (hr : (P11 td s).2.1 = vbs (rdR td s).v ++ rest) => (once h0 hr).1
  obtain ⟨-, n1, n2, n3, n4, n5, n6, n7, n8, n9, n10, n11⟩ := P_len td s
  have m1 := Nat.le_trans n1 hs; have m2 := Nat.le_trans n2 hs; have m3 := Nat.le_trans n3 hs; have m4 := Nat.le_trans n4 hs; have m5 := Nat.le_trans n5 hs; have m6 := Nat.le_trans n6 hs; have m7 := Nat.le_trans n7 hs; have m8 := Nat.le_trans n8 hs; have m9 := Nat.le_trans n9 hs; have m10 := Nat.le_trans n10 hs; have m11 := Nat.le_trans n11 hs
  have b0 : (P0 s).1 < 256 := by unfold P0; exact rdB_len.2
  have b1 : (P1 s).1 < 256 := by unfold P1; exact rdB_len.2
  have H0 : rdB s 0 = ((P0 s).1, (P0 s).2.1, (P0 s).2.2) := eta3 (P0 s)
  have H1 : rdB (P0 s).2.1 (P0 s).2.2 = ((P1 s).1, (P1 s).2.1, (P1 s).2.2) := eta3 (P1 s)
  have H2 : rdU (P1 s).2.1 (P1 s).2.2 = ((P2 s).1, (P2 s).2.1, (P2 s).2.2) := eta3 (P2 s)
  have H3 : rdU (P2 s).2.1 (P2 s).2.2 = ((P3 s).1, (P3 s).2.1, (P3 s).2.2) := eta3 (P3 s)
  have H4 : rdU (P3 s).2.1 (P3 s).2.2 = ((P4 s).1, (P4 s).2.1, (P4 s).2.2) := eta3 (P4 s)
  have H5 : rdU (P4 s).2.1 (P4 s).2.2 = ((P5 s).1, (P5 s).2.1, (P5 s).2.2) := eta3 (P5 s)
  have H6 : rdU (P5 s).2.1 (P5 s).2.2 = ((P6 s).1, (P6 s).2.1, (P6 s).2.2) := eta3 (P6 s)
  have H7 : rdU (P6 s).2.1 (P6 s).2.2 = ((P7 s).1, (P7 s).2.1, (P7 s).2.2) := eta3 (P7 s)
  have H8 : rdU (P7 s).2.1 (P7 s).2.2 = ((P8 s).1, (P8 s).2.1, (P8 s).2.2) := eta3 (P8 s)
  have H9 : rdT 8192 (P8 s).2.1 (P8 s).2.2 = ((P9 td s).1, (P9 td s).2.1, (P9 td s).2.2) := eta3 (P9 td s)
  have H10 : rdT 8192 (P9 td s).2.1 (P9 td s).2.2 = ((P10 td s).1, (P10 td s).2.1, (P10 td s).2.2) := eta3 (P10 td s)
  have H11 : rdT 32 (P10 td s).2.1 (P10 td s).2.2 = ((P11 td s).1, (P11 td s).2.1, (P11 td s).2.2) := eta3 (P11 td s)
  have hP12 : P12 td s = if (P11 td s).2.2 = 0 then tlR (P11 td s).2.1 else ([], false) := by unfold P12; rfl
  obtain ⟨p, hp⟩ := may_bool (rdR td s)
  have hP : (P11 td s).2 = ((P11 td s).2.1, (P11 td s).2.2) := by generalize P11 td s = q; rfl
  rw [hP] at hIs
  clear hP n1 n2 n3 n4 n5 n6 n7 n8 n9 n10 n11
  unfold rdR at hk hIs hone hp
  generalize (P0 s).1 = u0 at *
  generalize (P0 s).2.1 = l0 at *
  generalize (P0 s).2.2 = e0 at *
  generalize (P1 s).1 = u1 at *
  generalize (P1 s).2.1 = l1 at *
  generalize (P1 s).2.2 = e1 at *
  generalize (P2 s).1 = u2 at *
  generalize (P2 s).2.1 = l2 at *
  generalize (P2 s).2.2 = e2 at *
  generalize (P3 s).1 = u3 at *
  generalize (P3 s).2.1 = l3 at *
  generalize (P3 s).2.2 = e3 at *
  generalize (P4 s).1 = u4 at *
  generalize (P4 s).2.1 = l4 at *
  generalize (P4 s).2.2 = e4 at *
  generalize (P5 s).1 = u5 at *
  generalize (P5 s).2.1 = l5 at *
  generalize (P5 s).2.2 = e5 at *
  generalize (P6 s).1 = u6 at *
  generalize (P6 s).2.1 = l6 at *
  generalize (P6 s).2.2 = e6 at *
  generalize (P7 s).1 = u7 at *
  generalize (P7 s).2.1 = l7 at *
  generalize (P7 s).2.2 = e7 at *
  generalize (P8 s).1 = u8 at *
  generalize (P8 s).2.1 = l8 at *
  generalize (P8 s).2.2 = e8 at *
  generalize (P9 td s).1 = u9 at *
  generalize (P9 td s).2.1 = l9 at *
  generalize (P9 td s).2.2 = e9 at *
  generalize (P10 td s).1 = u10 at *
  generalize (P10 td s).2.1 = l10 at *
  generalize (P10 td s).2.2 = e10 at *
  generalize (P11 td s).1 = u11 at *
  generalize (P11 td s).2.1 = l11 at *
  generalize (P11 td s).2.2 = e11 at *
  generalize P12 td s = v12 at *
  simp only at hk hIs hone hp
  have nope : v12 = ([], false) → ∀ r, ¬ Is s r := fun h r hr => by
    have h2 := (hIs r hr).2.2
    rw [h] at h2
    exact absurd (congrArg Prod.snd h2) (by simp)
  by_cases he : e11 = 0
  · subst he
    rw [if_pos rfl] at hP12
    cases ht : tkL l11 with
    | none =>
      have hv : v12 = ([], false) := hP12.trans (tlR_none ht)
      subst hv
      refine (dtk_no H0 H1 m1 H2 m2 H3 m3 H4 m4 H5 m5 H6 m6 H7 m7 H8 m8 H9 m9 H10 m10 H11 b0 b1 (fun W hd => (dTkv_rest hd m11).mono ?_) p hk hp).mono fun e w' hh => ⟨.inr ⟨nope rfl, hh.1⟩, hh.2⟩
      rintro e w' (⟨a, n, c, L, rest, -, g2, -⟩ | ⟨g1, -, g3⟩)
      · rw [tlR_none ht] at g2; cases g2
      · exact ⟨g1, g3⟩
    | some L =>
      have hv : v12 = (L, true) := hP12.trans (by unfold tlR; rw [ht])
      subst hv
      simp only at hk hIs hone hp
      have hrest : ∃ rest, l11 = vbs L ++ rest := by
        obtain ⟨t1, t2⟩ := tkL_one ht
        exact ⟨_, t2⟩
      obtain ⟨rest, hr⟩ := hrest
      have hV : ∀ W, Rd W (w.heap.size + 1) l11 0 → Calls Try.prog 31 #[.pointer (some ⟨w.heap.size + 1, 0, none⟩)] W fun e w' => ∃ va vl vc, e = .returned (.tuple #[.slice va vl vc, .bool true]) ∧ Vs w' (.slice va vl vc) L ∧ But (w.heap.size + 1) W w' ∧ Rd w' (w.heap.size + 1) rest 0 := fun W hd => (dTkv_rest hd m11).mono fun e w' hh => by
        rcases hh with ⟨a, n, c, L', rest', g1, g2, g3, g4, g5, g6⟩ | ⟨-, g2, -⟩
        · have hL : tlR l11 = (L, true) := by unfold tlR; rw [ht]
          rw [hL] at g2
          cases g2
          have hre : rest' = rest := List.append_cancel_left (g6.symm.trans hr)
          subst hre
          exact ⟨a, n, c, g1, g3, g4, g5⟩
        · have hL : tlR l11 = (L, true) := by unfold tlR; rw [ht]
          rw [hL] at g2
          cases g2
      by_cases hre : rest = []
      · subst hre
        have hsb := hone (by trivial) [] hr
        rw [List.append_nil] at hsb
        cases p with
        | false =>
          refine (dtk_bad H0 H1 m1 H2 m2 H3 m3 H4 m4 H5 m5 H6 m6 H7 m7 H8 m8 H9 m9 H10 m10 H11 b0 b1 hV false hk hp rfl rfl).mono fun e w' hh => ⟨.inr ⟨fun r hi => ?_, hh.1⟩, hh.2⟩
          have h1 := (hIs r hi).1
          subst h1
          have := hp.2 hi.may
          cases this
        | true =>
          refine (dtk_ok H0 H1 m1 H2 m2 H3 m3 H4 m4 H5 m5 H6 m6 H7 m7 H8 m8 H9 m9 H10 m10 H11 b0 b1 hV true hk hp rfl rfl).mono fun e w' hh => ?_
          obtain ⟨va, vl, vc, g1, g2, g3⟩ := hh
          exact ⟨.inl ⟨_, va, vl, vc, ⟨hp.1 rfl, hk, hsb.symm⟩, g1, g2⟩, g3⟩
      · refine (dtk_rest H0 H1 m1 H2 m2 H3 m3 H4 m4 H5 m5 H6 m6 H7 m7 H8 m8 H9 m9 H10 m10 H11 b0 b1 hV p hk hp hre).mono fun e w' hh => ⟨.inr ⟨fun r hi => ?_, hh.1⟩, hh.2⟩
        have h1 := hIs r hi
        have h2 : l11 = vbs r.v := congrArg Prod.fst h1.2.1
        have h3 : L = r.v := congrArg Prod.fst h1.2.2
        rw [← h3] at h2
        exact hre (vbs_rest (h2.symm.trans hr))
  · rw [if_neg he] at hP12
    subst hP12
    exact (dtk_no H0 H1 m1 H2 m2 H3 m3 H4 m4 H5 m5 H6 m6 H7 m7 H8 m8 H9 m9 H10 m10 H11 b0 b1 (fun W hd => dTkv_wrong hd he m11) p hk hp).mono fun e w' hh => ⟨.inr ⟨nope rfl, hh.1⟩, hh.2⟩
end Go.Proofs.Ytippnkendoghpaa.r12

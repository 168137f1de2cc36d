/-
  A log and its disk stay tied, whatever is appended and flushed.
-/
import Derived.Test.YteifkkceldlfnaaGreatDoorG6Bk
namespace Go.Proofs.YteifkkceldlfnaaGreatDoor
open Go.RowKit Go.Shelf Go.Sort
open Go.Lib hiding intOf

section
variable {pre : ByteArray} {fs : List Fil} {xs : List Sg} {s : Sg} {sure : Nat} {ends : List Nat}
theorem Bk.mono (h : Bk pre fs xs s sure ends) {ends' : List Nat} (he : ∀ m ∈ ends, m ∈ ends') : Bk pre fs xs s sure ends' := by
  obtain ⟨bs, j, h1, h2, h3, h4, h5⟩ := h.last
  exact ⟨h.rise, h.only, h.old, ⟨bs, j, h1, h2, h3, h4, fun i hi => by obtain ⟨m, hm, e⟩ := h5 i hi; exact ⟨m, he m hm, e⟩⟩, h.ne⟩
theorem Sgb.one {n : Nat} {l : List (List UInt8)} (hb : isB l = true) (hl : (lod n l).length ≤ 65536) (hn : n + l.length ≤ 1099511627777) : Sgb ⟨n, l, (bfr n l).length⟩ [l] :=
  ⟨by simp, ⟨hb, hl, hn, trivial⟩, by simp, by simp [bby]⟩
theorem isB_pos {l : List (List UInt8)} (hb : isB l = true) : 1 ≤ l.length := by
  unfold isB at hb
  simp only [Bool.and_eq_true, decide_eq_true_eq] at hb
  exact hb.1.1
/-- a segment's first batch -/
theorem Last.one {n : Nat} {l : List (List UInt8)} (hb : isB l = true) (hl : (lod n l).length ≤ 65536) (hn : n + l.length ≤ 1099511627777) (hm : (nam pre n, ((⟨#[]⟩ : ByteArray), S (bfr n l))) ∈ fs) {m : Nat} (hme : m ∈ ends) (he : n = m + 1) : Last pre fs ⟨n, l, (bfr n l).length⟩ n (ends ++ [n + l.length - 1]) := by
  refine ⟨[l], 0, Sgb.one hb hl hn, Nat.zero_le _, ?_, by simp [nxt], fun i hi => ?_⟩
  · have e1 : S (bby n (List.take 0 [l])) = ⟨#[]⟩ := rfl
    have e2 : bby (nxt n [l] 0) (List.drop 0 [l]) = bfr n l := by simp [nxt, bby]
    show (nam pre n, (S (bby n (List.take 0 [l])), S (bby (nxt n [l] 0) (List.drop 0 [l])))) ∈ fs
    rw [e1, e2]
    exact hm
  · have := isB_pos hb
    simp only [List.length_singleton] at hi
    rcases Nat.eq_zero_or_pos i with rfl | h0
    · exact ⟨m, List.mem_append_left _ hme, by simp [nxt]; omega⟩
    · obtain rfl : i = 1 := by omega
      refine ⟨n + l.length - 1, by simp, ?_⟩
      simp [nxt]
      omega
/-- a new segment behind one that is whole -/
theorem Bk.begun (h : Bk pre fs xs s sure ends) (hw : Whole pre fs s) {l : List (List UInt8)} (hb : isB l = true) (hl : (lod s.next l).length ≤ 65536) (hn : s.next + l.length ≤ 1099511627777) (hne : ∀ x ∈ xs ++ [s], x.first ≠ s.next) : has fs (nam pre s.next) = false ∧ Bk pre (put fs (nam pre s.next) (⟨#[]⟩, ⟨#[]⟩ ++ S (bfr s.next l))) (xs ++ [s]) ⟨s.next, l, (bfr s.next l).length⟩ s.next (ends ++ [s.next + l.length - 1]) := by
  have e0 : (⟨#[]⟩ : ByteArray) ++ S (bfr s.next l) = S (bfr s.next l) := by
    apply ByteArray.ext
    simp [S]
  rw [e0]
  obtain ⟨bs, j, h1, h2, h3, h4, h5⟩ := h.last
  obtain ⟨m, hm, e⟩ := h5 bs.length (Nat.le_refl _)
  have en : s.next = m + 1 := by
    rw [← e, nxt_all]
    unfold Sg.next
    rw [h1.recs]
  refine ⟨?_, put_rise h.rise _ _, fun e he => ?_, fun x hx => ?_, Last.one hb hl hn ((mem_put h.rise _ _ _).2 (.inl rfl)) hm en, hne⟩
  · cases hc : has fs (nam pre s.next) with
    | false => rfl
    | true =>
      obtain ⟨v, hv⟩ := has_mem hc
      obtain ⟨x, hx, e⟩ := h.only _ hv
      exact absurd (nam_inj e).symm (hne x hx)
  · rcases (mem_put h.rise _ _ e).1 he with rfl | ⟨he, -⟩
    · exact ⟨_, List.mem_append_right _ (List.mem_singleton.2 rfl), rfl⟩
    · obtain ⟨x, hx, e2⟩ := h.only e he
      exact ⟨x, List.mem_append_left _ hx, e2⟩
  · have hk : nam pre x.first ≠ nam pre s.next := fun e => hne x hx (nam_inj e)
    rcases List.mem_append.1 hx with hx | hx
    · exact (h.old x hx).put h.rise hk _
    · rw [List.mem_singleton.1 hx] at hk ⊢
      exact hw.put h.rise hk _
end
/-- log and disk are tied -/
def Bg (lg : Lg) (fs : List Fil) (ends : List Nat) : Prop :=
  (lg.segs = [] ∧ fs = [] ∧ lg.next = 1 ∧ lg.sure = 1 ∧ 0 ∈ ends) ∨ ∃ xs s, lg.segs = xs ++ [s] ∧ Bk lg.pre fs xs s lg.sure ends ∧ s.next = lg.next
theorem Bg.mono {lg : Lg} {fs : List Fil} {ends ends' : List Nat} (h : Bg lg fs ends) (he : ∀ m ∈ ends, m ∈ ends') : Bg lg fs ends' := by
  rcases h with ⟨h1, h2, h3, h4, h5⟩ | ⟨xs, s, h1, h2, h3⟩
  · exact .inl ⟨h1, h2, h3, h4, he 0 h5⟩
  · exact .inr ⟨xs, s, h1, h2.mono he, h3⟩
theorem stepA_or (no : Int) (fs' : List Fil) (st : Ab) : (stepA no fs' st).2.1 = st.1 ∧ (stepA no fs' st).1 ≠ 0 ∨ (stepA no fs' st).2.1 = fs' ∧ (stepA no fs' st).1 = 0 ∧ no = 0 := by
  unfold stepA
  by_cases h : no ≠ 0
  · rw [if_pos h]
    exact .inl ⟨rfl, h⟩
  · rw [if_neg h]
    split
    · exact .inr ⟨rfl, rfl, by omega⟩
    · exact .inl ⟨rfl, by show (7 : Int) ≠ 0; decide⟩
theorem sync_or (st : Ab) (k : ByteArray) : (aSync st k).2.1 = st.1 ∧ (aSync st k).1 ≠ 0 ∨ (aSync st k).2.1 = put st.1 k ((gv st.1 k).1 ++ (gv st.1 k).2, ⟨#[]⟩) ∧ (aSync st k).1 = 0 :=
  (stepA_or _ _ st).imp id (fun h => ⟨h.1, h.2.1⟩)
theorem app_or (st : Ab) (k b : ByteArray) : (aApp st k b).2.1 = st.1 ∧ (aApp st k b).1 ≠ 0 ∨ (aApp st k b).2.1 = put st.1 k ((getv st.1 k).1, (getv st.1 k).2 ++ b) ∧ (aApp st k b).1 = 0 :=
  (stepA_or _ _ st).imp id (fun h => ⟨h.1, h.2.1⟩)
theorem Bg.flush {lg : Lg} {st : Ab} {ends : List Nat} (h : Bg lg st.1 ends) : Bg (gFlush lg st).2.1 (gFlush lg st).2.2.1 ends := by
  unfold gFlush
  by_cases h0 : lg.sure = lg.next
  · rw [if_pos h0]; exact h
  rw [if_neg h0]
  rcases h with ⟨h1, h2, h3, h4, h5⟩ | ⟨xs, s, h1, h2, h3⟩
  · omega
  · have hl : lg.segs.getLast? = some s := by rw [h1]; simp
    rw [hl]
    simp only
    rcases sync_or st (nam lg.pre s.first) with ⟨e1, e2⟩ | ⟨e1, e2⟩
    · rw [if_pos e2]
      simp only
      rw [e1]
      exact .inr ⟨xs, s, h1, h2, h3⟩
    · rw [if_neg (fun h => h e2)]
      simp only
      rw [e1]
      refine .inr ⟨xs, s, h1, ?_, h3⟩
      have := h2.synced.1
      rw [h3] at this
      exact this
theorem Sgb.pos {s : Sg} {bs : List (List (List UInt8))} (h : Sgb s bs) : 1 ≤ s.recs.length := by
  rw [h.recs]
  cases bs with
  | nil => exact absurd rfl h.ne
  | cons b t =>
    have := isB_pos h.ok.1
    rw [List.flatten_cons, List.length_append]
    omega
theorem Bk.firsts {pre : ByteArray} {fs : List Fil} {xs : List Sg} {s : Sg} {sure : Nat} {ends : List Nat} {n : Nat} (h : Bk pre fs xs s sure ends) (hc : Cn (xs ++ [s]) n) : ∀ x ∈ xs ++ [s], x.first ≠ n := fun x hx => by
  have h1 := hc.le x hx
  have h2 : 1 ≤ x.recs.length := by
    rcases List.mem_append.1 hx with hx | hx
    · obtain ⟨cs, h2, -⟩ := h.old x hx
      exact h2.pos
    · obtain ⟨bs, _, h2, _⟩ := h.last
      rw [List.mem_singleton.1 hx]
      exact h2.pos
  unfold Sg.next at h1
  omega
theorem gNo_ok {lg : Lg} {l : List (List UInt8)} (h : gNo lg l = 0) : isB l = true ∧ (lod lg.next l).length ≤ 65536 ∧ lg.next + l.length ≤ 1099511627777 := by
  unfold gNo at h
  cases hb : isB l with
  | false => rw [hb] at h; simp at h
  | true =>
    rw [hb] at h
    simp only [Bool.true_eq_false, if_false] at h
    by_cases h1 : 1099511627777 < lg.next + l.length
    · rw [if_pos h1] at h; cases h
    · rw [if_neg h1] at h
      by_cases h2 : 65536 < (lod lg.next l).length
      · rw [if_pos h2] at h; cases h
      · exact ⟨rfl, by omega, by omega⟩
theorem Bg.append {lg : Lg} {st : Ab} {ends : List Nat} (h : Bg lg st.1 ends) (ok : Ok lg) (l : List (List UInt8)) : Bg (gAppend lg st l).2.1 (gAppend lg st l).2.2.1 (ends ++ [lg.next + l.length - 1]) := by
  have hmo : ∀ m ∈ ends, m ∈ ends ++ [lg.next + l.length - 1] := fun m hm => List.mem_append_left _ hm
  by_cases h0 : gNo lg l = 0
  · obtain ⟨b1, b2, b3⟩ := gNo_ok h0
    rcases h with ⟨h1, h2, h3, h4, h5⟩ | ⟨xs, s, h1, h2, h3⟩
    · have hg : gRoom lg st = (0, none, lg, st) := by unfold gRoom; rw [h1]; rfl
      have r1 : (gRoom lg st).1 = 0 := by rw [hg]
      rcases app_or (gRoom lg st).2.2.2 (gName lg.pre (gRoom lg st).2.1 lg.next) (S (bfr lg.next l)) with ⟨e1, e2⟩ | ⟨e1, e2⟩
      · rw [gApp_bad h0 r1 e2]
        simp only
        rw [e1, hg]
        exact .inl ⟨h1, h2, h3, h4, hmo 0 h5⟩
      · rw [gApp_ok h0 r1 e2]
        simp only
        rw [e1, hg]
        simp only [gName, segsPut]
        refine .inr ⟨[], ⟨lg.next, l, (bfr lg.next l).length⟩, by rw [h1], ?_, rfl⟩
        rw [h2]
        have e3 : getv [] (nam lg.pre lg.next) = (⟨#[]⟩, ⟨#[]⟩) := rfl
        have e4 : (⟨#[]⟩ : ByteArray) ++ S (bfr lg.next l) = S (bfr lg.next l) := by
          apply ByteArray.ext
          simp [S]
        rw [e3]
        simp only
        rw [e4]
        have hr0 : Rise ([] : List Fil) := List.Pairwise.nil
        refine ⟨put_rise hr0 _ _, fun e he => ?_, fun x hx => (by cases hx), ?_, fun x hx => (by cases hx)⟩
        · rcases (mem_put hr0 _ _ e).1 he with rfl | ⟨he, -⟩
          · exact ⟨_, List.mem_singleton.2 rfl, rfl⟩
          · cases he
        · have := Last.one (pre := lg.pre) (ends := ends) b1 b2 b3 ((mem_put hr0 (nam lg.pre lg.next) ((⟨#[]⟩ : ByteArray), S (bfr lg.next l)) _).2 (.inl rfl)) h5 (by omega)
          show Last _ _ _ lg.sure _
          rw [h4]
          rw [h3] at this ⊢
          exact this
    · have hl : lg.segs.getLast? = some s := by rw [h1]; simp
      by_cases hsz : s.size < lg.sz
      · have hg : gRoom lg st = (0, some s, lg, st) := by unfold gRoom; rw [hl]; simp only; rw [if_pos hsz]
        have r1 : (gRoom lg st).1 = 0 := by rw [hg]
        rcases app_or (gRoom lg st).2.2.2 (gName lg.pre (gRoom lg st).2.1 lg.next) (S (bfr lg.next l)) with ⟨e1, e2⟩ | ⟨e1, e2⟩
        · rw [gApp_bad h0 r1 e2]
          simp only
          rw [e1, hg]
          exact .inr ⟨xs, s, h1, h2.mono hmo, h3⟩
        · rw [gApp_ok h0 r1 e2]
          simp only
          rw [e1, hg]
          simp only [gName, segsPut]
          obtain ⟨_, _, _, _, _, hh, _⟩ := h2.gv
          have e3 : getv st.1 (nam lg.pre s.first) = gv st.1 (nam lg.pre s.first) := by unfold getv; rw [if_pos hh]
          rw [e3]
          refine .inr ⟨xs, s.more l (bfr lg.next l).length, by rw [h1]; simp, ?_, ?_⟩
          · have := h2.more (l := l) b1 (by rw [h3]; exact b2) (by rw [h3]; exact b3)
            rw [h3] at this
            exact this
          · show s.first + (s.recs ++ l).length = lg.next + l.length
            rw [← h3]
            unfold Sg.next
            rw [List.length_append]
            omega
      · rcases sync_or st (nam lg.pre s.first) with ⟨s1, s2⟩ | ⟨s1, s2⟩
        · have hg : gRoom lg st = ((aSync st (nam lg.pre s.first)).1, none, lg, (aSync st (nam lg.pre s.first)).2) := by unfold gRoom; rw [hl]; simp only; rw [if_neg hsz, if_pos s2]
          rw [gApp_room h0 (by rw [hg]; exact s2)]
          simp only
          rw [hg]
          simp only
          rw [s1]
          exact .inr ⟨xs, s, h1, h2.mono hmo, h3⟩
        · have hg : gRoom lg st = (0, none, { lg with sure := lg.next }, (aSync st (nam lg.pre s.first)).2) := by unfold gRoom; rw [hl]; simp only; rw [if_neg hsz, if_neg (fun h => h s2)]
          have r1 : (gRoom lg st).1 = 0 := by rw [hg]
          obtain ⟨y1, y2⟩ := h2.synced
          rw [← s1] at y1 y2
          rcases app_or (gRoom lg st).2.2.2 (gName lg.pre (gRoom lg st).2.1 lg.next) (S (bfr lg.next l)) with ⟨e1, e2⟩ | ⟨e1, e2⟩
          · rw [gApp_bad h0 r1 e2]
            simp only
            rw [e1, hg]
            rw [h3] at y1
            exact .inr ⟨xs, s, h1, y1.mono hmo, h3⟩
          · rw [gApp_ok h0 r1 e2]
            simp only
            rw [e1, hg]
            simp only [gName, segsPut]
            have hc := ok.cn
            rw [h1] at hc
            obtain ⟨z1, z2⟩ := y1.begun y2 (l := l) b1 (by rw [h3]; exact b2) (by rw [h3]; exact b3) (by rw [h3]; exact y1.firsts hc)
            rw [h3] at z1 z2
            have e3 : getv (aSync st (nam lg.pre s.first)).2.1 (nam lg.pre lg.next) = (⟨#[]⟩, ⟨#[]⟩) := by unfold getv; rw [z1]; rfl
            rw [e3]
            exact .inr ⟨xs ++ [s], _, by rw [h1], z2, rfl⟩
  · rw [gApp_no h0]
    exact h.mono hmo
end Go.Proofs.YteifkkceldlfnaaGreatDoor

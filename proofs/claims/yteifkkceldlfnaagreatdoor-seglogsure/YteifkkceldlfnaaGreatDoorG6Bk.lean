/-
  A log and its disk: which bytes of which batches lie in which files, and which of them are safe.
-/
import Derived.Test.YteifkkceldlfnaaGreatDoorG6Bat
import Derived.Test.YteifkkceldlfnaaGreatDoorG6Pn
namespace Go.Proofs.YteifkkceldlfnaaGreatDoor
open Go.RowKit Go.Shelf Go.Sort
open Go.Lib hiding intOf

/-- the segment has these batches -/
structure Sgb (s : Sg) (bs : List (List (List UInt8))) : Prop where
  ne : bs ≠ []
  ok : BOk s.first bs
  recs : s.recs = bs.flatten
  size : s.size = (bby s.first bs).length
/-- the position behind the first j batches -/
def nxt (n : Nat) (bs : List (List (List UInt8))) (j : Nat) : Nat := n + (bs.take j).flatten.length
theorem bby_cut (n : Nat) (bs : List (List (List UInt8))) (j : Nat) : bby n (bs.take j) ++ bby (nxt n bs j) (bs.drop j) = bby n bs := by
  unfold nxt
  rw [← bby_append, List.take_append_drop]
theorem S_app (a b : List UInt8) : S a ++ S b = S (a ++ b) := by
  apply ByteArray.ext
  simp [S]
/-- the file of a segment that is whole and safe -/
def Whole (pre : ByteArray) (fs : List Fil) (x : Sg) : Prop := ∃ cs, Sgb x cs ∧ (nam pre x.first, (S (bby x.first cs), (⟨#[]⟩ : ByteArray))) ∈ fs
/-- the file of the last segment: its first j batches are safe -/
def Last (pre : ByteArray) (fs : List Fil) (s : Sg) (sure : Nat) (ends : List Nat) : Prop :=
  ∃ bs j, Sgb s bs ∧ j ≤ bs.length ∧ (nam pre s.first, (S (bby s.first (bs.take j)), S (bby (nxt s.first bs j) (bs.drop j)))) ∈ fs ∧ sure = nxt s.first bs j ∧ ∀ i, i ≤ bs.length → ∃ m ∈ ends, nxt s.first bs i = m + 1
structure Bk (pre : ByteArray) (fs : List Fil) (xs : List Sg) (s : Sg) (sure : Nat) (ends : List Nat) : Prop where
  rise : Rise fs
  only : ∀ e ∈ fs, ∃ x ∈ xs ++ [s], e.1 = nam pre x.first
  old : ∀ x ∈ xs, Whole pre fs x
  last : Last pre fs s sure ends
  ne : ∀ x ∈ xs, x.first ≠ s.first
section
variable {pre : ByteArray} {fs : List Fil} {xs : List Sg} {s : Sg} {sure : Nat} {ends : List Nat}
theorem Whole.put {x : Sg} (h : Whole pre fs x) (hr : Rise fs) {k : ByteArray} (hk : nam pre x.first ≠ k) (v : ByteArray × ByteArray) : Whole pre (put fs k v) x := by
  obtain ⟨cs, h1, h2⟩ := h
  exact ⟨cs, h1, (mem_put hr k v _).2 (.inr ⟨h2, hk⟩)⟩
theorem Bk.only_put (h : Bk pre fs xs s sure ends) (v : ByteArray × ByteArray) : ∀ e ∈ put fs (nam pre s.first) v, ∃ x ∈ xs ++ [s], e.1 = nam pre x.first := fun e he => by
  rcases (mem_put h.rise _ v e).1 he with rfl | ⟨he, -⟩
  · exact ⟨s, by simp, rfl⟩
  · exact h.only e he
theorem Bk.gv (h : Bk pre fs xs s sure ends) : ∃ bs j, Sgb s bs ∧ j ≤ bs.length ∧ Go.Proofs.YteifkkceldlfnaaGreatDoor.gv fs (nam pre s.first) = (S (bby s.first (bs.take j)), S (bby (nxt s.first bs j) (bs.drop j))) ∧ has fs (nam pre s.first) = true ∧ sure = nxt s.first bs j ∧ ∀ i, i ≤ bs.length → ∃ m ∈ ends, nxt s.first bs i = m + 1 := by
  obtain ⟨bs, j, h1, h2, h3, h4, h5⟩ := h.last
  exact ⟨bs, j, h1, h2, gv_mem h.rise h3, mem_has h.rise h3, h4, h5⟩
theorem nxt_all (n : Nat) (bs : List (List (List UInt8))) : nxt n bs bs.length = n + bs.flatten.length := by
  unfold nxt
  rw [List.take_length]
/-- synced: all is safe -/
theorem Bk.synced (h : Bk pre fs xs s sure ends) : Bk pre (put fs (nam pre s.first) ((Go.Proofs.YteifkkceldlfnaaGreatDoor.gv fs (nam pre s.first)).1 ++ (Go.Proofs.YteifkkceldlfnaaGreatDoor.gv fs (nam pre s.first)).2, ⟨#[]⟩)) xs s s.next ends ∧ Whole pre (put fs (nam pre s.first) ((Go.Proofs.YteifkkceldlfnaaGreatDoor.gv fs (nam pre s.first)).1 ++ (Go.Proofs.YteifkkceldlfnaaGreatDoor.gv fs (nam pre s.first)).2, ⟨#[]⟩)) s := by
  obtain ⟨bs, j, h1, h2, h3, h4, h5, h6⟩ := h.gv
  rw [h3]
  simp only
  rw [S_app, bby_cut]
  have hm : (nam pre s.first, (S (bby s.first bs), (⟨#[]⟩ : ByteArray))) ∈ put fs (nam pre s.first) (S (bby s.first bs), ⟨#[]⟩) := (mem_put h.rise _ _ _).2 (.inl rfl)
  refine ⟨⟨put_rise h.rise _ _, h.only_put _, fun x hx => (h.old x hx).put h.rise (fun e => h.ne x hx (nam_inj e)) _, ⟨bs, bs.length, h1, Nat.le_refl _, ?_, ?_, h6⟩, h.ne⟩, ⟨bs, h1, hm⟩⟩
  · rw [List.take_length, List.drop_length]
    exact hm
  · rw [nxt_all]
    unfold Sg.next
    rw [h1.recs]
/-- a batch behind the last one's -/
theorem Bk.more (h : Bk pre fs xs s sure ends) {l : List (List UInt8)} (hb : isB l = true) (hl : (lod s.next l).length ≤ 65536) (hn : s.next + l.length ≤ 1099511627777) : Bk pre (put fs (nam pre s.first) ((Go.Proofs.YteifkkceldlfnaaGreatDoor.gv fs (nam pre s.first)).1, (Go.Proofs.YteifkkceldlfnaaGreatDoor.gv fs (nam pre s.first)).2 ++ S (bfr s.next l))) xs (s.more l (bfr s.next l).length) sure (ends ++ [s.next + l.length - 1]) := by
  obtain ⟨bs, j, h1, h2, h3, h4, h5, h6⟩ := h.gv
  rw [h3]
  simp only
  have en : s.next = s.first + bs.flatten.length := by unfold Sg.next; rw [h1.recs]
  have e0 : (bs ++ [l]).take j = bs.take j := List.take_append_of_le_length h2
  have e1 : nxt s.first (bs ++ [l]) j = nxt s.first bs j := by unfold nxt; rw [e0]
  have e2 : bby (nxt s.first bs j) (bs.drop j) ++ bfr s.next l = bby (nxt s.first bs j) ((bs ++ [l]).drop j) := by
    rw [List.drop_append_of_le_length h2, bby_append]
    have : nxt s.first bs j + (bs.drop j).flatten.length = s.next := by
      unfold nxt
      rw [en]
      have := congrArg (fun z => z.flatten.length) (List.take_append_drop j bs)
      simp only [List.flatten_append, List.length_append] at this
      omega
    rw [this]
    simp [bby]
  have f0 : (s.more l (bfr s.next l).length).first = s.first := rfl
  rw [S_app, e2]
  refine ⟨put_rise h.rise _ _, fun e he => ?_, fun x hx => (h.old x hx).put h.rise (fun e => h.ne x hx (nam_inj e)) _, ⟨bs ++ [l], j, ⟨by simp, ?_, ?_, ?_⟩, by simp; omega, ?_, ?_, fun i hi => ?_⟩, h.ne⟩
  · obtain ⟨x, hx, e⟩ := h.only_put _ e he
    rcases List.mem_append.1 hx with hx | hx
    · exact ⟨x, List.mem_append_left _ hx, e⟩
    · rw [List.mem_singleton.1 hx] at e
      exact ⟨_, List.mem_append_right _ (List.mem_singleton.2 rfl), e⟩
  · rw [f0]
    refine h1.ok.append ?_
    rw [← en]
    exact ⟨hb, hl, hn, trivial⟩
  · show s.recs ++ l = _
    rw [h1.recs]
    simp
  · show s.size + (bfr s.next l).length = (bby s.first (bs ++ [l])).length
    rw [bby_append, List.length_append, ← en, h1.size]
    simp [bby]
  · rw [f0, e0, e1]
    exact (mem_put h.rise _ _ _).2 (.inl rfl)
  · rw [f0, e1]
    exact h5
  · rw [f0]
    rw [List.length_append, List.length_singleton] at hi
    by_cases hj : i ≤ bs.length
    · obtain ⟨m, hm, e⟩ := h6 i hj
      refine ⟨m, List.mem_append_left _ hm, ?_⟩
      rw [← e]
      unfold nxt
      rw [List.take_append_of_le_length hj]
    · obtain rfl : i = (bs ++ [l]).length := by simp; omega
      have hl1 : 1 ≤ l.length := by
        unfold isB at hb
        simp only [Bool.and_eq_true, decide_eq_true_eq] at hb
        exact hb.1.1
      refine ⟨s.next + l.length - 1, by simp, ?_⟩
      rw [nxt_all, en]
      simp
      omega
end
end Go.Proofs.YteifkkceldlfnaaGreatDoor

/-
  The names of segments differ; each segment's file is on the disk; so Drop is not refused.
-/
import Derived.Test.YteifkkceldlfnaaGreatDoorG6DropP
namespace Go.Proofs.YteifkkceldlfnaaGreatDoor
open Go.RowKit Go.Shelf Go.Sort
open Go.Lib hiding intOf

def valF (a : Nat) (c : UInt8) : Nat := a * 10 + (c.toNat - 48)
theorem valF_dec (n : Nat) : (Lib.decDigits n).foldl valF 0 = n := by
  induction n using Nat.strongRecOn with
  | _ n ih =>
    rw [Lib.decDigits]
    split
    · rename_i h
      simp [valF]
      omega
    · rename_i h
      rw [List.foldl_append, ih (n / 10) (by omega)]
      simp [valF]
      omega
theorem valF_zeros : ∀ k, (List.replicate k (48 : UInt8)).foldl valF 0 = 0
  | 0 => rfl
  | k + 1 => by
    rw [List.replicate_succ, List.foldl_cons]
    exact valF_zeros k
theorem dgs_val (n : Nat) : (dgs n).foldl valF 0 = n := by
  unfold dgs
  rw [List.foldl_append, valF_zeros, valF_dec]
theorem nam_inj {pre : ByteArray} {a b : Nat} (h : nam pre a = nam pre b) : a = b := by
  have h1 := congrArg (fun s : ByteArray => s.data.toList) h
  unfold nam at h1
  simp only [ByteArray.data_append, Array.toList_append, S_list, List.append_cancel_left_eq, List.cons.injEq, true_and] at h1
  have h2 := congrArg (List.foldl valF 0) h1
  rwa [dgs_val, dgs_val] at h2
/-- the disk is on, has power, and each segment's file -/
structure Hv (pre : ByteArray) (segs : List Sg) (st : Ab) : Prop where
  pw : st.2 = (-1, false)
  rise : Rise st.1
  files : ∀ s ∈ segs, has st.1 (nam pre s.first) = true
theorem put_has {V : Type} {es : List (ByteArray × V)} (hs : Rise es) {k k' : ByteArray} {v : V} (h : has es k' = true ∨ k' = k) : has (put es k v) k' = true := by
  rw [has_iff (put_rise hs k v)]
  by_cases e : k' = k
  · exact ⟨v, (mem_put hs k v _).2 (.inl (by rw [e]))⟩
  · obtain ⟨u, hu⟩ := has_mem (h.resolve_right e)
    exact ⟨u, (mem_put hs k v _).2 (.inr ⟨hu, e⟩)⟩
theorem del_has {V : Type} {es : List (ByteArray × V)} (hs : Rise es) {k k' : ByteArray} (h : has es k' = true) (e : k' ≠ k) : has (del es k) k' = true := by
  rw [has_iff (del_rise hs k)]
  obtain ⟨u, hu⟩ := has_mem h
  exact ⟨u, (mem_del hs k _).2 ⟨hu, e⟩⟩
variable {pre : ByteArray} {segs r : List Sg} {st : Ab} {lg : Lg} {l : List (List UInt8)} {s : Sg}
theorem Hv.step (h : Hv pre segs st) {no : Int} {fs' : List Fil} (hr : Rise fs') (hf : ∀ k, has st.1 k = true → has fs' k = true) : Hv pre segs (stepA no fs' st).2 ∧ ((stepA no fs' st).1 = 0 → (stepA no fs' st).2.1 = fs') ∧ (no = 0 → (stepA no fs' st).1 = 0) := by
  obtain ⟨fs, p, off⟩ := st
  obtain ⟨pw, rise, files⟩ := h
  obtain ⟨rfl, rfl⟩ : p = -1 ∧ off = false := by simpa using pw
  by_cases h0 : no = 0
  · subst h0
    rw [stepA_ok (by decide)]
    exact ⟨⟨rfl, hr, fun s hs => hf _ (files s hs)⟩, fun _ => rfl, fun _ => rfl⟩
  · rw [stepA_no h0]
    exact ⟨⟨rfl, rise, files⟩, fun e => absurd e h0, fun e => absurd e h0⟩
theorem Hv.sync (h : Hv pre segs st) (k : ByteArray) : Hv pre segs (aSync st k).2 := (h.step (put_rise h.rise _ _) (fun _ hk => put_has h.rise (.inl hk))).1
theorem Hv.app (h : Hv pre segs st) (k s : ByteArray) : Hv pre segs (aApp st k s).2 ∧ ((aApp st k s).1 = 0 → has (aApp st k s).2.1 k = true) := by
  obtain ⟨h1, h2, -⟩ := h.step (no := appNo st k s) (put_rise h.rise k ((getv st.1 k).1, (getv st.1 k).2 ++ s)) (fun _ hk => put_has h.rise (.inl hk))
  exact ⟨h1, fun e => by
    have e2 := h2 e
    unfold aApp
    rw [e2]
    exact put_has h.rise (.inr rfl)⟩
theorem Hv.del (h : Hv pre (s :: r) st) (hd : ∀ t ∈ r, t.first ≠ s.first) : (aDel st (nam pre s.first)).1 = 0 ∧ Hv pre r (aDel st (nam pre s.first)).2 := by
  obtain ⟨fs, p, off⟩ := st
  obtain ⟨pw, rise, files⟩ := h
  obtain ⟨rfl, rfl⟩ : p = -1 ∧ off = false := by simpa using pw
  have hh := files s (List.mem_cons_self ..)
  unfold aDel noOf
  simp only at hh
  simp only [hh, Bool.false_eq_true, if_false, if_true]
  rw [stepA_ok (by decide)]
  exact ⟨rfl, rfl, del_rise rise _, fun t ht => del_has rise (files t (List.mem_cons_of_mem _ ht)) (fun e => hd t ht (nam_inj e))⟩
theorem Cn.firsts {n : Nat} (h : Cn (s :: r) n) : ∀ t ∈ r, t.first ≠ s.first := by
  cases r with
  | nil => intro t ht; cases ht
  | cons u q =>
    intro t ht e
    have h1 := h.1
    have h2 : 0 < s.recs.length := List.length_pos_iff.2 h.2.1
    have h3 := (Cn.first_le h.2.2 u q rfl t ht).1
    unfold Sg.next at h1
    omega
theorem dropS_hv (below : Nat) : ∀ {segs : List Sg} {st : Ab} {n : Nat}, Cn segs n → Hv pre segs st → (dropS pre below segs st).1 = 0 ∧ Hv pre (dropS pre below segs st).2.1 (dropS pre below segs st).2.2
  | [], _, _, _, h => ⟨rfl, h⟩
  | [_], _, _, _, h => ⟨rfl, h⟩
  | s :: t :: r, st, n, hc, h => by
    unfold dropS
    by_cases h1 : s.next ≤ below
    · rw [if_pos h1]
      obtain ⟨h2, h3⟩ := h.del hc.firsts
      rw [if_neg (by simpa using h2)]
      exact dropS_hv below hc.tail h3
    · rw [if_neg h1]
      exact ⟨rfl, h⟩
theorem gDrop_hv (ok : Ok lg) (h : Hv lg.pre lg.segs st) (below : Nat) : (gDrop lg st below).1 = 0 ∧ Hv (gDrop lg st below).2.1.pre (gDrop lg st below).2.1.segs (gDrop lg st below).2.2 := dropS_hv below ok.cn h
theorem gRoom_hv (h : Hv lg.pre lg.segs st) : (gRoom lg st).2.2.1.pre = lg.pre ∧ (gRoom lg st).2.2.1.segs = lg.segs ∧ Hv lg.pre lg.segs (gRoom lg st).2.2.2 ∧ ∀ s, (gRoom lg st).2.1 = some s → s ∈ lg.segs := by
  unfold gRoom
  cases hl : lg.segs.getLast? with
  | none => exact ⟨rfl, rfl, h, fun s e => by cases e⟩
  | some s =>
    have hm := List.mem_of_getLast? hl
    simp only
    split
    · exact ⟨rfl, rfl, h, fun x e => by cases e; exact hm⟩
    · split
      · exact ⟨rfl, rfl, h.sync _, fun x e => by cases e⟩
      · exact ⟨rfl, rfl, h.sync _, fun x e => by cases e⟩
theorem gAppend_hv (h : Hv lg.pre lg.segs st) : Hv (gAppend lg st l).2.1.pre (gAppend lg st l).2.1.segs (gAppend lg st l).2.2 := by
  obtain ⟨r1, r2, r3, r4⟩ := gRoom_hv h
  by_cases h0 : gNo lg l = 0
  · by_cases h1 : (gRoom lg st).1 = 0
    · obtain ⟨a1, a2⟩ := r3.app (gName lg.pre (gRoom lg st).2.1 lg.next) (S (bfr lg.next l))
      by_cases h2 : (aApp (gRoom lg st).2.2.2 (gName lg.pre (gRoom lg st).2.1 lg.next) (S (bfr lg.next l))).1 = 0
      · rw [gApp_ok h0 h1 h2]
        simp only
        rw [r1]
        refine ⟨a1.pw, a1.rise, fun x hx => ?_⟩
        have a3 := a2 h2
        cases ho : (gRoom lg st).2.1 with
        | none =>
          rw [ho] at hx a3 a1
          unfold segsPut at hx
          rcases List.mem_append.1 hx with hx | hx
          · exact a1.files x hx
          · rcases List.mem_singleton.1 hx with rfl
            exact a3
        | some s =>
          rw [ho] at hx a3 a1
          unfold segsPut at hx
          rcases List.mem_append.1 hx with hx | hx
          · exact a1.files x (List.dropLast_subset _ hx)
          · rcases List.mem_singleton.1 hx with rfl
            exact a1.files s (r4 s ho)
      · rw [gApp_bad h0 h1 h2]
        simp only
        rw [r1, r2]
        exact a1
    · rw [gApp_room h0 h1]
      simp only
      rw [r1, r2]
      exact r3
  · rw [gApp_no h0]
    exact h
end Go.Proofs.YteifkkceldlfnaaGreatDoor

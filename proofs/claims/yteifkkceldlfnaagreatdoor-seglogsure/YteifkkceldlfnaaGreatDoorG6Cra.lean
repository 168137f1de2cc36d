/-
  What a crash leaves of a log's files, and what is loaded of that.
-/
import Derived.Test.YteifkkceldlfnaaGreatDoorG6Bg
namespace Go.Proofs.YteifkkceldlfnaaGreatDoor
open Go.RowKit Go.Shelf Go.Sort
open Go.Lib hiding intOf

theorem crAll_keys (keep : List Int) (fs : List Fil) : (crAll keep fs).map (·.1) = fs.map (·.1) := by
  apply List.ext_getElem (by simp [crAll])
  intro i h1 h2
  simp [crAll]
theorem crAll_mem {keep : List Int} {fs : List Fil} {k : ByteArray} {v : ByteArray × ByteArray} (h : (k, v) ∈ fs) : ∃ n : Int, (k, cr n v) ∈ crAll keep fs := by
  obtain ⟨i, hi, e⟩ := List.getElem_of_mem h
  refine ⟨kp keep i, List.mem_mapIdx.2 ⟨i, hi, ?_⟩⟩
  rw [e]
theorem crAll_rise {keep : List Int} {fs : List Fil} (h : Rise fs) : Rise (crAll keep fs) := by
  unfold Rise at h ⊢
  have h1 : (fs.map (·.1)).Pairwise (fun a b => lt a b = true) := List.pairwise_map.2 h
  rw [← crAll_keys keep fs] at h1
  exact List.pairwise_map.1 h1
theorem S_cut (b : List UInt8) (m : Nat) : (S b).extract 0 m = S (b.take m) := by
  apply ByteArray.ext
  simp [S]
theorem S_none : S [] = (⟨#[]⟩ : ByteArray) := rfl
theorem cr_whole (n : Int) (a : List UInt8) : cr n (S a, ⟨#[]⟩) = (S a, ⟨#[]⟩) := by
  unfold cr
  simp only
  rw [← S_none, S_cut, S_app]
  simp
theorem cr_last (n : Int) (a b : List UInt8) : ∃ k, a.length ≤ k ∧ k ≤ (a ++ b).length ∧ cr n (S a, S b) = (S ((a ++ b).take k), ⟨#[]⟩) := by
  refine ⟨a.length + min n.toNat b.length, by omega, by rw [List.length_append]; omega, ?_⟩
  unfold cr
  simp only
  have e : (a ++ b).take (a.length + min n.toNat b.length) = a ++ b.take (min n.toNat b.length) := by
    rw [List.take_append, List.take_of_length_le (l := a) (by omega), Nat.add_sub_cancel_left]
  rw [S_cut, S_app, S_size, e]
theorem Cn.flw : ∀ {ys : List Sg} {y : Sg} {r : List Sg} {n : Nat}, Cn (ys ++ y :: r) n → Go.Proofs.YteifkkceldlfnaaGreatDoor.flw ys false y.first = true
  | [], y, r, n, _ => rfl
  | [z], y, r, n, h => by
    have h1 : z.next = y.first := h.1
    simp [Go.Proofs.YteifkkceldlfnaaGreatDoor.flw, h1]
  | z :: z2 :: t, y, r, n, h => by
    have h1 := Cn.flw (ys := z2 :: t) (Cn.tail h)
    unfold Go.Proofs.YteifkkceldlfnaaGreatDoor.flw at h1 ⊢
    rw [List.getLast?_cons_cons]
    exact h1
theorem Sgb.sg {x : Sg} {cs : List (List (List UInt8))} (h : Sgb x cs) : (⟨x.first, cs.flatten, (bby x.first cs).length⟩ : Sg) = x := by
  rw [← h.recs, ← h.size]
theorem ld_whole {f : Nat → List UInt8} {n : Nat} : ∀ (rest did tail : List Sg), Cn (did ++ (rest ++ tail)) n → (∀ x ∈ rest, ∃ cs, Sgb x cs ∧ f x.first = bby x.first cs) → (rest.map fun x => (x.first, f x.first)).foldl ldStep (some (did, false)) = some (did ++ rest, false)
  | [], did, tail, _, _ => by simp
  | x :: r, did, tail, hc, hw => by
    obtain ⟨cs, h1, h2⟩ := hw x (by simp)
    obtain ⟨g1, g2⟩ := fil_bby h1.ok
    have hf : flw did false x.first = true := Cn.flw (r := r ++ tail) (by simpa using hc)
    rw [List.map_cons, List.foldl_cons, h2, ldStep_ok hf g1, g2, h1.sg]
    have hd : decide ((bby x.first cs).length < (bby x.first cs).length) = false := by simp
    rw [hd, ld_whole r (did ++ [x]) tail (by simpa using hc) (fun y hy => hw y (List.mem_cons_of_mem _ hy))]
    simp
/-- the files behind a crash are loaded: whole batches, and all that were safe -/
theorem Bk.loaded {pre : ByteArray} {fs : List Fil} {xs : List Sg} {s : Sg} {sure n : Nat} {ends : List Nat} (h : Bk pre fs xs s sure ends) (hc : Cn (xs ++ [s]) n) (keep : List Int) :
    ∃ bs j tn, j ≤ bs.length ∧ Sgb s bs ∧ sure ≤ nxt s.first bs j ∧ (∃ m ∈ ends, nxt s.first bs j = m + 1) ∧
      ldG (((xs ++ [s]).map Sg.first).map (flN (aCrash (fs, 0, false) keep) pre)) = some (xs ++ [⟨s.first, (bs.take j).flatten, (bby s.first (bs.take j)).length⟩], tn) ∧
      (∃ k, (Go.Proofs.YteifkkceldlfnaaGreatDoor.gv (crAll keep fs) (nam pre s.first)) = (S ((bby s.first bs).take k), ⟨#[]⟩) ∧ (bby s.first (bs.take j)).length ≤ k ∧ k ≤ (bby s.first bs).length ∧ tn = decide ((bby s.first (bs.take j)).length < k)) := by
  obtain ⟨bs, j0, h1, h2, h3, h4, h5⟩ := h.last
  obtain ⟨m0, hm0⟩ := crAll_mem (keep := keep) h3
  obtain ⟨k, k1, k2, k3⟩ := cr_last m0 (bby s.first (bs.take j0)) (bby (nxt s.first bs j0) (bs.drop j0))
  rw [bby_cut] at k2 k3
  rw [k3] at hm0
  have hr := crAll_rise (keep := keep) h.rise
  have hg := gv_mem hr hm0
  obtain ⟨j, j1, j2, j3, j4⟩ := cut_bby (k := k) h1.ok
  have hj := j4 j0 h2 k1
  have hlast : flB (aCrash (fs, 0, false) keep) pre s.first = (bby s.first bs).take k := by
    unfold flB aCrash
    simp only
    rw [hg]
    simp [S]
  have hold : ∀ x ∈ xs, ∃ cs, Sgb x cs ∧ flB (aCrash (fs, 0, false) keep) pre x.first = bby x.first cs := fun x hx => by
    obtain ⟨cs, c1, c2⟩ := h.old x hx
    obtain ⟨m, hm⟩ := crAll_mem (keep := keep) c2
    rw [cr_whole] at hm
    refine ⟨cs, c1, ?_⟩
    unfold flB aCrash
    simp only
    rw [gv_mem hr hm]
    simp [S]
  obtain ⟨g1, g2⟩ := fil_bby (h1.ok.take j)
  have hmono : (bs.take j0).flatten.length ≤ (bs.take j).flatten.length := by
    have : bs.take j0 = (bs.take j).take j0 := by rw [List.take_take, Nat.min_eq_left hj]
    rw [this]
    have h6 := congrArg (fun z => z.flatten.length) (List.take_append_drop j0 (bs.take j))
    simp only [List.flatten_append, List.length_append] at h6
    omega
  refine ⟨bs, j, decide ((bby s.first (bs.take j)).length < k), j1, h1, ?_, h5 j j1, ?_, k, hg, j3 k2, k2, rfl⟩
  · rw [h4]
    unfold nxt
    omega
  · rw [List.map_append, List.map_append, List.map_singleton, List.map_singleton, ldG_snoc]
    have e1 : ldG ((xs.map Sg.first).map (flN (aCrash (fs, 0, false) keep) pre)) = some (xs, false) := by
      have := ld_whole (f := flB (aCrash (fs, 0, false) keep) pre) xs [] [s] hc hold
      rw [List.map_map]
      exact this
    rw [e1]
    show ldStep (some (xs, false)) (s.first, flB (aCrash (fs, 0, false) keep) pre s.first) = _
    have hf : flw xs false s.first = true := Cn.flw (r := []) hc
    rw [hlast]
    have g1' : filS s.first (fra ((bby s.first bs).take k)) = some (bs.take j).flatten := by rw [j2]; exact g1
    rw [ldStep_ok hf g1', j2, g2, List.length_take, Nat.min_eq_left k2]
end Go.Proofs.YteifkkceldlfnaaGreatDoor

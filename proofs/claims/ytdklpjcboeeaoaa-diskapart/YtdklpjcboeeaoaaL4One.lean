/-
  What calls come to on a disk of at most one file.
-/
import Derived.Test.YtdklpjcboeeaoaaL4Shown
namespace Go.Proofs.Ytdklpjcboeeaoaa
open Go.RowKit Go.Shelf Go.Sort
open Go.Lib hiding intOf

theorem one_gv (k : ByteArray) (v : ByteArray × ByteArray) : gv [(k, v)] k = v := gv_mem (List.pairwise_singleton _ _) (by simp)
theorem one_put {V : Type} (k : ByteArray) (v u : V) : put [(k, v)] k u = [(k, u)] := put_cons_eq (y := (k, v))
theorem one_has {V : Type} (k : ByteArray) (v : V) : has [(k, v)] k = true := has_cons_eq (y := (k, v))
theorem none_has {V : Type} (k : ByteArray) : has ([] : List (ByteArray × V)) k = false := rfl
theorem app_no0 {k s : ByteArray} {p : Int} (h1 : 1 ≤ k.size) (h2 : k.size ≤ 32) (hs : s.size ≤ 1048576) : appNo ([], p, false) k s = 0 := by
  unfold appNo
  simp only [Bool.false_eq_true, if_false, none_has]
  rw [if_neg (by omega), if_neg (by simp; omega)]
theorem app_no1 {k s a b : ByteArray} {p : Int} (h1 : 1 ≤ k.size) (h2 : k.size ≤ 32) (hs : a.size + b.size + s.size ≤ 1048576) : appNo ([(k, a, b)], p, false) k s = 0 := by
  unfold appNo
  simp only [Bool.false_eq_true, if_false, one_has, one_gv, if_true]
  rw [if_neg (by omega), if_neg (by omega)]
theorem app_new {k s : ByteArray} {p : Int} (h1 : 1 ≤ k.size) (h2 : k.size ≤ 32) (hs : s.size ≤ 1048576) (hp : powOk p = true) : aApp ([], p, false) k s = (0, [(k, ⟨#[]⟩, s)], powOf p, false) := by
  unfold aApp
  rw [app_no0 h1 h2 hs, stepA_ok hp]
  have : (⟨#[]⟩ : ByteArray) ++ s = s := ByteArray.empty_append
  simp only [getv, none_has, Bool.false_eq_true, if_false, put_nil, this]
theorem app_one {k s a b : ByteArray} {p : Int} (h1 : 1 ≤ k.size) (h2 : k.size ≤ 32) (hs : a.size + b.size + s.size ≤ 1048576) (hp : powOk p = true) : aApp ([(k, a, b)], p, false) k s = (0, [(k, a, b ++ s)], powOf p, false) := by
  unfold aApp
  rw [app_no1 h1 h2 hs, stepA_ok hp]
  simp only [getv, one_has, if_true, one_gv, one_put]
theorem app_full {k s a b : ByteArray} {p : Int} (h1 : 1 ≤ k.size) (h2 : k.size ≤ 32) (hs : 1048576 < a.size + b.size + s.size) : aApp ([(k, a, b)], p, false) k s = (4, [(k, a, b)], p, false) := by
  unfold aApp
  have : appNo ([(k, a, b)], p, false) k s = 4 := by
    unfold appNo
    simp only [Bool.false_eq_true, if_false, one_has, one_gv, if_true]
    rw [if_neg (by omega), if_pos hs]
  rw [this, stepA_no (by decide)]
theorem app_full0 {k s : ByteArray} {p : Int} (h1 : 1 ≤ k.size) (h2 : k.size ≤ 32) (hs : 1048576 < s.size) : aApp ([], p, false) k s = (4, [], p, false) := by
  unfold aApp
  have : appNo ([], p, false) k s = 4 := by
    unfold appNo
    simp only [Bool.false_eq_true, if_false, none_has]
    rw [if_neg (by omega), if_pos (.inr hs)]
  rw [this, stepA_no (by decide)]
theorem app_dead {fs : List Fil} {p : Int} (k s : ByteArray) : aApp (fs, p, true) k s = (7, fs, p, true) := by
  unfold aApp
  have : appNo (fs, p, true) k s = 7 := rfl
  rw [this, stepA_no (by decide)]
theorem read_dead {fs : List Fil} {p : Int} (k : ByteArray) : aRead (fs, p, true) k = (⟨#[]⟩, 7) := by
  unfold aRead
  have : noOf (fs, p, true).1 (fs, p, true).2.2 k = 7 := rfl
  rw [this, if_pos (by decide)]
theorem read_one (k a b : ByteArray) (p : Int) : aRead ([(k, a, b)], p, false) k = (a ++ b, 0) := by
  unfold aRead
  have : noOf ([(k, a, b)] : List Fil) false k = 0 := by unfold noOf; rw [one_has]; rfl
  simp only [this, one_gv]
  rfl
theorem sync_one {k a b : ByteArray} {p : Int} (hp : powOk p = true) : aSync ([(k, a, b)], p, false) k = (0, [(k, a ++ b, ⟨#[]⟩)], powOf p, false) := by
  unfold aSync
  have : noOf ([(k, a, b)] : List Fil) false k = 0 := by unfold noOf; rw [one_has]; rfl
  simp only [this, one_gv, one_put]
  exact stepA_ok hp _ _ _
theorem crash_one (k a b : ByteArray) (p : Int) (o : Bool) (n : Int) (ks : List Int) : aCrash ([(k, a, b)], p, o) (n :: ks) = ([(k, a ++ b.extract 0 (min n.toNat b.size), ⟨#[]⟩)], -1, false) := rfl
theorem crash_none (p : Int) (o : Bool) (ks : List Int) : aCrash ([], p, o) ks = ([], -1, false) := rfl
end Go.Proofs.Ytdklpjcboeeaoaa

/-
  What calls come to on a disk of the files a, b, c, of which b may be there or not.
-/
import Derived.Test.YtdklpjcboeeaoaaL4One
namespace Go.Proofs.Ytdklpjcboeeaoaa
open Go.RowKit Go.Shelf Go.Sort
open Go.Lib hiding intOf

def kA : ByteArray := ⟨#[97]⟩
def kB : ByteArray := ⟨#[98]⟩
def kC : ByteArray := ⟨#[99]⟩
theorem ltAB : lt kA kB = true := by kernel_rfl
theorem ltAC : lt kA kC = true := by kernel_rfl
theorem ltBC : lt kB kC = true := by kernel_rfl
/-- the files a and c, and b between them if it is there -/
def three (x y : ByteArray × ByteArray) (m : Option (ByteArray × ByteArray)) : List Fil := match m with
  | none => [(kA, x), (kC, y)]
  | some u => [(kA, x), (kB, u), (kC, y)]
variable {x y : ByteArray × ByteArray} {m : Option (ByteArray × ByteArray)}
theorem three_rise : Rise (three x y m) := by
  cases m with
  | none => exact rise_cons.2 ⟨fun e he => by simp at he; subst he; exact ltAC, List.pairwise_singleton _ _⟩
  | some u =>
    refine rise_cons.2 ⟨fun e he => ?_, rise_cons.2 ⟨fun e he => by simp at he; subst he; exact ltBC, List.pairwise_singleton _ _⟩⟩
    simp at he
    rcases he with rfl | rfl
    · exact ltAB
    · exact ltAC
theorem three_a : gv (three x y m) kA = x ∧ has (three x y m) kA = true := by
  have hm : (kA, x) ∈ three x y m := by cases m <;> simp [three]
  exact ⟨gv_mem three_rise hm, mem_has three_rise hm⟩
theorem three_c : gv (three x y m) kC = y ∧ has (three x y m) kC = true := by
  have hm : (kC, y) ∈ three x y m := by cases m <;> simp [three]
  exact ⟨gv_mem three_rise hm, mem_has three_rise hm⟩
theorem three_b (u : ByteArray × ByteArray) : put (three x y m) kB u = three x y (some u) := by
  cases m with
  | none =>
    show put [(kA, x), (kC, y)] kB u = _
    rw [put_cons_lt (y := (kA, x)) ltAB, put_cons_gt (y := (kC, y)) ltBC]
    rfl
  | some v =>
    show put [(kA, x), (kB, v), (kC, y)] kB u = _
    rw [put_cons_lt (y := (kA, x)) ltAB]
    show (kA, x) :: put ((kB, v) :: [(kC, y)]) (kB, v).1 u = _
    rw [put_cons_eq]
    rfl
theorem three_del : del (three x y m) kB = three x y none := by
  cases m with
  | none =>
    show del [(kA, x), (kC, y)] kB = _
    rw [del_cons_lt (y := (kA, x)) ltAB, del_cons_gt (y := (kC, y)) ltBC]
    rfl
  | some v =>
    show del [(kA, x), (kB, v), (kC, y)] kB = _
    rw [del_cons_lt (y := (kA, x)) ltAB]
    show (kA, x) :: del ((kB, v) :: [(kC, y)]) (kB, v).1 = _
    rw [del_cons_eq]
    rfl
/-- whatever an act on b comes to, a and c are as they were -/
theorem step_three {no : Int} {fs' : List Fil} (h : no = 0 → ∃ m', fs' = three x y m') : ∃ r m', stepA no fs' (three x y m, -1, false) = (r, three x y m', -1, false) := by
  by_cases hn : no = 0
  · obtain ⟨m', rfl⟩ := h hn
    subst hn
    exact ⟨0, m', stepA_ok rfl _ _ _⟩
  · exact ⟨no, m, stepA_no hn _ _⟩
theorem app_three (s : ByteArray) : ∃ r m', aApp (three x y m, -1, false) kB s = (r, three x y m', -1, false) := step_three (fun _ => ⟨_, three_b _⟩)
theorem sync_three : ∃ r m', aSync (three x y m, -1, false) kB = (r, three x y m', -1, false) := step_three (fun _ => ⟨_, three_b _⟩)
theorem cut_three (n : Int) : ∃ r m', aCut (three x y m, -1, false) kB n = (r, three x y m', -1, false) := step_three (fun _ => ⟨_, three_b _⟩)
theorem del_three : ∃ r, aDel (three x y m, -1, false) kB = (r, three x y none, -1, false) := by
  unfold aDel
  by_cases hn : noOf (three x y m) false kB = 0
  · simp only [hn]
    rw [three_del]
    exact ⟨0, stepA_ok rfl _ _ _⟩
  · refine ⟨noOf (three x y m) false kB, ?_⟩
    rw [stepA_no hn]
    have : m = none := by
      cases m with
      | none => rfl
      | some u =>
        have hm : (kB, u) ∈ three x y (some u) := by simp [three]
        exact absurd (by unfold noOf; rw [mem_has three_rise hm]; rfl) hn
    rw [this]
theorem read_a (p : Int) : aRead (three x y m, p, false) kA = (x.1 ++ x.2, 0) := by
  unfold aRead
  have : noOf (three x y m) false kA = 0 := by unfold noOf; rw [three_a.2]; rfl
  simp only [this, three_a.1]
  rfl
theorem read_c (p : Int) : aRead (three x y m, p, false) kC = (y.1 ++ y.2, 0) := by
  unfold aRead
  have : noOf (three x y m) false kC = 0 := by unfold noOf; rw [three_c.2]; rfl
  simp only [this, three_c.1]
  rfl
theorem crash_two (p : Int) (o : Bool) (n k : Int) : aCrash (three x y none, p, o) [n, k] = (three (cr n x) (cr k y) none, -1, false) := rfl
end Go.Proofs.Ytdklpjcboeeaoaa

/-
  Records and states in a block of their own; what putting and taking away come to; package fold's began and entered.
-/
import Derived.Test.YthmfcloecmnfnaaGreatF13Cl
import Derived.Test.YthmfcloecmnfnaaGreatF13Put
namespace Go.Proofs.YthmfcloecmnfnaaGreat.f13
open Go.RowKit Go.Shelf Go.Sort
open Go.Lib hiding intOf

/-- a record, with where its variables lie -/
structure Rc where
  cl : Int
  kd : Int
  fr : Nat
  tm : Int
  k1 : Nat
  k2 : Nat
  k3 : Nat
  n : Int
  m : Int
  a : List UInt8
  b : List UInt8
  c : List UInt8
  vv : Value
  v : List Vr
def Rc.cs (r : Rc) : List Value := [.int .i64 r.cl, .int .i64 r.kd, .int .u64 (r.fr : Int), .int .i64 r.tm, .int .u64 (r.k1 : Int), .int .u64 (r.k2 : Int), .int .u64 (r.k3 : Int), .int .i64 r.n, .int .i64 r.m, .string (S r.a), .string (S r.b), .string (S r.c), r.vv]
/-- a state in block sb, all of it from block B on -/
def Sx (B : Nat) (w : World) (sb : Nat) (s : St) : Prop := Own B w (bx sb s.c :: s.rows)
theorem sub_count {α : Type} [DecidableEq α] : ∀ (L M : List α), (∀ x, M.count x ≤ L.count x) → ∃ N, M.Perm N ∧ N.Sublist L
  | [], M, h => by
    have : M = [] := by
      cases M with
      | nil => rfl
      | cons a t => have := h a; simp at this
    exact ⟨[], by rw [this], List.Sublist.refl _⟩
  | b :: L, M, h => by
    by_cases hb : b ∈ M
    · obtain ⟨N, h1, h2⟩ := sub_count L (M.erase b) (fun x => by
        have := h x
        rw [List.count_erase, List.count_cons] at *
        omega)
      exact ⟨b :: N, (List.perm_cons_erase hb).trans (h1.cons b), h2.cons_cons b⟩
    · obtain ⟨N, h1, h2⟩ := sub_count L M (fun x => by
        have := h x
        rw [List.count_cons] at this
        by_cases e : b = x
        · subst e; rw [List.count_eq_zero_of_not_mem hb]; omega
        · rw [if_neg (by simpa using e)] at this; omega)
      exact ⟨N, h1, h2.cons b⟩
theorem Own.of_count {B : Nat} {w : World} {L M : List Rw} (h : Own B w L) (hc : ∀ [DecidableEq Rw] (x : Rw), M.count x ≤ L.count x) : Own B w M := by
  classical
  obtain ⟨N, h1, h2⟩ := sub_count L M hc
  exact (h.sub h2).perm h1.symm
theorem putL_count {α κ : Type} [BEq κ] [DecidableEq Rw] (key : α → κ) (lt : κ → κ → Bool) (l : List α) (x : α) (f : α → Rw) (z : Rw) : ((putL key lt l x).map f).count z ≤ (f x :: l.map f).count z := by
  unfold putL
  split
  · rename_i i hi
    have hlt := (List.findIdx?_eq_some_iff_getElem.1 hi).1
    rw [List.set_eq_take_append_cons_drop, if_pos hlt]
    have e : l = l.take i ++ l[i] :: l.drop (i + 1) := by rw [List.getElem_cons_drop, List.take_append_drop]
    have e2 : (l.map f).count z = ((l.take i ++ l[i] :: l.drop (i + 1)).map f).count z := by rw [← e]
    rw [List.count_cons, e2]
    simp only [List.map_append, List.map_cons, List.count_append, List.count_cons]
    omega
  · split
    · rename_i i hi
      have e2 : (l.map f).count z = ((l.take i ++ l.drop i).map f).count z := by rw [List.take_append_drop]
      rw [List.count_cons, e2]
      simp only [List.map_append, List.map_cons, List.count_append, List.count_cons]
      omega
    · simp only [List.map_append, List.map_cons, List.map_nil, List.count_append, List.count_cons, List.count_nil]
      omega
theorem putL_map {α κ : Type} [BEq κ] (key : α → κ) (lt : κ → κ → Bool) (l : List α) (x : α) (f : α → α) (hf : ∀ y, key (f y) = key y) : (putL key lt l x).map f = putL key lt (l.map f) (f x) := by
  have h1 : ∀ p : κ → Bool, (l.map f).findIdx? (fun y => p (key y)) = l.findIdx? (fun y => p (key y)) := fun p => by
    rw [List.findIdx?_map]; congr 1; funext y; simp [hf]
  unfold putL
  rw [hf, h1 (fun k => k == key x), h1 (fun k => lt (key x) k)]
  split
  · rw [List.map_set]
  · split
    · simp
    · simp
def up1 (n : Nat) : Nat := (n + 1) % 18446744073709551616
theorem up1_wrap (n : Nat) : IntKind.u64.wrap ((n : Int) + 1) = ((up1 n : Nat) : Int) := by
  unfold up1
  rw [IntKind.wrap_u64]
  omega
/-- what began, entered do -/
def eBegan (s : St) (r : Rc) : St := { s with insts := putL In.kk ltU s.insts ⟨r.k1, r.a, .slice none 0 0, r.v⟩, made := up1 s.made }
def eEntered (s : St) (r : Rc) : St := { s with tokens := putL Tk.kk ltU s.tokens ⟨r.k1, r.k2, r.k3, r.n, r.m, []⟩, made := up1 s.made }
end Go.Proofs.YthmfcloecmnfnaaGreat.f13

/-
  Package book's Due at two times: what is due stays due (plain).
-/
import Derived.Test.YthmfcloecmnfnaaGreatB16Due
namespace Go.Proofs.YthmfcloecmnfnaaGreat.f13
open Go.RowKit Go.Shelf Go.Sort
open Go.Lib hiding intOf

/-- what of a record is looked at -/
def tr (r : Rc) : Int × Nat × Int := (r.kd, r.k1, r.n)
theorem flat_sub {α β : Type} {f g : α → List β} (h : ∀ x, (f x).Sublist (g x)) : ∀ l : List α, (l.flatMap f).Sublist (l.flatMap g)
  | [] => List.Sublist.refl _
  | x :: t => by rw [List.flatMap_cons, List.flatMap_cons]; exact (h x).append (flat_sub h t)
theorem one_sub {c d : Prop} [Decidable c] [Decidable d] (hcd : c → d) {β : Type} (u : β) : (if c then [u] else []).Sublist (if d then [u] else []) := by
  by_cases h : c
  · rw [if_pos h, if_pos (hcd h)]; exact List.Sublist.refl _
  · rw [if_neg h]; exact List.nil_sublist _
theorem dTm_tr (now : Int) (x : Tm) : (dTm now x).map tr = if x.at_ ≤ now then [(9, x.token, x.node)] else [] := by unfold dTm; split <;> rfl
theorem dMs_tr (now : Int) (x : Ms) : (dMs now x).map tr = if x.unt ≤ now then [(11, x.key, 0)] else [] := by unfold dMs; split <;> rfl
theorem dJb_tr (now : Int) (x : Jb) : (dJb now x).map tr = if x.wkr.isEmpty = false ∧ x.unt ≤ now then [(10, x.key, 0)] else [] := by
  unfold dJb
  by_cases h : x.wkr.isEmpty = false
  · rw [if_pos h]
    by_cases h2 : x.unt ≤ now
    · rw [if_pos h2, if_pos ⟨h, h2⟩]; rfl
    · rw [if_neg h2, if_neg (fun e => h2 e.2)]; rfl
  · rw [if_neg h, if_neg (fun e => h e.1)]; rfl
theorem due_sub {s : St} {now later : Int} (h : now ≤ later) : ((dueL s now).map tr).Sublist ((dueL s later).map tr) := by
  unfold dueL
  simp only [List.map_append, List.map_flatMap]
  refine ((flat_sub ?_ _).append (flat_sub ?_ _)).append (flat_sub ?_ _)
  · intro x; rw [dTm_tr, dTm_tr]; exact one_sub (fun e => Int.le_trans e h) _
  · intro x; rw [dJb_tr, dJb_tr]; exact one_sub (fun e => ⟨e.1, Int.le_trans e.2 h⟩) _
  · intro x; rw [dMs_tr, dMs_tr]; exact one_sub (fun e => Int.le_trans e h) _
theorem due_len (s : St) (now : Int) : (dueL s now).length ≤ s.timers.length + s.jobs.length + s.msgs.length := by
  unfold dueL
  rw [List.length_append, List.length_append]
  have h1 := fm_le1 (dTm_len now) s.timers
  have h2 := fm_le1 (dJb_len now) s.jobs
  have h3 := fm_le1 (dMs_len now) s.msgs
  omega
/-- what is left of the one stands in what is left of the other -/
def Gr (A B : List Rc) (k i : Nat) : Prop := k ≤ A.length ∧ i ≤ B.length ∧ ((A.drop k).map tr).Sublist ((B.drop i).map tr)
theorem Gr.hit {A B : List Rc} {k i : Nat} (h : Gr A B k i) (hk : k < A.length) (hi : i < B.length) (e : tr B[i] = tr A[k]) : Gr A B (k + 1) (i + 1) := by
  obtain ⟨_, _, h⟩ := h
  rw [List.drop_eq_getElem_cons hk, List.drop_eq_getElem_cons hi, List.map_cons, List.map_cons, e] at h
  exact ⟨hk, hi, List.cons_sublist_cons.1 h⟩
theorem Gr.miss {A B : List Rc} {k i : Nat} (h : Gr A B k i) (hk : k < A.length) (hi : i < B.length) (e : ¬ tr B[i] = tr A[k]) : Gr A B k (i + 1) := by
  obtain ⟨h1, _, h⟩ := h
  refine ⟨h1, hi, ?_⟩
  rw [List.drop_eq_getElem_cons hi, List.map_cons] at h
  rcases List.sublist_cons_iff.1 h with h | ⟨r, hr, _⟩
  · exact h
  · rw [List.drop_eq_getElem_cons hk, List.map_cons] at hr
    injection hr with e1 _
    exact absurd e1.symm e
theorem Gr.fin {A B : List Rc} {k : Nat} (h : Gr A B k B.length) : k = A.length := by
  obtain ⟨h1, _, h⟩ := h
  rw [List.drop_length, List.map_nil, List.sublist_nil, List.map_eq_nil_iff, List.drop_eq_nil_iff] at h
  omega
theorem Gr.start {A B : List Rc} (h : (A.map tr).Sublist (B.map tr)) : Gr A B 0 0 := ⟨Nat.zero_le _, Nat.zero_le _, h⟩
theorem tr_ne1 {x y : Rc} (e : (y.kd == x.kd) = false) : ¬ tr y = tr x := fun h => by
  have : y.kd = x.kd := congrArg Prod.fst h
  rw [this, beq_self_eq_true] at e; cases e
theorem tr_ne2 {x y : Rc} (e : (((y.k1 : Nat) : Int) == ((x.k1 : Nat) : Int)) = false) : ¬ tr y = tr x := fun h => by
  have : y.k1 = x.k1 := congrArg (fun p => p.2.1) h
  rw [this, beq_self_eq_true] at e; cases e
theorem tr_ne3 {x y : Rc} (e : (y.n == x.n) = false) : ¬ tr y = tr x := fun h => by
  have : y.n = x.n := congrArg (fun p => p.2.2) h
  rw [this, beq_self_eq_true] at e; cases e
theorem tr_eq {x y : Rc} (e1 : (y.kd == x.kd) = true) (e2 : (((y.k1 : Nat) : Int) == ((x.k1 : Nat) : Int)) = true) (e3 : (y.n == x.n) = true) : tr y = tr x := by
  have h1 := eq_of_beq e1
  have h2 := eq_of_beq e2
  have h3 := eq_of_beq e3
  have h4 : y.k1 = x.k1 := by omega
  show (y.kd, y.k1, y.n) = (x.kd, x.k1, x.n)
  rw [h1, h3, h4]
theorem Rc.k13 : ∀ x, (Rc.cs x).length = 13 := fun _ => rfl
theorem Below.drN {n : Nat} {w w' : World} (h : Below n w w') : ∀ k, Below n w (w'.drewN k)
  | 0 => h
  | k + 1 => by
    show Below n w ((w'.drewN k).drew)
    exact (Below.drN h k).drew
end Go.Proofs.YthmfcloecmnfnaaGreat.f13

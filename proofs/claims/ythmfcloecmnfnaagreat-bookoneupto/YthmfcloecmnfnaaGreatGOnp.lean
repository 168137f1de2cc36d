/-
  What Activate gives, plain.
-/
import Derived.Test.YthmfcloecmnfnaaGreatB16Rng
import Derived.Test.YthmfcloecmnfnaaGreatB16One
namespace Go.Proofs.YthmfcloecmnfnaaGreat.f13
open Go.RowKit Go.Shelf Go.Sort
open Go.Lib hiding intOf

def chgJ (wk : List UInt8) (un : Int) (key : Nat) (l : List Jb) : List Jb := chgL (fun x => x.kk == key) (fun x => { x with wkr := wk, unt := un }) l
/-- the first one of the key has the worker -/
def HasW (wk : List UInt8) (k : Nat) (l : List Jb) : Prop := ∃ y, l.find? (fun x => x.kk == k) = some y ∧ y.wkr = wk
theorem find_same (wk : List UInt8) (un : Int) (key : Nat) : ∀ (l : List Jb), (l.find? (fun x => x.kk == key)).isSome = true → HasW wk key (chgJ wk un key l)
  | [], h => by simp at h
  | x :: t, h => by
    by_cases e : (x.kk == key) = true
    · refine ⟨{ x with wkr := wk, unt := un }, ?_, rfl⟩
      have h2 : (Jb.kk { x with wkr := wk, unt := un } == key) = true := e
      simp only [chgJ, chgL, e, if_true]
      rw [List.find?_cons_of_pos (p := fun x : Jb => x.kk == key) h2]
    · have h' : (t.find? (fun x => x.kk == key)).isSome = true := by rw [List.find?_cons_of_neg (p := fun x : Jb => x.kk == key) e] at h; exact h
      obtain ⟨y, h1, h2⟩ := find_same wk un key t h'
      refine ⟨y, ?_, h2⟩
      simp only [chgJ, chgL, e] at h1 ⊢
      simp only [Bool.false_eq_true, if_false]
      rw [List.find?_cons_of_neg (p := fun x : Jb => x.kk == key) e]; exact h1
theorem find_other (wk : List UInt8) (un : Int) {key k : Nat} (hk : ¬ k = key) : ∀ (l : List Jb), (chgJ wk un key l).find? (fun x => x.kk == k) = l.find? (fun x => x.kk == k)
  | [] => rfl
  | x :: t => by
    by_cases e : (x.kk == key) = true
    · have hn : ¬ (x.kk == k) = true := by
        intro h; apply hk
        rw [← beq_iff_eq.1 h, ← beq_iff_eq.1 e]
      have hn2 : ¬ (Jb.kk { x with wkr := wk, unt := un } == k) = true := hn
      simp only [chgJ, chgL, e, if_true]
      rw [List.find?_cons_of_neg (p := fun x : Jb => x.kk == k) hn2, List.find?_cons_of_neg (p := fun x : Jb => x.kk == k) hn]
    · have ih := find_other wk un hk t
      simp only [chgJ, chgL, e] at ih ⊢
      simp only [Bool.false_eq_true, if_false]
      by_cases e2 : (x.kk == k) = true
      · rw [List.find?_cons_of_pos (p := fun x : Jb => x.kk == k) e2, List.find?_cons_of_pos (p := fun x : Jb => x.kk == k) e2]
      · rw [List.find?_cons_of_neg (p := fun x : Jb => x.kk == k) e2, List.find?_cons_of_neg (p := fun x : Jb => x.kk == k) e2]; exact ih
theorem HasW.step {wk : List UInt8} {k : Nat} {l : List Jb} (h : HasW wk k l) (un : Int) (key : Nat) : HasW wk k (chgJ wk un key l) := by
  by_cases e : k = key
  · subst e
    obtain ⟨y, h1, -⟩ := h
    exact find_same wk un k l (by rw [h1]; rfl)
  · unfold HasW
    rw [find_other wk un e]; exact h
theorem some_step {k : Nat} {l : List Jb} (h : (l.find? (fun x => x.kk == k)).isSome = true) (wk : List UInt8) (un : Int) (key : Nat) : ((chgJ wk un key l).find? (fun x => x.kk == k)).isSome = true := by
  by_cases e : k = key
  · subst e
    obtain ⟨y, h1, -⟩ := find_same wk un k l h
    rw [h1]; rfl
  · rw [find_other wk un e]; exact h
theorem fold_keep {wk : List UInt8} {un : Int} {k : Nat} : ∀ (m : List (Jb × Nat)) {l : List Jb}, HasW wk k l → HasW wk k (m.foldl (fun L x => chgJ wk un x.1.key L) l)
  | [], _, h => h
  | x :: t, _, h => fold_keep t (h.step un x.1.key)
theorem fold_has {wk : List UInt8} {un : Int} : ∀ (m : List (Jb × Nat)) {l : List Jb}, (∀ x ∈ m, (l.find? (fun y => y.kk == x.1.key)).isSome = true) → ∀ x ∈ m, HasW wk x.1.key (m.foldl (fun L x => chgJ wk un x.1.key L) l)
  | [], _, _, _, h => absurd h List.not_mem_nil
  | a :: t, l, h, x, hx => by
    rw [List.foldl_cons]
    rcases List.mem_cons.1 hx with rfl | hx
    · exact fold_keep t (find_same wk un _ l (h _ List.mem_cons_self))
    · exact fold_has t (fun y hy => some_step (h y (List.mem_cons_of_mem _ hy)) wk un a.1.key) x hx
theorem actS_jobs (ps : Nat) (wk : List UInt8) (un : Int) : ∀ (m : List (Jb × Nat)) (s : St), (actS ps wk un s m).jobs = m.foldl (fun L x => chgJ wk un x.1.key L) s.jobs
  | [], _ => rfl
  | x :: t, s => actS_jobs ps wk un t (eTaken (nx s ps) (actR wk un x.1))
/-- behind Activate the document's Job of a key that was given is there, and is the worker's -/
theorem act_found {k k' : Wo} {wk : List UInt8} {un : Int} {M : List (Jb × Nat)} (h : ActP k wk un M k') (hin : ∀ x ∈ M, x.1 ∈ k.s.jobs) {t : St} (ht : t.e = k'.s.e) {i : Nat} (hi : i < M.length) :
    ∃ y : Jb, fstJb (fun x => x.kk == M[i].1.key) t.jobs = (y, true) ∧ y.wkr = wk := by
  have hM : ¬ M.length = 0 := by omega
  have hs := h.st
  rw [if_neg hM] at hs
  have hj : t.jobs = M.foldl (fun L x => chgJ wk un x.1.key L) k.s.jobs := by
    have h1 : t.e.jobs = (actS k.ps wk un k.s.e M).jobs := by rw [ht, hs]
    rw [actS_jobs] at h1
    exact h1
  obtain ⟨y, h1, h2⟩ := fold_has (wk := wk) (un := un) M (l := k.s.jobs) (fun x hx => by
    rw [List.find?_isSome]
    exact ⟨x.1, hin x hx, by show (x.1.kk == x.1.key) = true; exact beq_self_eq_true _⟩) M[i] (List.getElem_mem hi)
  rw [← hj] at h1
  exact ⟨y, by unfold fstJb; rw [h1], h2⟩
/-- what is ready stands where it says -/
theorem rdyT_at {kind : List UInt8} {l : List Jb} {i : Nat} (h : i < (rdyT kind l l.length).length) : ∃ hp : (rdyT kind l l.length)[i].2 < l.length, l[(rdyT kind l l.length)[i].2] = (rdyT kind l l.length)[i].1 := by
  have hm : (rdyT kind l l.length)[i] ∈ rdyT kind l l.length := List.getElem_mem h
  generalize (rdyT kind l l.length)[i] = x at hm
  have h1 : x ∈ l.zipIdx := by
    have := (List.mem_filter.1 hm).1
    rwa [List.take_length] at this
  obtain ⟨h2, h3⟩ := List.mem_zipIdx' h1
  exact ⟨h2, h3.symm⟩
end Go.Proofs.YthmfcloecmnfnaaGreat.f13
namespace Go.Proofs.YthmfcloecmnfnaaGreat.f13
open Go.RowKit Go.Shelf Go.Sort
open Go.Lib hiding intOf

/-- what is ready is there, and nobody has it -/
theorem rdyT_in {kind : List UInt8} {l : List Jb} {x : Jb × Nat} (h : x ∈ rdyT kind l l.length) : x.1 ∈ l ∧ x.1.wkr = [] := by
  unfold rdyT at h
  rw [List.take_length] at h
  obtain ⟨h1, h2⟩ := List.mem_filter.1 h
  obtain ⟨h3, h4⟩ := List.mem_zipIdx' h1
  refine ⟨by rw [h4]; exact List.getElem_mem h3, ?_⟩
  unfold rdyq at h2
  simp only [Bool.and_eq_true] at h2
  exact List.isEmpty_iff.1 h2.2.1
theorem cnt_two {key : Nat} {l : List Jb} {x y : Jb} (hx : x ∈ l) (hy : y ∈ l) (kx : x.key = key) (ky : y.key = key) (hne : x ≠ y) : cntJ key l l.length ≠ 1 := by
  unfold cntJ
  rw [List.take_length]
  intro h
  obtain ⟨z, hz⟩ := List.length_eq_one_iff.1 h
  have h1 : x ∈ l.filter (fun x => x.key == key) := List.mem_filter.2 ⟨hx, by simp [kx]⟩
  have h2 : y ∈ l.filter (fun x => x.key == key) := List.mem_filter.2 ⟨hy, by simp [ky]⟩
  rw [hz, List.mem_singleton] at h1 h2
  exact hne (h1.trans h2.symm)
/-- the first one of a key that is ready: it is there; where somebody has it the key stands more than once -/
theorem rdy_first {kind : List UInt8} {l : List Jb} {x : Jb × Nat} (h : x ∈ rdyT kind l l.length) : ∃ y : Jb, fstJb (fun z => z.kk == x.1.key) l = (y, true) ∧ (y.wkr = [] ∨ (decide (cntJ x.1.key l l.length = 1)) = false) := by
  obtain ⟨hm, hw⟩ := rdyT_in h
  have hs : (l.find? (fun z => z.kk == x.1.key)).isSome = true := by
    rw [List.find?_isSome]
    exact ⟨x.1, hm, by show (x.1.kk == x.1.key) = true; exact beq_self_eq_true _⟩
  obtain ⟨y, hy⟩ := Option.isSome_iff_exists.1 hs
  refine ⟨y, by unfold fstJb; rw [hy], ?_⟩
  by_cases hyw : y.wkr = []
  · exact .inl hyw
  · right
    have hym := List.mem_of_find?_eq_some hy
    have hyk : y.key = x.1.key := by
      have := List.find?_some hy
      exact beq_iff_eq.1 this
    exact decide_eq_false (cnt_two hm hym rfl hyk (fun e => hyw (e ▸ hw)))
end Go.Proofs.YthmfcloecmnfnaaGreat.f13

/-
  A job that was given was nobody's: where the first one of its key is somebody's, the key stands more than once.
-/
import Derived.Test.YthmfcloecmnfnaaGreatB16One
import Derived.Test.YthmfcloecmnfnaaGreatB16Pur
namespace Go.Proofs.YthmfcloecmnfnaaGreat.f13
open Go.RowKit Go.Shelf Go.Sort
open Go.Lib hiding intOf

/-- what is ready is there, and nobody has it -/
theorem rdyT_in {kind : List UInt8} {l : List Jb} {x : Jb × Nat} (h : x ∈ rdyT kind l l.length) : x.1 ∈ l ∧ x.1.wkr = [] := by
  unfold rdyT at h
  rw [List.take_length] at h
  obtain ⟨h1, h2⟩ := List.mem_filter.1 h
  obtain ⟨h3, h4⟩ := List.mem_zipIdx' h1
  refine ⟨by rw [h4]; exact List.getElem_mem h3, ?_⟩
  unfold rdyq at h2
  simp only [Bool.and_eq_true] at h2
  exact List.isEmpty_iff.1 h2.2.1
theorem cnt_two {key : Nat} {l : List Jb} {x y : Jb} (hx : x ∈ l) (hy : y ∈ l) (kx : x.key = key) (ky : y.key = key) (hne : x ≠ y) : cntJ key l l.length ≠ 1 := by
  unfold cntJ
  rw [List.take_length]
  intro h
  obtain ⟨z, hz⟩ := List.length_eq_one_iff.1 h
  have h1 : x ∈ l.filter (fun x => x.key == key) := List.mem_filter.2 ⟨hx, by simp [kx]⟩
  have h2 : y ∈ l.filter (fun x => x.key == key) := List.mem_filter.2 ⟨hy, by simp [ky]⟩
  rw [hz, List.mem_singleton] at h1 h2
  exact hne (h1.trans h2.symm)
/-- the first one of a key that is ready: it is there; where somebody has it the key stands more than once -/
theorem rdy_first {kind : List UInt8} {l : List Jb} {x : Jb × Nat} (h : x ∈ rdyT kind l l.length) : ∃ y : Jb, fstJb (fun z => z.kk == x.1.key) l = (y, true) ∧ (y.wkr = [] ∨ (decide (cntJ x.1.key l l.length = 1)) = false) := by
  obtain ⟨hm, hw⟩ := rdyT_in h
  have hs : (l.find? (fun z => z.kk == x.1.key)).isSome = true := by
    rw [List.find?_isSome]
    exact ⟨x.1, hm, by show (x.1.kk == x.1.key) = true; exact beq_self_eq_true _⟩
  obtain ⟨y, hy⟩ := Option.isSome_iff_exists.1 hs
  refine ⟨y, by unfold fstJb; rw [hy], ?_⟩
  by_cases hyw : y.wkr = []
  · exact .inl hyw
  · right
    have hym := List.mem_of_find?_eq_some hy
    have hyk : y.key = x.1.key := by
      have := List.find?_some hy
      exact beq_iff_eq.1 this
    exact decide_eq_false (cnt_two hm hym rfl hyk (fun e => hyw (e ▸ hw)))
end Go.Proofs.YthmfcloecmnfnaaGreat.f13

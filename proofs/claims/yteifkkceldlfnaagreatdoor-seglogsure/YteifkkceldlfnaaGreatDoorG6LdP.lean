/-
  What loading comes to is a log as it may be.
-/
import Derived.Test.YteifkkceldlfnaaGreatDoorG6Lod2
namespace Go.Proofs.YteifkkceldlfnaaGreatDoor
open Go.RowKit Go.Shelf Go.Sort
open Go.Lib hiding intOf

def ldNx (segs : List Sg) : Nat := match segs.getLast? with
  | none => 1
  | some s => s.next
theorem ldNx_snoc (segs : List Sg) (s : Sg) : ldNx (segs ++ [s]) = s.next := by simp [ldNx]
theorem ldStep_some {o : Option (List Sg × Bool)} {x : Nat × List UInt8} {segs : List Sg} {tn : Bool} (h : ldStep o x = some (segs, tn)) : ∃ segs0 tn0 rs, o = some (segs0, tn0) ∧ flw segs0 tn0 x.1 = true ∧ filS x.1 (fra x.2) = some rs ∧ segs = segs0 ++ [⟨x.1, rs, god (fra x.2)⟩] ∧ tn = decide (god (fra x.2) < x.2.length) := by
  cases o with
  | none => cases h
  | some p =>
    obtain ⟨segs0, tn0⟩ := p
    simp only [ldStep] at h
    by_cases hf : flw segs0 tn0 x.1 = true
    · rw [if_pos hf] at h
      cases hs : filS x.1 (fra x.2) with
      | none => rw [hs] at h; cases h
      | some rs =>
        rw [hs] at h
        simp only [Option.some.injEq, Prod.mk.injEq] at h
        exact ⟨segs0, tn0, rs, rfl, hf, rfl, h.1.symm, h.2.symm⟩
    · rw [if_neg hf] at h; cases h
theorem filS_empty {n : Nat} {l : List Fr} (h : filS n l = some []) : l = [] := by
  cases l with
  | nil => rfl
  | cons f t =>
    rw [filS] at h
    cases ht : tkB f.1 f.2.1 with
    | none => rw [ht] at h; cases h
    | some p =>
      obtain ⟨q, rs⟩ := p
      rw [ht] at h
      have hne := tkB_ne ht
      simp only at h
      split at h
      · cases hf : filS (n + rs.length) t with
        | none => rw [hf] at h; cases h
        | some r2 =>
          rw [hf] at h
          simp at h
          exact absurd h.1 hne
      · cases h
/-- what was loaded may be a log's -/
structure Lgd (fs : List (Nat × List UInt8)) (segs : List Sg) : Prop where
  cn : Cn segs (ldNx segs)
  firsts : segs.map Sg.first = fs.map (·.1)
  each : ∀ s ∈ segs, 1 ≤ s.first ∧ s.next ≤ 1099511627777 ∧ s.size ≤ 1048576 ∧ (s.recs = [] → s.size = 0)
theorem ldG_good : ∀ (m : Nat) (fs : List (Nat × List UInt8)), fs.length = m → (fs.map (·.1)).Pairwise (· < ·) → (∀ x ∈ fs, 1 ≤ x.1 ∧ x.1 ≤ 1099511627777 ∧ x.2.length ≤ 1048576) → ∀ segs tn, ldG fs = some (segs, tn) → Lgd fs segs
  | 0, fs, hm, _, _, segs, tn, h => by
    obtain rfl := List.eq_nil_of_length_eq_zero hm
    simp only [ldG, List.foldl_nil, Option.some.injEq, Prod.mk.injEq] at h
    rw [← h.1]
    exact ⟨trivial, rfl, fun _ h => by cases h⟩
  | m + 1, fs, hm, hr, hx, segs, tn, h => by
    rcases List.eq_nil_or_concat fs with rfl | ⟨fs0, x, rfl⟩
    · cases hm
    · rw [List.concat_eq_append] at *
      rw [ldG_snoc] at h
      obtain ⟨segs0, tn0, rs, h1, h2, h3, h4, -⟩ := ldStep_some h
      rw [List.map_append, List.pairwise_append] at hr
      obtain ⟨r1, -, r3⟩ := hr
      have ih := ldG_good m fs0 (by simpa using hm) r1 (fun y hy => hx y (List.mem_append_left _ hy)) segs0 tn0 h1
      obtain ⟨x1, x2, x3⟩ := hx x (by simp)
      have hlt : ∀ s ∈ segs0, s.first < x.1 := fun s hs => r3 s.first (by rw [← ih.firsts]; exact List.mem_map_of_mem hs) x.1 (by simp)
      rw [h4]
      refine ⟨?_, by rw [List.map_append, List.map_append, ih.firsts]; rfl, fun s hs => ?_⟩
      · rw [ldNx_snoc]
        cases hl : segs0.getLast? with
        | none =>
          rw [List.getLast?_eq_none_iff.1 hl]
          exact rfl
        | some y =>
          have hy : y ∈ segs0 := List.mem_of_getLast? hl
          unfold flw at h2
          rw [hl] at h2
          simp only [Bool.and_eq_true, beq_iff_eq] at h2
          refine ih.cn.snoc (fun z hz => ?_) ?_ rfl
          · rw [hl] at hz
            cases hz
            intro e
            have h5 := hlt y hy
            have h6 := h2.2
            unfold Sg.next at h6
            rw [e] at h6
            simp at h6
            omega
          · show x.1 = ldNx segs0
            unfold ldNx
            rw [hl]
            exact h2.2
      · rcases List.mem_append.1 hs with hs | hs
        · exact ih.each s hs
        · rw [List.mem_singleton.1 hs]
          refine ⟨x1, filS_max x2 h3, ?_, fun e => ?_⟩
          · have := god_le _ x.2 (Nat.le_refl _)
            show god (fra x.2) ≤ _
            omega
          · have e' : rs = [] := e
            rw [e'] at h3
            show god (fra x.2) = 0
            rw [filS_empty h3]
            rfl
end Go.Proofs.YteifkkceldlfnaaGreatDoor

/-
  Package expr: what parts that stand as those of a text do are like.
-/
import Derived.Test.YtpdengbdnijcfaaGreatDoorX10Sh2
namespace Go.Proofs.YtpdengbdnijcfaaGreatDoor.x10

/-- a part at place i, by itself -/
structure Wg (i : Nat) (p : P10) : Prop where
  h : 0 ≤ hnd p.1
  z : hnd p.1 = 0 → p.2.1 = -1 ∧ p.2.2.1 = -1
  o : hnd p.1 = 1 → (∃ a : Nat, a < i ∧ p.2.1 = (a : Int)) ∧ p.2.2.1 = -1
  t : hnd p.1 = 2 → (∃ a : Nat, a < i ∧ p.2.1 = (a : Int)) ∧ ∃ b : Nat, b < i ∧ p.2.2.1 = (b : Int)
  v : hol p = true
theorem isO_eq {p : P10} {l : List Int} (h : isO p l = true) : p.2.1 = l[0]?.getD (-1) ∧ p.2.2.1 = l[1]?.getD (-1) := by
  unfold isO at h
  rw [Bool.and_eq_true] at h
  exact ⟨eq_of_beq h.1, eq_of_beq h.2⟩
theorem wg_of {i : Nat} {p : P10} {f : List Int} (h0 : ¬ (hnd p.1 < 0 ∨ (f.length : Int) < hnd p.1 ∨ hol p = false)) (h1 : ¬ isO p (f.drop (f.length - (hnd p.1).toNat)) = false) (hf : ∀ x ∈ f, ∃ a : Nat, a < i ∧ x = (a : Int)) : Wg i p := by
  have ha : 0 ≤ hnd p.1 := by omega
  have hb : hnd p.1 ≤ (f.length : Int) := by omega
  have hv : hol p = true := by
    cases q : hol p with
    | true => rfl
    | false => exact absurd (Or.inr (Or.inr q)) h0
  have hi : isO p (f.drop (f.length - (hnd p.1).toNat)) = true := by
    cases q : isO p (f.drop (f.length - (hnd p.1).toNat)) with
    | true => rfl
    | false => exact absurd q h1
  obtain ⟨e1, e2⟩ := isO_eq hi
  have at' : ∀ j : Nat, f.length - (hnd p.1).toNat + j < f.length → ∃ a : Nat, a < i ∧ (f.drop (f.length - (hnd p.1).toNat))[j]?.getD (-1) = (a : Int) := fun j hj => by
    rw [List.getElem?_drop, List.getElem?_eq_getElem hj, Option.getD_some]
    exact hf _ (List.getElem_mem hj)
  have no' : ∀ j : Nat, f.length ≤ f.length - (hnd p.1).toNat + j → (f.drop (f.length - (hnd p.1).toNat))[j]?.getD (-1) = -1 := fun j hj => by
    rw [List.getElem?_drop, List.getElem?_eq_none hj, Option.getD_none]
  refine ⟨ha, fun hh => ⟨e1.trans (no' 0 (by omega)), e2.trans (no' 1 (by omega))⟩, fun hh => ⟨?_, e2.trans (no' 1 (by omega))⟩, fun hh => ⟨?_, ?_⟩, hv⟩
  · rw [e1]; exact at' 0 (by omega)
  · rw [e1]; exact at' 0 (by omega)
  · rw [e2]; exact at' 1 (by omega)
theorem shpS_wg : ∀ (rest : List P10) (i : Nat) (f : List Int) (r : List Int), shpS rest i f = some r → (∀ x ∈ f, ∃ a : Nat, a < i ∧ x = (a : Int)) → ∀ (j : Nat) (h : j < rest.length), Wg (i + j) rest[j]
  | [], _, _, _, _, _, _, h => absurd h (Nat.not_lt_zero _)
  | p :: t, i, f, r, hr, hf, j, h => by
    rw [shpS_cons] at hr
    split at hr
    · cases hr
    · rename_i h0
      split at hr
      · cases hr
      · rename_i h1
        cases j with
        | zero => exact wg_of h0 h1 hf
        | succ j =>
          have := shpS_wg t (i + 1) _ r hr (fun x hx => by
            rcases List.mem_append.1 hx with hx | hx
            · obtain ⟨a, h2, h3⟩ := hf x (List.mem_of_mem_take hx)
              exact ⟨a, by omega, h3⟩
            · rw [List.mem_singleton] at hx
              exact ⟨i, by omega, hx⟩) j (by simpa using h)
          rw [show i + 1 + j = i + (j + 1) by omega] at this
          exact this
theorem shp_wg {l : List P10} (h : shp l = true) : l.length ≤ 100 ∧ 1 ≤ l.length ∧ ∀ (i : Nat) (hi : i < l.length), Wg i l[i] := by
  unfold shp at h
  rw [Bool.and_eq_true, decide_eq_true_eq] at h
  obtain ⟨h1, h2⟩ := h
  rcases q : shpS l 0 [] with _ | r
  · rw [q] at h2; cases h2
  · refine ⟨h1, ?_, fun i hi => ?_⟩
    · cases l with
      | nil => cases q; cases h2
      | cons p t => simp
    · have := shpS_wg l 0 [] r q (fun x hx => by cases hx) i hi
      rw [Nat.zero_add] at this
      exact this
theorem hnd_op {o : Int} (h : 0 ≤ hnd o) : 1 ≤ o ∧ o ≤ 18 := by
  unfold hnd at h
  split at h
  · omega
  · omega
/-- parts that stand so are as nested and written want them -/
theorem shp_wf {l : List P10} (h : shp l = true) {i : Nat} (hi : i < l.length) : Wf l i l[i] := by
  obtain ⟨-, -, hw⟩ := shp_wg h
  have g := hw i hi
  have plc : ∀ {x : Int}, (∃ a : Nat, a < i ∧ x = (a : Int)) → Plc l i x := fun ⟨a, h1, h2⟩ => ⟨a, h1, Nat.lt_trans h1 hi, h2, hnd_op (hw a (Nat.lt_trans h1 hi)).h⟩
  refine ⟨List.getElem?_eq_getElem hi, hnd_op g.h, fun h1 => ?_, fun h2 => plc (g.t h2).2⟩
  rcases hnd_cases (hnd_op g.h) with ⟨q, -⟩ | ⟨q, -⟩ | ⟨q, -⟩
  · omega
  · exact plc (g.o q).1
  · exact plc (g.t q).1
end Go.Proofs.YtpdengbdnijcfaaGreatDoor.x10

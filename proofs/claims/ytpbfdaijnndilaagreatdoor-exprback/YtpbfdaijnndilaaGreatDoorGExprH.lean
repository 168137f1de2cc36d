/-
  Package expr: which parts are of which.
-/
import Derived.Test.YtpbfdaijnndilaaGreatDoorX10Nst
import Derived.Deep.RegionHeld3
namespace Go.Proofs.YtpbfdaijnndilaaGreatDoor.x10
open Go.RowKit Go.Shelf Go.Sort
open Go.Lib hiding intOf

/-- is a part's value one that its operator has in a text? -/
def hol (p : P10) : Bool := if p.1 = 1 then mayV p.2.2.2 && decide (0 ≤ p.2.2.2.2.1) else if p.1 = 2 then namV p.2.2.2.2.2 && (p.2.2.2 == (3, 0, p.2.2.2.2.2)) else p.2.2.2 == (0, 0, [])

set_option maxHeartbeats 1000000 in
set_option maxRecDepth 100000 in
theorem holds_any (p : P10) (hsz : p.2.2.2.2.2.length ≤ 4611686018427387904) (w : World) : Calls Tryz.prog 60 #[pA p] w fun e w' => e = .returned (.bool (hol p)) ∧ Below w.heap.size w w' := by
  obtain ⟨o, a, b, v1, v2, v3⟩ := p
  unfold pA hol
  simp only at hsz ⊢
  by_cases o1 : o = 1
  · rw [if_pos o1]
    have CM := May_any (v1, v2, v3)
    unfold vA at CM
    simp only at CM
    generalize mayV (v1, v2, v3) = m at *
    subst o1
    have HB : Hid (∀ w', Below (w.heap.size + 1) (w.alloc (.cells #[.int .i64 1, .int .i64 a, .int .i64 b, .int .i64 v1, .int .i64 v2, .string (S v3)] 68)) w' → Below w.heap.size w w' ∧ w'.cell? ⟨w.heap.size, 4, none⟩ = some (.int .i64 v2)) := fun w' hb => ⟨((Below.refl _ w).alloc (Nat.le_refl _) _).trans (hb.mono (Nat.le_succ _)), (hb.cell (p := ⟨w.heap.size, 4, none⟩) (Nat.lt_succ_self _)).trans (World.cell?_alloc_new _ _ _ _)⟩
    cases m <;> by_cases h0 : 0 ≤ v2 <;>
    · go_enter Tryz.func60, Tryz.ntmps60
      go_wp2_with (go_at_call 67; refine (CM _).mono ?_; rintro e w1 ⟨rfl, hb1⟩; rw [World.size_alloc] at hb1; obtain ⟨b1, c4⟩ := HB.out w1 hb1; have B1 : Hid (Below w.heap.size w w1) := b1; clear b1 hb1 CM)
      go_ret
      exact ⟨by simp [h0], B1.out⟩
  rw [if_neg o1]
  by_cases o2 : o = 2
  · rw [if_pos o2]
    have CN := fun w => Named_any (S v3) (by rw [S_size]; exact hsz) w
    rw [show (S v3).data.toList = v3 by simp [S]] at CN
    have CT := text_v v3
    subst o2
    clear o1
    generalize namV v3 = m at *
    cases m with
    | false =>
      go_enter Tryz.func60, Tryz.ntmps60
      go_wp2
      go_quiet (first | (go_at_call 62; refine Calls.quiet_of_same (CN _)))
      go_wp2
      go_ret
      exact ⟨by simp, below_drewN ((Below.refl _ w).alloc (Nat.le_refl _) _) _⟩
    | true =>
      have hq : (((v1, v2, v3) : V9) == (3, 0, v3)) = (v1 == 3 && v2 == 0) := by
        show ((v1 == 3) && ((v2 == 0) && (v3 == v3))) = _
        simp
      rw [hq, Bool.true_and]
      clear hq
      by_cases k1 : v1 = 3
      · subst k1
        by_cases k2 : v2 = 0
        · subst k2
          go_enter Tryz.func60, Tryz.ntmps60
          go_wp2
          have s3 : (w.alloc (.cells #[.int .i64 2, .int .i64 a, .int .i64 b, .int .i64 3, .int .i64 0, .string (S v3)] 68)).cell? ⟨w.heap.size, 3, none⟩ = some (.int .i64 3) := World.cell?_alloc_new _ _ _ _
          have s4 : (w.alloc (.cells #[.int .i64 2, .int .i64 a, .int .i64 b, .int .i64 3, .int .i64 0, .string (S v3)] 68)).cell? ⟨w.heap.size, 4, none⟩ = some (.int .i64 0) := World.cell?_alloc_new _ _ _ _
          have s5 : (w.alloc (.cells #[.int .i64 2, .int .i64 a, .int .i64 b, .int .i64 3, .int .i64 0, .string (S v3)] 68)).cell? ⟨w.heap.size, 5, none⟩ = some (.string (S v3)) := World.cell?_alloc_new _ _ _ _
          have hz : w.heap.size < (w.alloc (.cells #[.int .i64 2, .int .i64 a, .int .i64 b, .int .i64 3, .int .i64 0, .string (S v3)] 68)).heap.size := by simp
          have HB : Hid (Below w.heap.size w (w.alloc (.cells #[.int .i64 2, .int .i64 a, .int .i64 b, .int .i64 3, .int .i64 0, .string (S v3)] 68))) := (Below.refl _ w).alloc (Nat.le_refl _) _
          generalize w.alloc (.cells #[.int .i64 2, .int .i64 a, .int .i64 b, .int .i64 3, .int .i64 0, .string (S v3)] 68) = W1 at *
          go_region_held3 (fun w' => w'.cell? ⟨w.heap.size, 3, none⟩ = some (.int .i64 3) ∧ w'.cell? ⟨w.heap.size, 4, none⟩ = some (.int .i64 0) ∧ w'.cell? ⟨w.heap.size, 5, none⟩ = some (.string (S v3)))
            (first
              | go_keep
              | exact ⟨s3, s4, s5⟩)
            (first
              | (go_at_call 62; refine (CN _).mono ?_; rintro e u1 ⟨rfl, hu1⟩; rw [hu1]; clear hu1)
              | (go_at_call 112; refine (CT _).mono ?_; rintro e u1 ⟨rfl, bu1⟩; (replace HB : Hid (Below w.heap.size w u1) := by first | exact HB.out.drew.trans (bu1.mono (Nat.le_of_lt hz)) | exact HB.out.trans (bu1.mono (Nat.le_of_lt hz))); (replace s3 := (bu1.cell (p := ⟨w.heap.size, 3, none⟩) hz).trans s3); (replace s4 := (bu1.cell (p := ⟨w.heap.size, 4, none⟩) hz).trans s4); (replace s5 := (bu1.cell (p := ⟨w.heap.size, 5, none⟩) hz).trans s5); (replace hz : w.heap.size < u1.heap.size := Nat.lt_of_lt_of_le hz bu1.size); clear bu1))
          all_goals
            go_wp2
            go_ret
            exact ⟨by rfl, HB.out⟩
        · have k2' : (v2 == 0) = false := beq_eq_false_iff_ne.2 k2
          go_enter Tryz.func60, Tryz.ntmps60
          go_wp2
          have s3 : (w.alloc (.cells #[.int .i64 2, .int .i64 a, .int .i64 b, .int .i64 3, .int .i64 v2, .string (S v3)] 68)).cell? ⟨w.heap.size, 3, none⟩ = some (.int .i64 3) := World.cell?_alloc_new _ _ _ _
          have s4 : (w.alloc (.cells #[.int .i64 2, .int .i64 a, .int .i64 b, .int .i64 3, .int .i64 v2, .string (S v3)] 68)).cell? ⟨w.heap.size, 4, none⟩ = some (.int .i64 v2) := World.cell?_alloc_new _ _ _ _
          have s5 : (w.alloc (.cells #[.int .i64 2, .int .i64 a, .int .i64 b, .int .i64 3, .int .i64 v2, .string (S v3)] 68)).cell? ⟨w.heap.size, 5, none⟩ = some (.string (S v3)) := World.cell?_alloc_new _ _ _ _
          have hz : w.heap.size < (w.alloc (.cells #[.int .i64 2, .int .i64 a, .int .i64 b, .int .i64 3, .int .i64 v2, .string (S v3)] 68)).heap.size := by simp
          have HB : Hid (Below w.heap.size w (w.alloc (.cells #[.int .i64 2, .int .i64 a, .int .i64 b, .int .i64 3, .int .i64 v2, .string (S v3)] 68))) := (Below.refl _ w).alloc (Nat.le_refl _) _
          generalize w.alloc (.cells #[.int .i64 2, .int .i64 a, .int .i64 b, .int .i64 3, .int .i64 v2, .string (S v3)] 68) = W1 at *
          go_region_held3 (fun w' => w'.cell? ⟨w.heap.size, 3, none⟩ = some (.int .i64 3) ∧ w'.cell? ⟨w.heap.size, 4, none⟩ = some (.int .i64 v2) ∧ w'.cell? ⟨w.heap.size, 5, none⟩ = some (.string (S v3)))
            (first
              | go_keep
              | exact ⟨s3, s4, s5⟩)
            (first
              | (go_at_call 62; refine (CN _).mono ?_; rintro e u1 ⟨rfl, hu1⟩; rw [hu1]; clear hu1)
              | (go_at_call 112; refine (CT _).mono ?_; rintro e u1 ⟨rfl, bu1⟩; (replace HB : Hid (Below w.heap.size w u1) := by first | exact HB.out.drew.trans (bu1.mono (Nat.le_of_lt hz)) | exact HB.out.trans (bu1.mono (Nat.le_of_lt hz))); (replace s3 := (bu1.cell (p := ⟨w.heap.size, 3, none⟩) hz).trans s3); (replace s4 := (bu1.cell (p := ⟨w.heap.size, 4, none⟩) hz).trans s4); (replace s5 := (bu1.cell (p := ⟨w.heap.size, 5, none⟩) hz).trans s5); (replace hz : w.heap.size < u1.heap.size := Nat.lt_of_lt_of_le hz bu1.size); clear bu1))
          all_goals
            go_wp2
            go_ret
            exact ⟨by simp [k2], HB.out⟩
      · have k1' : (v1 == 3) = false := beq_eq_false_iff_ne.2 k1
        go_enter Tryz.func60, Tryz.ntmps60
        go_wp2
        have s3 : (w.alloc (.cells #[.int .i64 2, .int .i64 a, .int .i64 b, .int .i64 v1, .int .i64 v2, .string (S v3)] 68)).cell? ⟨w.heap.size, 3, none⟩ = some (.int .i64 v1) := World.cell?_alloc_new _ _ _ _
        have s4 : (w.alloc (.cells #[.int .i64 2, .int .i64 a, .int .i64 b, .int .i64 v1, .int .i64 v2, .string (S v3)] 68)).cell? ⟨w.heap.size, 4, none⟩ = some (.int .i64 v2) := World.cell?_alloc_new _ _ _ _
        have s5 : (w.alloc (.cells #[.int .i64 2, .int .i64 a, .int .i64 b, .int .i64 v1, .int .i64 v2, .string (S v3)] 68)).cell? ⟨w.heap.size, 5, none⟩ = some (.string (S v3)) := World.cell?_alloc_new _ _ _ _
        have hz : w.heap.size < (w.alloc (.cells #[.int .i64 2, .int .i64 a, .int .i64 b, .int .i64 v1, .int .i64 v2, .string (S v3)] 68)).heap.size := by simp
        have HB : Hid (Below w.heap.size w (w.alloc (.cells #[.int .i64 2, .int .i64 a, .int .i64 b, .int .i64 v1, .int .i64 v2, .string (S v3)] 68))) := (Below.refl _ w).alloc (Nat.le_refl _) _
        generalize w.alloc (.cells #[.int .i64 2, .int .i64 a, .int .i64 b, .int .i64 v1, .int .i64 v2, .string (S v3)] 68) = W1 at *
        go_region_held3 (fun w' => w'.cell? ⟨w.heap.size, 3, none⟩ = some (.int .i64 v1) ∧ w'.cell? ⟨w.heap.size, 4, none⟩ = some (.int .i64 v2) ∧ w'.cell? ⟨w.heap.size, 5, none⟩ = some (.string (S v3)))
          (first
            | go_keep
            | exact ⟨s3, s4, s5⟩)
          (first
            | (go_at_call 62; refine (CN _).mono ?_; rintro e u1 ⟨rfl, hu1⟩; rw [hu1]; clear hu1)
            | (go_at_call 112; refine (CT _).mono ?_; rintro e u1 ⟨rfl, bu1⟩; (replace HB : Hid (Below w.heap.size w u1) := by first | exact HB.out.drew.trans (bu1.mono (Nat.le_of_lt hz)) | exact HB.out.trans (bu1.mono (Nat.le_of_lt hz))); (replace s3 := (bu1.cell (p := ⟨w.heap.size, 3, none⟩) hz).trans s3); (replace s4 := (bu1.cell (p := ⟨w.heap.size, 4, none⟩) hz).trans s4); (replace s5 := (bu1.cell (p := ⟨w.heap.size, 5, none⟩) hz).trans s5); (replace hz : w.heap.size < u1.heap.size := Nat.lt_of_lt_of_le hz bu1.size); clear bu1))
        all_goals
          go_wp2
          go_ret
          exact ⟨by simp [k1], HB.out⟩
  rw [if_neg o2]
  go_enter Tryz.func60, Tryz.ntmps60
  go_wp2
  all_goals
    go_ret
    refine ⟨?_, (Below.refl _ w).alloc (Nat.le_refl _) _⟩
    simp_all [S_toList]
end Go.Proofs.YtpbfdaijnndilaaGreatDoor.x10
namespace Go.Proofs.YtpbfdaijnndilaaGreatDoor.x10
open Go.RowKit Go.Shelf Go.Sort
open Go.Lib hiding intOf

/-- v is a slice of the numbers l -/
def Is (w : World) (v : Value) (l : List Int) : Prop :=
  ∃ a cap, v = .slice a l.length cap ∧ (l = [] ∨ ∃ b off, a = some ⟨b, off, none⟩ ∧ b < w.heap.size ∧ ∀ (j : Nat) (h : j < l.length), w.cell? ⟨b, off + j, none⟩ = some (.int .i64 l[j]))
def isO (p : P10) (l : List Int) : Bool := p.2.1 == (l[0]?.getD (-1)) && p.2.2.1 == (l[1]?.getD (-1))

set_option maxHeartbeats 1000000 in
set_option maxRecDepth 100000 in
theorem isOf_any (p : P10) {v : Value} {l : List Int} (w : World) (hv : Is w v l) (hl : l.length ≤ 2) : Calls Tryz.prog 61 #[pA p, v] w fun e w' => e = .returned (.bool (isO p l)) ∧ Below w.heap.size w w' := by
  obtain ⟨o, a, b, v1, v2, v3⟩ := p
  unfold pA isO
  simp only
  obtain ⟨pa, cap, rfl, hc⟩ := hv
  rcases l with _ | ⟨x, _ | ⟨y, _ | ⟨z, t⟩⟩⟩
  · clear hc
    simp only [List.length_nil, List.getElem?_nil, Option.getD_none]
    by_cases k1 : a = -1 <;> by_cases k2 : b = -1 <;>
    · go_enter Tryz.func61, Tryz.ntmps61
      go_wp2
      go_ret
      exact ⟨by simp [k1, k2], (Below.refl _ w).alloc (Nat.le_refl _) _⟩
  · rcases hc with hc | ⟨bl, off, rfl, hlt, hc⟩
    · cases hc
    have c0 : w.cell? ⟨bl, off, none⟩ = some (.int .i64 x) := hc 0 (by simp)
    clear hc
    simp only [List.length_cons, List.length_nil, List.getElem?_cons_zero, List.getElem?_cons_succ, List.getElem?_nil, Option.getD_some, Option.getD_none, Nat.zero_add]
    by_cases k1 : a = x <;> by_cases k2 : b = -1 <;>
    · go_enter Tryz.func61, Tryz.ntmps61
      go_wp2
      go_ret
      exact ⟨by simp [k1, k2], (Below.refl _ w).alloc (Nat.le_refl _) _⟩
  · rcases hc with hc | ⟨bl, off, rfl, hlt, hc⟩
    · cases hc
    have c0 : w.cell? ⟨bl, off, none⟩ = some (.int .i64 x) := hc 0 (by simp)
    have c1 : w.cell? ⟨bl, off + 1, none⟩ = some (.int .i64 y) := hc 1 (by simp)
    clear hc
    simp only [List.length_cons, List.length_nil, List.getElem?_cons_zero, List.getElem?_cons_succ, Option.getD_some, Nat.zero_add]
    by_cases k1 : a = x <;> by_cases k2 : b = y <;>
    · go_enter Tryz.func61, Tryz.ntmps61
      go_wp2
      go_ret
      exact ⟨by simp [k1, k2], (Below.refl _ w).alloc (Nat.le_refl _) _⟩
  · simp at hl
end Go.Proofs.YtpbfdaijnndilaaGreatDoor.x10

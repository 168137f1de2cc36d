/-
  The document's disk: Cut.
-/
import Derived.Test.YtedcabnjcbdkaaaD5A
namespace Go.Proofs.Ytedcabnjcbdkaaa
open Go.RowKit Go.Shelf Go.Sort
open Go.Lib hiding intOf
variable {w : World} {B db : Nat} {fs : List Fil} {p : Int} {off : Bool} {sv : Value} {st : Ab}

theorem Dk.slice (h : Dk w db B fs p off sv) {i : Nat} (hi : i < fs.length) : ∃ g c, sv = .slice (some ⟨g, 0, none⟩) fs.length c := by
  rcases h.row.2 with ⟨e, h0⟩ | ⟨g, cap', cur, e, -⟩
  · omega
  · exact ⟨g, cap', e⟩
set_option maxRecDepth 100000 in
set_option maxHeartbeats 4000000 in
theorem dcut_ok (h : Dk w db B fs p false sv) (k : ByteArray) (hn : fs.length < 4611686018427387904) (hp : -9223372036854775808 ≤ p ∧ p ≤ 9223372036854775807) {i m : Nat} (hi : i < fs.length) (hx : fnum fs k = (i : Int)) (hpo : powOk p = true) (hm : m ≤ fs[i].2.1.size + fs[i].2.2.size) (hsz : fs[i].2.1.size + fs[i].2.2.size ≤ 1048576) :
    Calls Try.prog 30 #[.pointer (some ⟨db, 0, none⟩), .string k, .int .i64 m] w fun e w' => e = .returned (.int .i64 0) ∧ Dk w' db B (fs.set i (fs[i].1, cutv fs[i].2 m)) (powOf p) false sv ∧ Ch (fun x => x = db ∨ sv.ownBlock = some x) w w' := by
  have hA := dasks_any h k hn
  have ha : askNo fs false k = 0 := by simp [askNo, hx]
  rw [ha, if_pos rfl, hx] at hA
  obtain ⟨g, c, rfl⟩ := h.slice hi
  have hli : (i : Int) < (fs.length : Int) := by omega
  have hi0 : (0 : Int) ≤ (i : Int) := Int.natCast_nonneg _
  have c0 := h.c0
  have m0 := row_cell h.row (fcells_at fs i hi).1
  have m1 := row_cell h.row (fcells_at fs i hi).2.1
  have m2 := row_cell h.row (fcells_at fs i hi).2.2
  obtain ⟨sa, hsa⟩ : ∃ sa, fs[i].2.1 = sa := ⟨_, rfl⟩
  obtain ⟨re, hre⟩ : ∃ re, fs[i].2.2 = re := ⟨_, rfl⟩
  obtain ⟨nm, hnm⟩ : ∃ nm, fs[i].1 = nm := ⟨_, rfl⟩
  have hpr : fs[i].2 = (sa, re) := Prod.ext hsa hre
  rw [hsa, hre] at hm hsz
  rw [hpr, hnm]
  rw [hsa] at m1
  rw [hre] at m2
  rw [hnm] at m0
  have hdb := h.lt
  have hb : Below w.heap.size w (w.alloc (.cells #[.string nm, .string sa, .string re] 47)) := (Below.refl _ w).alloc (Nat.le_refl _) _
  have hB := dact_any (h.below hb) hp
  rw [hpo] at hB
  have hnew := heap_alloc_new w (.cells #[.string nm, .string sa, .string re] 47)
  have n1 : (w.alloc (.cells #[.string nm, .string sa, .string re] 47)).cell? ⟨w.heap.size, 1, none⟩ = some (.string sa) := by simp only [World.cell?, hnew]; rfl
  have n2 : (w.alloc (.cells #[.string nm, .string sa, .string re] 47)).cell? ⟨w.heap.size, 2, none⟩ = some (.string re) := by simp only [World.cell?, hnew]; rfl
  have h0 : ¬ (m : Int) < 0 := by omega
  have h1 : ¬ (sa.size : Int) + (re.size : Int) < (m : Int) := by omega
  have HB : Hid (Below w.heap.size w (w.alloc (.cells #[.string nm, .string sa, .string re] 47)) ∧ fs[i].2 = (sa, re) ∧ fs[i].1 = nm) := ⟨hb, hpr, hnm⟩
  clear h hb ha hx hnew hsa hre hnm hpr
  by_cases hle : m ≤ sa.size
  · have hle' : (m : Int) ≤ (sa.size : Int) := by omega
    go_enter Try.func30, Try.ntmps30
    go_wp2_with (first
      | (go_at_call 40; refine hA.mono ?_; rintro e w1 ⟨rfl, rfl⟩)
      | (go_at_call 42; (refine hB.mono ?_; rintro e w2 ⟨rfl, D2, C2⟩; have d0 := D2.c0; have q1 := C2.cell n1 (by simp; omega); have q2 := C2.cell n2 (by simp; omega); have k1 := row_cell D2.row (fcells_at fs i hi).2.1; have k2 := row_cell D2.row (fcells_at fs i hi).2.2; have fr := row_fro D2.row (i * 3 + 1); have D3 := D2.safe hi (sa.extract 0 m); have e0 := D3.c0; have fr2 := row_fro D3.row (i * 3 + 2); have HD : Hid _ := And.intro D2 (And.intro C2 D3); clear D2 C2 D3)))
    go_region
    all_goals go_wp2
    all_goals
      go_ret
      obtain ⟨D2, C2, D3⟩ := HD.out
      obtain ⟨hb, hpr, hnm⟩ := HB.out
      have D4 := D3.rest (i := i) (by simpa using hi) ⟨#[]⟩
      simp only [List.getElem_set_self, List.set_set, hnm] at D4
      refine ⟨rfl, ?_, ?_⟩
      · have e5 : cutv (sa, re) m = (sa.extract 0 m, ⟨#[]⟩) := if_pos hle
        rw [e5]
        exact ⟨D4.hd, D4.row⟩
      · have C3 : Ch (fun x => x = db ∨ some g = some x) w2 ((w2.setCell ⟨g, i * 3 + 1, none⟩ (.string (sa.extract 0 m))).setCell ⟨g, i * 3 + 2, none⟩ (.string ⟨#[]⟩)) := ((Ch.refl _ w2).setCell _ _ (fun _ => .inr rfl)).setCell _ _ (fun _ => .inr rfl)
        have C4 := ((Ch.of_below (X := fun x => x = db ∨ some g = some x) hb).trans (C2.mono (Y := fun x => x = db ∨ some g = some x) (fun k _ e => .inl e))).trans C3
        exact ⟨C4.os, C4.tape, C4.output, C4.size, C4.block⟩
  · have hle' : ¬ (m : Int) ≤ (sa.size : Int) := by omega
    have hw1 : IntKind.i64.wrap ((m : Int) - (sa.size : Int)) = ((m - sa.size : Nat) : Int) := by rw [IntKind.wrap_i64]; omega
    have hw2 : (m : Int) - (sa.size : Int) = ((m - sa.size : Nat) : Int) := by omega
    have hle2 : ((m - sa.size : Nat) : Int) ≤ (re.size : Int) := by omega
    have hle3 : m - sa.size ≤ re.size := by omega
    have HM : Hid (∃ u, u = m - sa.size) := ⟨_, rfl⟩
    obtain ⟨u, hu⟩ := HM.out
    rw [← hu] at hw1 hw2 hle2 hle3
    have HU : Hid (u = m - sa.size) := hu
    clear hu HM
    go_enter Try.func30, Try.ntmps30
    go_wp2_with (first
      | (go_at_call 40; refine hA.mono ?_; rintro e w1 ⟨rfl, rfl⟩)
      | (go_at_call 42; (refine hB.mono ?_; rintro e w2 ⟨rfl, D2, C2⟩; have d0 := D2.c0; have q1 := C2.cell n1 (by simp; omega); have q2 := C2.cell n2 (by simp; omega); have k2 := row_cell D2.row (fcells_at fs i hi).2.2; have fr := row_fro D2.row (i * 3 + 2); have HD : Hid _ := And.intro D2 C2; clear D2 C2)))
    go_region
    all_goals go_wp2
    all_goals
      go_ret
      obtain ⟨D2, C2⟩ := HD.out
      obtain ⟨hb, hpr, hnm⟩ := HB.out
      have D4 := D2.rest hi (re.extract 0 u)
      have e6 : fs[i].2.1 = sa := by rw [hpr]
      rw [hnm, e6] at D4
      refine ⟨rfl, ?_, ?_⟩
      · have e5 : cutv (sa, re) m = (sa, re.extract 0 u) := by rw [HU.out]; exact if_neg hle
        rw [e5]
        exact ⟨D4.hd, D4.row⟩
      · have C3 : Ch (fun x => x = db ∨ some g = some x) w2 (w2.setCell ⟨g, i * 3 + 2, none⟩ (.string (re.extract 0 u))) := (Ch.refl _ w2).setCell _ _ (fun _ => .inr rfl)
        have C4 := ((Ch.of_below (X := fun x => x = db ∨ some g = some x) hb).trans (C2.mono (Y := fun x => x = db ∨ some g = some x) (fun k _ e => .inl e))).trans C3
        exact ⟨C4.os, C4.tape, C4.output, C4.size, C4.block⟩
end Go.Proofs.Ytedcabnjcbdkaaa

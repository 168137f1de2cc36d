/-
  What an appended batch comes to; batches as an argument; the document's Batch; Drop from a block on.
-/
import Derived.Test.YteifkkceldlfnaaGreatDoorG6Drop
import Derived.Test.YteifkkceldlfnaaGreatDoorG6Shown
import Derived.SliceStrings
import Derived.Deep.Slices
import Derived.OpenShut
import Derived.Lib.SmallJoins
namespace Go.Proofs.YteifkkceldlfnaaGreatDoor
open Go.RowKit Go.Shelf Go.Sort
open Go.Lib hiding intOf
variable {w w' : World} {B lb d : Nat} {lg : Lg} {st : Ab} {l : List (List UInt8)}

theorem gApp_took (h : (gAppend lg st l).1.2 = 0) : (gAppend lg st l).1.1 = lg.next ∧ isB l = true ∧ (gAppend lg st l).2.1.next = lg.next + l.length := by
  by_cases h0 : gNo lg l = 0
  · obtain ⟨hb, hn, hz⟩ := gNo_zero h0
    by_cases h1 : (gRoom lg st).1 = 0
    · by_cases h2 : (aApp (gRoom lg st).2.2.2 (gName lg.pre (gRoom lg st).2.1 lg.next) (S (bfr lg.next l))).1 = 0
      · rw [gApp_ok h0 h1 h2]
        exact ⟨rfl, hb, rfl⟩
      · rw [gApp_bad h0 h1 h2] at h
        exact absurd h h2
    · rw [gApp_room h0 h1] at h
      exact absurd h h1
  · rw [gApp_no h0] at h
    exact absurd h h0
theorem gRoom_next (lg : Lg) (st : Ab) : (gRoom lg st).2.2.1.next = lg.next := by
  rcases room_split lg st with ⟨h1, h2⟩ | ⟨h1, h2, h3, h4⟩ | ⟨h1, h2, h3, h4⟩ | ⟨h1, h2, h4⟩
  · rw [h2]
  · rw [h4]
  · rw [h4]
  · rw [h4]
theorem gApp_not (h : (gAppend lg st l).1.2 ≠ 0) : (gAppend lg st l).1.1 = 0 ∧ (gAppend lg st l).2.1.next = lg.next := by
  have hr := gRoom_next lg st
  by_cases h0 : gNo lg l = 0
  · by_cases h1 : (gRoom lg st).1 = 0
    · by_cases h2 : (aApp (gRoom lg st).2.2.2 (gName lg.pre (gRoom lg st).2.1 lg.next) (S (bfr lg.next l))).1 = 0
      · rw [gApp_ok h0 h1 h2] at h
        exact absurd rfl h
      · rw [gApp_bad h0 h1 h2]
        exact ⟨rfl, hr⟩
    · rw [gApp_room h0 h1]
      exact ⟨rfl, hr⟩
  · rw [gApp_no h0]
    exact ⟨rfl, rfl⟩
theorem gFlush_next (lg : Lg) (st : Ab) : (gFlush lg st).2.1.next = lg.next := by
  unfold gFlush
  split
  · rfl
  · split
    · rfl
    · split
      · rfl
      · rfl
theorem gDrop_b {below : Nat} (h : Ls (fun x => B ≤ x) w B lb d lg st) : Calls Tryz.prog 48 #[.pointer (some ⟨lb, 0, none⟩), .int .u64 (below : Int)] w fun e w' =>
    e = .returned (.int .i64 (gDrop lg st below).1) ∧ Below B w w' ∧ Ls (fun x => B ≤ x) w' B lb d (gDrop lg st below).2.1 (gDrop lg st below).2.2 :=
  (gDrop_any h.tight).mono fun _ _ x => ⟨x.1, below_of_lft x.2 h.base.1⟩
/-- a slice of batches -/
def Bats (w : World) (v : Value) (ls : List (List (List UInt8))) : Prop := ∃ a c, v = .slice a ls.length c ∧ ∀ i, i < ls.length → ∃ b o u, a = some ⟨b, o, none⟩ ∧ b < w.heap.size ∧ w.cell? ⟨b, o + i, none⟩ = some u ∧ Strs w u (ls.getD i []) ∧ (ls.getD i []).length ≤ 9223372036854775807
theorem openBat {H : Type} {enc : TypeId × Value → H} {W : World} {v : Value} {x : DataW H × List MemPlace} {fuel : Nat}
    (hf : DataW.trod enc Tryz.prog W 0 (fun _ => true) true fuel 35 [v] = some x) : ∃ ls, Strs W v ls ∧ ls.length ≤ 9223372036854775807 := by
  rcases ChangeShapes.open_strings Tryz.underlying35 Tryz.underlying9 (by kernel_rfl) hf with ⟨hcs, hx⟩ | ⟨x, len0, cap0, ss, hcs, _, hl, hm, hz, hx, hcell, hws⟩
  · simp at hcs
    subst hcs
    exact ⟨[], ⟨none, 0, rfl, .inl rfl⟩, by simp⟩
  · simp at hcs
    subst hcs
    subst hx
    have hsl : ss.length = cap0 := by simpa using hz
    have hlen : ((ss.take len0).map fun s => s.data.toList).length = len0 := by simp; omega
    refine ⟨(ss.take len0).map fun s => s.data.toList, ⟨some x, cap0, by rw [hlen], ?_⟩, by rw [hlen]; unfold maxLen at hm; omega⟩
    by_cases h0 : len0 = 0
    · left; subst h0; simp
    · right
      obtain ⟨b, off, spot⟩ := x
      have hc := hcell 0 (by omega)
      have hspot : spot = none := by simpa [Addr.add] using World.cell?_spot hc
      subst hspot
      refine ⟨b, off, rfl, ?_, fun j hj => ?_⟩
      · rw [Addr.add_lit] at hc
        exact World.block_lt_of_cell? _ _ hc
      · rw [hlen] at hj
        have hcj := hcell j (by omega)
        rw [Addr.add_lit] at hcj
        rw [hcj]
        have e : ((ss.take len0).map fun s => s.data.toList).getD j [] = (ss.getD j ByteArray.empty).data.toList := by
          have hjs : j < ss.length := by omega
          simp [List.getD, hj, hjs]
        rw [e, S_of]
theorem openBats {H : Type} {enc : TypeId × Value → H} {W : World} {v : Value} {x : DataW H × List MemPlace} {fuel : Nat}
    (hf : DataW.trod enc Tryz.prog W 0 (fun _ => true) true fuel 58 [v] = some x) : ∃ ls, Bats W v ls ∧ ls.length ≤ 9223372036854775807 := by
  rcases Deep.open_slice1 Tryz.underlying58 (by kernel_rfl) hf with ⟨hcs, hx⟩ | ⟨a, len, cap, m, n, V, D, Pl, hcs, _, hl, hm, hmm, hx, hall⟩
  · simp at hcs
    subst hcs
    exact ⟨[], ⟨none, 0, rfl, fun i hi => by simp at hi⟩, by simp⟩
  · simp at hcs
    subst hcs
    have hmc : m = cap := by simpa using hmm
    have each : ∀ i, i < len → ∃ t, Strs W (V i) t ∧ t.length ≤ 9223372036854775807 := fun i hi => openBat (hall i (by omega)).2
    obtain ⟨X, hX⟩ := Deep.choose_lt each
    have hlen : ((List.range len).map X).length = len := by simp
    refine ⟨(List.range len).map X, ⟨some a, cap, by rw [hlen], fun i hi => ?_⟩, by rw [hlen]; unfold maxLen at hm; omega⟩
    rw [hlen] at hi
    obtain ⟨b, off, spot⟩ := a
    have hc := (hall i (by omega)).1
    have hc0 := (hall 0 (by omega)).1
    have hspot : spot = none := by simpa [Addr.add] using World.cell?_spot hc0
    subst hspot
    rw [Addr.add_lit] at hc
    have e : ((List.range len).map X).getD i [] = X i := by simp [List.getD, hi]
    rw [e]
    exact ⟨b, off, V i, rfl, World.block_lt_of_cell? _ _ hc, hc, hX i hi⟩
set_option maxHeartbeats 2000000 in
theorem rBatch_any {v : Value} {l : List (List UInt8)} {w : World} (h : Strs w v l) (hl : l.length ≤ 9223372036854775807) : Calls Tryz.prog 81 #[v] w fun e w' => e = .returned (.bool (isB l)) ∧ w' = w := by
  obtain ⟨a, c, rfl, h⟩ := h
  by_cases h1 : l.length < 1
  · have h1' : (l.length : Int) < 1 := by omega
    have e : isB l = false := by unfold isB; simp; omega
    rw [e]
    clear h
    go_enter Tryz.func81, Tryz.ntmps81
    go_wp2
    go_ret
    exact ⟨rfl, rfl⟩
  · have h1' : ¬ (l.length : Int) < 1 := by omega
    by_cases h2 : 256 < l.length
    · have h2' : (256 : Int) < (l.length : Int) := by omega
      have e : isB l = false := by unfold isB; simp; omega
      rw [e]
      clear h
      go_enter Tryz.func81, Tryz.ntmps81
      go_wp2
      go_ret
      exact ⟨rfl, rfl⟩
    · have h2' : ¬ (256 : Int) < (l.length : Int) := by omega
      rcases h with h | ⟨b, o, rfl, hb, hc⟩
      · rw [h] at h1; simp at h1
      have HI : Hid (1 ≤ l.length ∧ l.length ≤ 256) := ⟨by omega, by omega⟩
      go_enter Tryz.func81, Tryz.ntmps81
      go_wp2
      go_loopw [3] (fun vi wr => ∃ k : Nat, k ≤ l.length ∧ vi = .int .i64 (k : Int) ∧ wr = w ∧ ∀ r ∈ l.take k, r.length ≤ 4096)
        (fun vi _ => l.length - (intOf vi).toNat)
      case atStart => exact ⟨0, Nat.zero_le _, rfl, rfl, by simp⟩
      case round =>
        obtain ⟨k, hk, rfl, rfl, hr⟩ := hrel
        by_cases hkl : k < l.length
        · have ck := hc k hkl
          have hkl' : (k : Int) < (l.length : Int) := by omega
          have hk0 : (0 : Int) ≤ (k : Int) := by omega
          have hg : l.getD k [] = l[k] := by simp [List.getD, hkl]
          by_cases hz : 4096 < (l.getD k []).length
          · have hz' : (4096 : Int) < ((S (l.getD k [])).size : Int) := by rw [S_size]; omega
            have e : Hid (isB l = false) := by
              show isB l = false
              unfold isB
              simp only [Bool.and_eq_false_iff, List.all_eq_false, decide_eq_true_eq]
              exact .inr ⟨l[k], List.getElem_mem hkl, by rw [← hg]; omega⟩
            clear hc hr hg
            generalize S (l.getD k []) = s at ck hz'
            clear hz
            go_wp2
            go_ret
            exact ⟨by rw [e.out]; rfl, rfl⟩
          · have hz' : ¬ (4096 : Int) < ((S (l.getD k [])).size : Int) := by rw [S_size]; omega
            have HR : Hid (∀ r ∈ l.take (k + 1), r.length ≤ 4096) := by
              intro r hr'
              rw [List.take_succ_eq_append_getElem hkl] at hr'
              simp only [List.mem_append, List.mem_singleton] at hr'
              rcases hr' with hr' | rfl
              · exact hr r hr'
              · rw [← hg]; omega
            clear hc hr hg
            generalize S (l.getD k []) = s at ck hz'
            clear hz
            go_wp2
            exact ⟨⟨k + 1, by omega, by simp, trivial, HR.out⟩, by simp [intOf]; omega⟩
        · have hkl' : ¬ (k : Int) < (l.length : Int) := by omega
          have e : Hid (isB l = true) := isB_iff.2 ⟨HI.out, fun r hr' => hr r (by rw [List.take_of_length_le (by omega)]; exact hr')⟩
          clear hc hr
          go_wp2
          go_ret
          exact ⟨by rw [e.out]; rfl, rfl⟩
end Go.Proofs.YteifkkceldlfnaaGreatDoor

/-
  The document's Same of variables.
-/
import Derived.Test.YtgklemopmiabcaaGreatF13Base
namespace Go.Proofs.YtgklemopmiabcaaGreat.f13
open Go.RowKit Go.Shelf Go.Sort
open Go.Lib hiding intOf

theorem S_toList (l : List UInt8) : (S l).toList = l := by simp [S]
theorem below_drewN {B : Nat} {w wr : World} (h : Below B w wr) (n : Nat) : Below B w (wr.drewN n) := ⟨h.os, h.tape, h.output, h.size, h.block⟩
theorem dN {w wr : World} (h : ∃ m, wr = w.drewN m) : Below w.heap.size w wr := by obtain ⟨m, rfl⟩ := h; exact below_drewN (Below.refl _ _) m
theorem dM {w wr : World} (h : ∃ m, wr = w.drewN m) (n : Nat) : ∃ m, wr.drewN n = w.drewN m := by obtain ⟨m, rfl⟩ := h; exact ⟨m + n, World.drewN_drewN w m n⟩
theorem xA_ways {x y : Vr} (h : x ≠ y) : ((x.1.toList = y.1.toList) = False) ∨ ((x.1.toList = y.1.toList) = True ∧ (x.2.1 = y.2.1) = False) ∨ ((x.1.toList = y.1.toList) = True ∧ (x.2.1 = y.2.1) = True ∧ (x.2.2.1 = y.2.2.1) = False) ∨ ((x.1.toList = y.1.toList) = True ∧ (x.2.1 = y.2.1) = True ∧ (x.2.2.1 = y.2.2.1) = True ∧ ((S x.2.2.2).toList = (S y.2.2.2).toList) = False) := by
  obtain ⟨a, b, c, d⟩ := x
  obtain ⟨a', b', c', d'⟩ := y
  simp only
  by_cases h1 : a.toList = a'.toList
  · by_cases h2 : b = b'
    · by_cases h3 : c = c'
      · refine .inr (.inr (.inr ⟨eq_true h1, eq_true h2, eq_true h3, eq_false (fun e => h ?_)⟩))
        rw [S_toList, S_toList] at e
        rw [show a = a' from key_ext (by simpa [Lib.toList_data] using h1), h2, h3, e]
      · exact .inr (.inr (.inl ⟨eq_true h1, eq_true h2, eq_false h3⟩))
    · exact .inr (.inl ⟨eq_true h1, eq_false h2⟩)
  · exact .inl (eq_false h1)
set_option maxHeartbeats 4000000 in
set_option maxRecDepth 100000 in
theorem Same9_q {w : World} {v u : Value} {l m : List Vr} (hv : Rr 4 Vr.c w v l) (hu : Rr 4 Vr.c w u m) (hn : l.length ≤ 4611686018427387904) (hm : m.length ≤ 4611686018427387904) :
    Calls Tryz.prog 25 #[v, u] w fun e w' => e = .returned (.bool (decide (l = m))) ∧ ∃ m, w' = w.drewN m := by
  have HV : Hid (Rr 4 Vr.c w v l) := hv
  have HU : Hid (Rr 4 Vr.c w u m) := hu
  obtain ⟨a, cap, rfl, -⟩ := hv
  obtain ⟨a2, cap2, rfl, -⟩ := hu
  by_cases hl : l.length = m.length
  · have hl' : ((l.length : Int) != (m.length : Int)) = false := by rw [hl]; simp
    have HL : Hid (l.length = m.length) := hl
    clear hl
    go_enter Tryz.func25, Tryz.ntmps25
    go_wp2
    go_loopw [5] (fun v5 wr => ∃ i : Nat, v5 = .int .i64 (i : Int) ∧ i ≤ l.length ∧ Hid (l.take i = m.take i) ∧ Hid (∃ m, wr = w.drewN m)) (fun v5 _ => l.length - (intOf v5).toNat)
    case atStart => exact ⟨0, rfl, Nat.zero_le _, by show _ = _; simp, ⟨0, rfl⟩⟩
    case round =>
      obtain ⟨i, rfl, hi, HT, HW⟩ := hrel
      by_cases hil : i < l.length
      · have hil' : (i : Int) < (l.length : Int) := by omega
        have hi0 : (0 : Int) ≤ (i : Int) := by omega
        have him : i < m.length := by have := HL.out; omega
        have him' : (i : Int) < (m.length : Int) := by omega
        obtain ⟨b', off, cap', hsl, -, hbl, hcell⟩ := HV.out.at hil
        cases hsl
        obtain ⟨b2, off2, cap2', hsl2, -, hbl2, hcell2⟩ := HU.out.at him
        cases hsl2
        have m0 := hcell wr (dN HW.out) i hil 0 _ rfl
        have m1 := hcell wr (dN HW.out) i hil 1 _ rfl
        have m2 := hcell wr (dN HW.out) i hil 2 _ rfl
        have m3 := hcell wr (dN HW.out) i hil 3 _ rfl
        simp only [Nat.add_zero] at m0
        have n0 := hcell2 wr (dN HW.out) i him 0 _ rfl
        have n1 := hcell2 wr (dN HW.out) i him 1 _ rfl
        have n2 := hcell2 wr (dN HW.out) i him 2 _ rfl
        have n3 := hcell2 wr (dN HW.out) i him 3 _ rfl
        simp only [Nat.add_zero] at n0
        have HN : Hid (l[i] = m[i] → l.take (i + 1) = m.take (i + 1)) := fun e => by rw [List.take_succ_eq_append_getElem hil, List.take_succ_eq_append_getElem him, HT.out, e]
        have HF : Hid (l[i] ≠ m[i] → l ≠ m) := fun h e => h (by subst e; rfl)
        clear hcell hcell2
        obtain ⟨x, hx⟩ : ∃ x, l[i] = x := ⟨_, rfl⟩
        obtain ⟨y, hy⟩ : ∃ y, m[i] = y := ⟨_, rfl⟩
        rw [hx] at m0 m1 m2 m3 HN HF
        rw [hy] at n0 n1 n2 n3 HN HF
        clear hx hy
        by_cases hxy : x = y
        · subst hxy
          obtain ⟨nm, x1, x2, x3⟩ := x
          simp only at m0 m1 m2 m3 n0 n1 n2 n3
          go_wp2
          go_quiet (fail)
          go_wp2
          go_roundw
          case rel =>
            exact ⟨i + 1, by simp, by omega, HN.out (by first | rfl | trivial), dM HW.out _⟩
          case measure => simp [intOf]; omega
        · have hd := xA_ways hxy
          have HE : Hid (decide (l = m) = false) := decide_eq_false (HF.out hxy)
          obtain ⟨nm, x1, x2, x3⟩ := x
          obtain ⟨nm', y1, y2, y3⟩ := y
          simp only at m0 m1 m2 m3 n0 n1 n2 n3 hd
          clear hxy HN HF
          rcases hd with d1 | ⟨d1, d2⟩ | ⟨d1, d2, d3⟩ | ⟨d1, d2, d3, d4⟩
          all_goals
            go_wp2
            go_quiet (fail)
            go_wp2
            go_ret
            exact ⟨by rw [HE.out]; rfl, dM HW.out _⟩
      · have hil' : ¬ (i : Int) < (l.length : Int) := by omega
        have HE : Hid (decide (l = m) = true) := decide_eq_true (by have := HT.out; have hl := HL.out; rwa [List.take_of_length_le (by omega), List.take_of_length_le (by omega)] at this)
        go_wp2
        go_ret
        exact ⟨by rw [HE.out]; rfl, HW.out⟩
  · have hl' : ((l.length : Int) != (m.length : Int)) = true := bne_iff_ne.2 (by omega)
    have HE : Hid (decide (l = m) = false) := decide_eq_false (fun e => hl (by rw [e]))
    go_enter Tryz.func25, Tryz.ntmps25
    go_wp2
    go_ret
    exact ⟨by rw [HE.out]; rfl, ⟨0, rfl⟩⟩

theorem Same9_any {w : World} {v u : Value} {l m : List Vr} (hv : Rr 4 Vr.c w v l) (hu : Rr 4 Vr.c w u m) (hn : l.length ≤ 4611686018427387904) (hm : m.length ≤ 4611686018427387904) :
    Calls Tryz.prog 25 #[v, u] w fun e w' => e = .returned (.bool (decide (l = m))) ∧ Below w.heap.size w w' :=
  (Same9_q hv hu hn hm).mono fun _ _ ⟨h1, h2⟩ => ⟨h1, dN h2⟩
end Go.Proofs.YtgklemopmiabcaaGreat.f13

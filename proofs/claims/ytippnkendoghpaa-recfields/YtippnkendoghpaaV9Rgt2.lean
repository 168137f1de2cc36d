/-
  The document's Right: what it comes to.
-/
import Derived.Test.YtippnkendoghpaaV9Rgt
namespace Go.Proofs.Ytippnkendoghpaa
open Go.RowKit Go.Shelf Go.Sort
open Go.Lib hiding intOf

theorem lasN_take {l : List Vr} {j : Nat} (a : ByteArray) (h : j < l.length) : lasN a (l.take (j + 1)) = l[j].1 := by rw [take_snoc9 h, lasN_snoc]

set_option maxHeartbeats 4000000 in
set_option maxRecDepth 100000 in
theorem dRgt_any {w : World} {v : Value} {l : List Vr} (hv : Vs w v l) (hn : l.length ≤ 4611686018427387904) (hs : Sm9 l) :
    Calls Try.prog 21 #[v] w fun e w' => e = .returned (.bool (rgt l)) ∧ Below w.heap.size w w' := by
  by_cases z1 : 16 < l.length
  · obtain ⟨a, cap, rfl, -⟩ := hv
    have z1' : (16 : Int) < (l.length : Int) := by omega
    have HE : Hid (rgt l = false) := by show _ = _; unfold rgt; rw [decide_eq_false (by omega)]; rfl
    go_enter Try.func21, Try.ntmps21
    go_wp2
    go_ret
    rw [HE.out]
    exact ⟨rfl, Below.refl _ _⟩
  · have z1' : ¬ (16 : Int) < (l.length : Int) := by omega
    have HV : Hid (Vs w v l) := hv
    obtain ⟨a, cap, rfl, -⟩ := hv
    have HG : Hid (rgt l = rf ⟨#[]⟩ l) := by show _ = _; unfold rgt; rw [decide_eq_true (by omega)]; rfl
    go_enter Try.func21, Try.ntmps21
    go_wp2
    go_loopw [3] (fun v3 wr => ∃ i : Nat, i ≤ l.length ∧ v3 = .int .i64 (i : Int) ∧ Hid (rf ⟨#[]⟩ (l.take i) = true ∧ Below w.heap.size w wr)) (fun v3 _ => l.length - (intOf v3).toNat)
    case atStart => exact ⟨0, Nat.zero_le _, rfl, rfl, Below.refl _ _⟩
    case round =>
      obtain ⟨i, hi, rfl, HB⟩ := hrel
      by_cases hlt : i < l.length
      · have hlt' : (i : Int) < (l.length : Int) := by omega
        have hi0' : (0 : Int) ≤ (i : Int) := by omega
        obtain ⟨b, off, cap', hsl, hbl, hcell⟩ := HV.out.at hlt
        cases hsl
        obtain ⟨m0, -, -, -⟩ := hcell wr HB.out.2
        have HCL : Hid _ := hcell
        have hx := hs l[i] (List.getElem_mem hlt)
        have HNX : Hid (rf ⟨#[]⟩ (l.take (i + 1)) = (okV l[i] && lt (lasN ⟨#[]⟩ (l.take i)) l[i].1)) := rf_next hlt HB.out.1
        have hbw : Hid (Below w.heap.size w wr) := HB.out.2
        have hok : Hid (okV l[i] = (namV l[i].1.data.toList && mayV l[i].2)) := by show _ = _; rfl
        have CN := dNam_any l[i].1 (by omega)
        have CM := dMay_any l[i].2
        have hsx : l[i].1.size ≤ 140737488355328 := hx.1
        have LT0 : Hid (i = 0 → okV l[i] = true → lt (lasN ⟨#[]⟩ (l.take i)) l[i].1 = true) := fun h0 h1 => by
          have e0 : lasN ⟨#[]⟩ (l.take i) = ⟨#[]⟩ := by rw [h0]; rfl
          rw [e0]
          exact okV_lt h1
        unfold vA at CM
        clear HB hcell hx
        have HX : Hid (∀ p : Bool, rf ⟨#[]⟩ (l.take (i + 1)) = p → p = false → rgt l = false) := fun p h1 h2 => by rw [HG.out]; exact rf_stop (h1.trans h2)
        obtain ⟨x, hxx⟩ : ∃ x, l[i] = x := ⟨_, rfl⟩
        rw [hxx] at m0 CN CM HNX hok hsx LT0 HCL
        obtain ⟨nm, k, n, s⟩ := x
        clear hxx
        simp only at m0 CN CM hsx
        cases q1 : namV nm.data.toList with
        | false =>
          rw [q1] at CN
          have HE : Hid (rgt l = false) := HX.out _ HNX.out (by rw [hok.out]; simp [q1])
          clear HX HNX hok q1 LT0
          cases q2 : mayV (k, n, s) with
          | false =>
            rw [q2] at CM
            obtain ⟨-, m1, m2, m3⟩ := HCL.out wr hbw.out
            simp only at m1 m2 m3
            go_wp2_with (first
              | (go_at_call 48; refine (CN _).mono ?_; rintro e w1 ⟨rfl, hw1⟩; rw [hw1]; clear hw1 w1)
              | (go_at_call 49; refine (CM _).mono ?_; rintro e w1 ⟨rfl, b1⟩; have B1 : Hid (Below w.heap.size w w1) := bel_of hbw.out b1 (Nat.le_refl _); clear b1))
            go_ret
            rw [HE.out]
            exact ⟨rfl, B1.out⟩
          | true =>
            rw [q2] at CM
            obtain ⟨-, m1, m2, m3⟩ := HCL.out wr hbw.out
            simp only at m1 m2 m3
            go_wp2_with (first
              | (go_at_call 48; refine (CN _).mono ?_; rintro e w1 ⟨rfl, hw1⟩; rw [hw1]; clear hw1 w1)
              | (go_at_call 49; refine (CM _).mono ?_; rintro e w1 ⟨rfl, b1⟩; have B1 : Hid (Below w.heap.size w w1) := bel_of hbw.out b1 (Nat.le_refl _); clear b1))
            go_ret
            rw [HE.out]
            exact ⟨rfl, B1.out⟩
        | true =>
          rw [q1] at CN
          obtain ⟨-, m1, m2, m3⟩ := HCL.out wr hbw.out
          simp only at m1 m2 m3
          cases q2 : mayV (k, n, s) with
          | false =>
            rw [q2] at CM
            have HE : Hid (rgt l = false) := HX.out _ HNX.out (by rw [hok.out]; simp [q2])
            clear HX HNX hok q1 q2 LT0
            go_wp2_with (first
              | (go_at_call 48; refine (CN _).mono ?_; rintro e w1 ⟨rfl, hw1⟩; rw [hw1]; clear hw1 w1)
              | (go_at_call 49; refine (CM _).mono ?_; rintro e w1 ⟨rfl, b1⟩; have B1 : Hid (Below w.heap.size w w1) := bel_of hbw.out b1 (Nat.le_refl _); clear b1))
            go_ret
            rw [HE.out]
            exact ⟨rfl, B1.out⟩
          | true =>
            rw [q2] at CM
            have HO : okV (nm, k, n, s) = true := by rw [hok.out]; simp [q1, q2]
            have hnx := HNX.out
            rw [HO, Bool.true_and] at hnx
            have HN1 : Hid _ := hnx
            have LT1 : Hid (i = 0 → lt (lasN ⟨#[]⟩ (l.take i)) nm = true) := fun h => LT0.out h HO
            clear HNX hok q1 q2 LT0 HO hnx
            cases i with
            | zero =>
              have HE : Hid (rf ⟨#[]⟩ (l.take (0 + 1)) = true) := HN1.out.trans (LT1.out rfl)
              have hz : ((0 : Nat) : Int) = 0 := rfl
              simp only [hz, Nat.zero_mul, Nat.add_zero] at *
              go_wp2_with (first
                | (go_at_call 48; refine (CN _).mono ?_; rintro e w1 ⟨rfl, hw1⟩; rw [hw1]; clear hw1 w1)
                | (go_at_call 49; refine (CM _).mono ?_; rintro e w1 ⟨rfl, b1⟩; have B1 : Hid (Below w.heap.size w w1) := bel_of hbw.out b1 (Nat.le_refl _); clear b1))
              go_quiet (fail)
              go_wp2
              go_roundw
              case rel => exact ⟨1, by omega, by simp, HE.out, below_drewN B1.out _⟩
              case measure => simp [intOf]; omega
            | succ j =>
              have hjl : j < l.length := by omega
              obtain ⟨b', off', cap2, hsl2, -, hc2⟩ := HV.out.at hjl
              cases hsl2
              have HC2 : Hid _ := hc2
              have y1 := (hs l[j] (List.getElem_mem hjl)).1
              have HLA : Hid (lasN ⟨#[]⟩ (l.take (j + 1)) = l[j].1) := lasN_take _ hjl
              obtain ⟨y, hy⟩ : ∃ y, l[j].1 = y := ⟨_, rfl⟩
              rw [hy] at y1 HLA HC2
              have HL := fun W => Less_quiet y nm (by omega) (by omega) W
              obtain ⟨bl, hbl⟩ : ∃ bl, lt y nm = bl := ⟨_, rfl⟩
              have HN2 : Hid (rf ⟨#[]⟩ (l.take (j + 1 + 1)) = bl) := by show _ = _; rw [HN1.out, HLA.out]; exact hbl
              rw [hbl] at HL
              have hj0 : (0 : Int) < (j : Int) + 1 := by omega
              have hj1 : (0 : Int) ≤ (j : Int) := by omega
              have hj2 : (j : Int) < (l.length : Int) := by omega
              have hj3 : (j : Int) + 1 < (l.length : Int) := by omega
              clear hbl hc2 y1 HLA hy HN1 LT1
              have hcast : ((j + 1 : Nat) : Int) = (j : Int) + 1 := by omega
              rw [hcast] at hlt' hi0'
              go_wp2_with (first
                | (go_at_call 48; refine (CN _).mono ?_; rintro e w1 ⟨rfl, hw1⟩; rw [hw1]; clear hw1 w1)
                | (go_at_call 49; refine (CM _).mono ?_; rintro e w1 ⟨rfl, b1⟩; (have B1 : Hid (Below w.heap.size w w1) := bel_of hbw.out b1 (Nat.le_refl _)); have n0 := (HC2.out w1 B1.out).1; have n1 := (HCL.out w1 B1.out).1; clear b1))
              go_quiet ((go_at_call 50; refine Calls.quiet_of (HL _)))
              cases bl with
              | false =>
                have HE : Hid (rgt l = false) := HX.out _ HN2.out rfl
                go_wp2
                go_ret
                rw [HE.out]
                exact ⟨rfl, below_drewN B1.out _⟩
              | true =>
                go_wp2
                go_roundw
                case rel => exact ⟨j + 1 + 1, by omega, by simp, HN2.out, below_drewN B1.out _⟩
                case measure => simp [intOf]; omega
      · obtain rfl : i = l.length := by omega
        have hlt' : ¬ (l.length : Int) < (l.length : Int) := by omega
        have HE : Hid (rgt l = true) := by show _ = _; rw [HG.out]; have := HB.out.1; rw [List.take_length] at this; exact this
        have hbw : Hid (Below w.heap.size w wr) := HB.out.2
        clear HB
        go_wp2
        go_ret
        rw [HE.out]
        exact ⟨rfl, hbw.out⟩
end Go.Proofs.Ytippnkendoghpaa

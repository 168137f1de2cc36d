/-
  Package value: Right, and the document's.
-/
import Derived.Test.YtpbfdaijnndilaaGreatDoorV9Doc
namespace Go.Proofs.YtpbfdaijnndilaaGreatDoor
open Go.RowKit Go.Shelf Go.Sort
open Go.Lib hiding intOf

theorem leq_str (a b : ByteArray) (w : World) : (binOp .leq 9 (.string a) (.string b)).run Tryz.prog w = .ok (.bool (!(lt b a))) w := by
  have h : (binOp .leq 9 (.string a) (.string b)).run Tryz.prog w = .ok (.bool (Op.bytesLess a.toList b.toList || a.toList == b.toList)) w := by
    simp only [binOp]; rfl
  rw [h]
  congr 2
  cases h1 : lt b a with
  | true =>
    have h2 := lt_asymm h1
    unfold lt at h2
    rw [h2]
    have : (a.toList == b.toList) = false := beq_eq_false_iff_ne.2 (fun e => by
      have e2 : a = b := key_ext (by simpa [Lib.toList_data] using e)
      subst e2; rw [lt_irrefl] at h1; cases h1)
    simp [this]
  | false =>
    cases h2 : lt a b with
    | true => unfold lt at h2; simp [h2]
    | false => have := lt_total h2 h1; subst this; simp

/-- v is a slice of these variables -/
def Vs (w : World) (v : Value) (l : List Vr) : Prop :=
  ∃ a cap, v = .slice a l.length cap ∧ (l.length ≤ cap ∧ (a = none → cap = 0)) ∧ (l = [] ∨ ∃ b off, a = some ⟨b, off, none⟩ ∧ b < w.heap.size ∧ ∀ (j : Nat) (h : j < l.length), w.cell? ⟨b, off + j * 4, none⟩ = some (.string l[j].1) ∧ w.cell? ⟨b, off + j * 4 + 1, none⟩ = some (.int .i64 l[j].2.1) ∧ w.cell? ⟨b, off + j * 4 + 2, none⟩ = some (.int .i64 l[j].2.2.1) ∧ w.cell? ⟨b, off + j * 4 + 3, none⟩ = some (.string (S l[j].2.2.2)))
theorem Vs.below {w w' : World} {v : Value} {l : List Vr} (h : Vs w v l) {B : Nat} (hb : Below B w w') (hB : w.heap.size ≤ B) : Vs w' v l := by
  obtain ⟨a, cap, rfl, hc, h⟩ := h
  refine ⟨a, cap, rfl, hc, h.imp id ?_⟩
  rintro ⟨b, off, rfl, hlt, hc⟩
  exact ⟨b, off, rfl, Nat.lt_of_lt_of_le hlt hb.size, fun j hj => ⟨(hb.cell (p := ⟨b, off + j * 4, none⟩) (by simp only; omega)).trans (hc j hj).1, (hb.cell (p := ⟨b, off + j * 4 + 1, none⟩) (by simp only; omega)).trans (hc j hj).2.1, (hb.cell (p := ⟨b, off + j * 4 + 2, none⟩) (by simp only; omega)).trans (hc j hj).2.2.1, (hb.cell (p := ⟨b, off + j * 4 + 3, none⟩) (by simp only; omega)).trans (hc j hj).2.2.2⟩⟩
theorem Vs.up {w w' : World} {v : Value} {l : List Vr} (h : Vs w v l) (hb : Below w.heap.size w w') : Vs w' v l := h.below hb (Nat.le_refl _)
theorem Vs.nil (w : World) : Vs w (.slice none 0 0) [] := ⟨none, 0, rfl, ⟨Nat.le_refl _, fun _ => rfl⟩, .inl rfl⟩
/-- the cells of one variable -/
theorem Vs.at {w : World} {v : Value} {l : List Vr} (h : Vs w v l) {i : Nat} (hi : i < l.length) : ∃ b off cap, v = .slice (some ⟨b, off, none⟩) l.length cap ∧ b < w.heap.size ∧ ∀ w', Below w.heap.size w w' → w'.cell? ⟨b, off + i * 4, none⟩ = some (.string l[i].1) ∧ w'.cell? ⟨b, off + i * 4 + 1, none⟩ = some (.int .i64 l[i].2.1) ∧ w'.cell? ⟨b, off + i * 4 + 2, none⟩ = some (.int .i64 l[i].2.2.1) ∧ w'.cell? ⟨b, off + i * 4 + 3, none⟩ = some (.string (S l[i].2.2.2)) := by
  obtain ⟨a, cap, rfl, -, h⟩ := h
  rcases h with rfl | ⟨b, off, rfl, hlt, hc⟩
  · cases hi
  · exact ⟨b, off, cap, rfl, hlt, fun w' hb => ⟨(hb.cell (p := ⟨b, off + i * 4, none⟩) hlt).trans (hc i hi).1, (hb.cell (p := ⟨b, off + i * 4 + 1, none⟩) hlt).trans (hc i hi).2.1, (hb.cell (p := ⟨b, off + i * 4 + 2, none⟩) hlt).trans (hc i hi).2.2.1, (hb.cell (p := ⟨b, off + i * 4 + 3, none⟩) hlt).trans (hc i hi).2.2.2⟩⟩
def Sm9 (l : List Vr) : Prop := ∀ x ∈ l, x.1.size ≤ 140737488355328 ∧ Vk x.2
theorem take_snoc9 {l : List Vr} {k : Nat} (h : k < l.length) : l.take (k + 1) = l.take k ++ [l[k]] := List.take_succ_eq_append_getElem h
theorem rf_next {l : List Vr} {a : ByteArray} {i : Nat} (h : i < l.length) (h0 : rf a (l.take i) = true) : rf a (l.take (i + 1)) = (okV l[i] && lt (lasN a (l.take i)) l[i].1) := by rw [take_snoc9 h, rf_snoc, h0, Bool.true_and]
theorem rf_stop {l : List Vr} {a : ByteArray} {i : Nat} (h : rf a (l.take i) = false) : rf a l = false := by
  rw [← Bool.not_eq_true]; intro k; rw [rf_take k] at h; cases h
theorem bel_of {u v w : World} {B : Nat} (h : Below u.heap.size u v) (k : Below B v w) (hB : v.heap.size ≤ B) : Below u.heap.size u w := h.trans (k.mono (by have := h.size; omega))

set_option maxHeartbeats 4000000 in
set_option maxRecDepth 100000 in
theorem Right_any {w : World} {v : Value} {l : List Vr} (hv : Vs w v l) (hn : l.length ≤ 4611686018427387904) (hs : Sm9 l) :
    Calls Tryz.prog 41 #[v] w fun e w' => e = .returned (.bool (rgt l)) ∧ Below w.heap.size w w' := by
  have hleq := leq_str
  by_cases z1 : 16 < l.length
  · obtain ⟨a, cap, rfl, -⟩ := hv
    have z1' : (16 : Int) < (l.length : Int) := by omega
    have HE : Hid (rgt l = false) := by show _ = _; unfold rgt; rw [decide_eq_false (by omega)]; rfl
    go_enter Tryz.func41, Tryz.ntmps41
    go_wp2
    go_ret
    rw [HE.out]
    exact ⟨rfl, Below.refl _ _⟩
  · have z1' : ¬ (16 : Int) < (l.length : Int) := by omega
    have HV : Hid (Vs w v l) := hv
    obtain ⟨a, cap, rfl, -⟩ := hv
    have HG : Hid (rgt l = rf ⟨#[]⟩ l) := by show _ = _; unfold rgt; rw [decide_eq_true (by omega)]; rfl
    go_enter Tryz.func41, Tryz.ntmps41
    go_wp2
    go_loopw [3, 11] (fun v3 v11 wr => ∃ i : Nat, i ≤ l.length ∧ v11 = .int .i64 (i : Int) ∧ v3 = .string (lasN ⟨#[]⟩ (l.take i)) ∧ Hid (rf ⟨#[]⟩ (l.take i) = true ∧ Below w.heap.size w wr)) (fun _ v11 _ => l.length - (intOf v11).toNat)
    case atStart => exact ⟨0, Nat.zero_le _, rfl, rfl, rfl, Below.refl _ _⟩
    case round =>
      obtain ⟨i, hi, rfl, rfl, HB⟩ := hrel
      by_cases hlt : i < l.length
      · have hlt' : (i : Int) < (l.length : Int) := by omega
        have hi0' : (0 : Int) ≤ (i : Int) := by omega
        obtain ⟨b, off, cap', hsl, hbl, hcell⟩ := HV.out.at hlt
        cases hsl
        obtain ⟨m0, m1, m2, m3⟩ := hcell wr HB.out.2
        have hx := hs l[i] (List.getElem_mem hlt)
        have HNX : Hid (rf ⟨#[]⟩ (l.take (i + 1)) = (okV l[i] && lt (lasN ⟨#[]⟩ (l.take i)) l[i].1)) := rf_next hlt HB.out.1
        have HLN : Hid (lasN ⟨#[]⟩ (l.take (i + 1)) = l[i].1) := by show _ = _; rw [take_snoc9 hlt, lasN_snoc]
        have hbw : Hid (Below w.heap.size w wr) := HB.out.2
        have hok : Hid (okV l[i] = (namV l[i].1.data.toList && mayV l[i].2)) := by show _ = _; rfl
        have CN := Named_any l[i].1 (by omega)
        have CM := May_any l[i].2
        unfold vA at CM
        clear HB hcell hx
        generalize lasN ⟨#[]⟩ (l.take i) = ah at *
        have HX : Hid (∀ p : Bool, rf ⟨#[]⟩ (l.take (i + 1)) = p → p = false → rgt l = false) := fun p h1 h2 => by rw [HG.out]; exact rf_stop (h1.trans h2)
        generalize l[i] = x at *
        obtain ⟨nm, k, n, s⟩ := x
        simp only at m0 m1 m2 m3 CN CM
        cases q1 : namV nm.data.toList with
        | false =>
          rw [q1] at CN
          have HE : Hid (rgt l = false) := HX.out _ HNX.out (by rw [hok.out]; simp [q1])
          clear HX HNX HLN hok q1
          go_wp2_with (go_at_call 62; refine (CN _).mono ?_; rintro e w1 ⟨rfl, hw1⟩; rw [hw1]; clear hw1 w1)
          go_ret
          rw [HE.out]
          exact ⟨rfl, hbw.out.alloc hbw.out.size _⟩
        | true =>
          rw [q1] at CN
          cases q2 : mayV (k, n, s) with
          | false =>
            rw [q2] at CM
            have HE : Hid (rgt l = false) := HX.out _ HNX.out (by rw [hok.out]; simp [q2])
            clear HX HNX HLN hok q1 q2
            go_wp2_with (first
              | (go_at_call 62; refine (CN _).mono ?_; rintro e w1 ⟨rfl, hw1⟩; rw [hw1]; clear hw1 w1)
              | (go_at_call 67; refine (CM _).mono ?_; rintro e w1 ⟨rfl, b1⟩; have B1 : Hid (Below w.heap.size w w1) := bel_of (hbw.out.alloc hbw.out.size _) b1 (Nat.le_refl _); clear b1))
            go_ret
            rw [HE.out]
            exact ⟨rfl, B1.out⟩
          | true =>
            rw [q2] at CM
            cases q3 : lt ah nm with
            | false =>
              have HE : Hid (rgt l = false) := HX.out _ HNX.out (by simp [q3])
              clear HX HNX HLN hok q1 q2
              go_wp2_with (first
                | (go_at_call 62; refine (CN _).mono ?_; rintro e w1 ⟨rfl, hw1⟩; rw [hw1]; clear hw1 w1)
                | (go_at_call 67; refine (CM _).mono ?_; rintro e w1 ⟨rfl, b1⟩; (have B1 : Hid (Below w.heap.size w w1) := bel_of (hbw.out.alloc hbw.out.size _) b1 (Nat.le_refl _)); (have c0 := (b1.cell (p := ⟨wr.heap.size, 0, none⟩) (by simp)).trans (World.cell?_alloc_new _ _ _ _)); clear b1))
              go_ret
              rw [HE.out]
              exact ⟨rfl, B1.out⟩
            | true =>
              have HE : Hid (rf ⟨#[]⟩ (l.take (i + 1)) = true) := by show _ = _; rw [HNX.out, hok.out]; simp [q1, q2, q3]
              clear HX HNX hok q1 q2
              go_wp2_with (first
                | (go_at_call 62; refine (CN _).mono ?_; rintro e w1 ⟨rfl, hw1⟩; rw [hw1]; clear hw1 w1)
                | (go_at_call 67; refine (CM _).mono ?_; rintro e w1 ⟨rfl, b1⟩; (have B1 : Hid (Below w.heap.size w w1) := bel_of (hbw.out.alloc hbw.out.size _) b1 (Nat.le_refl _)); (have c0 := (b1.cell (p := ⟨wr.heap.size, 0, none⟩) (by simp)).trans (World.cell?_alloc_new _ _ _ _)); clear b1))
              go_roundw
              case rel => exact ⟨i + 1, by omega, by simp, by rw [HLN.out], HE.out, B1.out⟩
              case measure => simp [intOf]; omega
      · obtain rfl : i = l.length := by omega
        have hlt' : ¬ (l.length : Int) < (l.length : Int) := by omega
        have HE : Hid (rgt l = true) := by show _ = _; rw [HG.out]; have := HB.out.1; rw [List.take_length] at this; exact this
        have hbw : Hid (Below w.heap.size w wr) := HB.out.2
        clear HB
        go_wp2
        go_ret
        rw [HE.out]
        exact ⟨rfl, hbw.out⟩
end Go.Proofs.YtpbfdaijnndilaaGreatDoor
namespace Go.Proofs.YtpbfdaijnndilaaGreatDoor
open Go.RowKit Go.Shelf Go.Sort
open Go.Lib hiding intOf

theorem lasN_take {l : List Vr} {j : Nat} (a : ByteArray) (h : j < l.length) : lasN a (l.take (j + 1)) = l[j].1 := by rw [take_snoc9 h, lasN_snoc]

set_option maxHeartbeats 4000000 in
set_option maxRecDepth 100000 in
theorem dRgt_any {w : World} {v : Value} {l : List Vr} (hv : Vs w v l) (hn : l.length ≤ 4611686018427387904) (hs : Sm9 l) :
    Calls Tryz.prog 19 #[v] w fun e w' => e = .returned (.bool (rgt l)) ∧ Below w.heap.size w w' := by
  by_cases z1 : 16 < l.length
  · obtain ⟨a, cap, rfl, -⟩ := hv
    have z1' : (16 : Int) < (l.length : Int) := by omega
    have HE : Hid (rgt l = false) := by show _ = _; unfold rgt; rw [decide_eq_false (by omega)]; rfl
    go_enter Tryz.func19, Tryz.ntmps19
    go_wp2
    go_ret
    rw [HE.out]
    exact ⟨rfl, Below.refl _ _⟩
  · have z1' : ¬ (16 : Int) < (l.length : Int) := by omega
    have HV : Hid (Vs w v l) := hv
    obtain ⟨a, cap, rfl, -⟩ := hv
    have HG : Hid (rgt l = rf ⟨#[]⟩ l) := by show _ = _; unfold rgt; rw [decide_eq_true (by omega)]; rfl
    go_enter Tryz.func19, Tryz.ntmps19
    go_wp2
    go_loopw [3] (fun v3 wr => ∃ i : Nat, i ≤ l.length ∧ v3 = .int .i64 (i : Int) ∧ Hid (rf ⟨#[]⟩ (l.take i) = true ∧ Below w.heap.size w wr)) (fun v3 _ => l.length - (intOf v3).toNat)
    case atStart => exact ⟨0, Nat.zero_le _, rfl, rfl, Below.refl _ _⟩
    case round =>
      obtain ⟨i, hi, rfl, HB⟩ := hrel
      by_cases hlt : i < l.length
      · have hlt' : (i : Int) < (l.length : Int) := by omega
        have hi0' : (0 : Int) ≤ (i : Int) := by omega
        obtain ⟨b, off, cap', hsl, hbl, hcell⟩ := HV.out.at hlt
        cases hsl
        obtain ⟨m0, -, -, -⟩ := hcell wr HB.out.2
        have HCL : Hid _ := hcell
        have hx := hs l[i] (List.getElem_mem hlt)
        have HNX : Hid (rf ⟨#[]⟩ (l.take (i + 1)) = (okV l[i] && lt (lasN ⟨#[]⟩ (l.take i)) l[i].1)) := rf_next hlt HB.out.1
        have hbw : Hid (Below w.heap.size w wr) := HB.out.2
        have hok : Hid (okV l[i] = (namV l[i].1.data.toList && mayV l[i].2)) := by show _ = _; rfl
        have CN := dNam_any l[i].1 (by omega)
        have CM := dMay_any l[i].2
        have hsx : l[i].1.size ≤ 140737488355328 := hx.1
        have LT0 : Hid (i = 0 → okV l[i] = true → lt (lasN ⟨#[]⟩ (l.take i)) l[i].1 = true) := fun h0 h1 => by
          have e0 : lasN ⟨#[]⟩ (l.take i) = ⟨#[]⟩ := by rw [h0]; rfl
          rw [e0]
          exact okV_lt h1
        unfold vA at CM
        clear HB hcell hx
        have HX : Hid (∀ p : Bool, rf ⟨#[]⟩ (l.take (i + 1)) = p → p = false → rgt l = false) := fun p h1 h2 => by rw [HG.out]; exact rf_stop (h1.trans h2)
        obtain ⟨x, hxx⟩ : ∃ x, l[i] = x := ⟨_, rfl⟩
        rw [hxx] at m0 CN CM HNX hok hsx LT0 HCL
        obtain ⟨nm, k, n, s⟩ := x
        clear hxx
        simp only at m0 CN CM hsx
        cases q1 : namV nm.data.toList with
        | false =>
          rw [q1] at CN
          have HE : Hid (rgt l = false) := HX.out _ HNX.out (by rw [hok.out]; simp [q1])
          clear HX HNX hok q1 LT0
          cases q2 : mayV (k, n, s) with
          | false =>
            rw [q2] at CM
            obtain ⟨-, m1, m2, m3⟩ := HCL.out wr hbw.out
            simp only at m1 m2 m3
            go_wp2_with (first
              | (go_at_call 38; refine (CN _).mono ?_; rintro e w1 ⟨rfl, hw1⟩; rw [hw1]; clear hw1 w1)
              | (go_at_call 21; refine (CM _).mono ?_; rintro e w1 ⟨rfl, b1⟩; have B1 : Hid (Below w.heap.size w w1) := bel_of hbw.out b1 (Nat.le_refl _); clear b1))
            go_ret
            rw [HE.out]
            exact ⟨rfl, B1.out⟩
          | true =>
            rw [q2] at CM
            obtain ⟨-, m1, m2, m3⟩ := HCL.out wr hbw.out
            simp only at m1 m2 m3
            go_wp2_with (first
              | (go_at_call 38; refine (CN _).mono ?_; rintro e w1 ⟨rfl, hw1⟩; rw [hw1]; clear hw1 w1)
              | (go_at_call 21; refine (CM _).mono ?_; rintro e w1 ⟨rfl, b1⟩; have B1 : Hid (Below w.heap.size w w1) := bel_of hbw.out b1 (Nat.le_refl _); clear b1))
            go_ret
            rw [HE.out]
            exact ⟨rfl, B1.out⟩
        | true =>
          rw [q1] at CN
          obtain ⟨-, m1, m2, m3⟩ := HCL.out wr hbw.out
          simp only at m1 m2 m3
          cases q2 : mayV (k, n, s) with
          | false =>
            rw [q2] at CM
            have HE : Hid (rgt l = false) := HX.out _ HNX.out (by rw [hok.out]; simp [q2])
            clear HX HNX hok q1 q2 LT0
            go_wp2_with (first
              | (go_at_call 38; refine (CN _).mono ?_; rintro e w1 ⟨rfl, hw1⟩; rw [hw1]; clear hw1 w1)
              | (go_at_call 21; refine (CM _).mono ?_; rintro e w1 ⟨rfl, b1⟩; have B1 : Hid (Below w.heap.size w w1) := bel_of hbw.out b1 (Nat.le_refl _); clear b1))
            go_ret
            rw [HE.out]
            exact ⟨rfl, B1.out⟩
          | true =>
            rw [q2] at CM
            have HO : okV (nm, k, n, s) = true := by rw [hok.out]; simp [q1, q2]
            have hnx := HNX.out
            rw [HO, Bool.true_and] at hnx
            have HN1 : Hid _ := hnx
            have LT1 : Hid (i = 0 → lt (lasN ⟨#[]⟩ (l.take i)) nm = true) := fun h => LT0.out h HO
            clear HNX hok q1 q2 LT0 HO hnx
            cases i with
            | zero =>
              have HE : Hid (rf ⟨#[]⟩ (l.take (0 + 1)) = true) := HN1.out.trans (LT1.out rfl)
              have hz : ((0 : Nat) : Int) = 0 := rfl
              simp only [hz, Nat.zero_mul, Nat.add_zero] at *
              go_wp2_with (first
                | (go_at_call 38; refine (CN _).mono ?_; rintro e w1 ⟨rfl, hw1⟩; rw [hw1]; clear hw1 w1)
                | (go_at_call 21; refine (CM _).mono ?_; rintro e w1 ⟨rfl, b1⟩; have B1 : Hid (Below w.heap.size w w1) := bel_of hbw.out b1 (Nat.le_refl _); clear b1))
              go_quiet (fail)
              go_wp2
              go_roundw
              case rel => exact ⟨1, by omega, by simp, HE.out, below_drewN B1.out _⟩
              case measure => simp [intOf]; omega
            | succ j =>
              have hjl : j < l.length := by omega
              obtain ⟨b', off', cap2, hsl2, -, hc2⟩ := HV.out.at hjl
              cases hsl2
              have HC2 : Hid _ := hc2
              have y1 := (hs l[j] (List.getElem_mem hjl)).1
              have HLA : Hid (lasN ⟨#[]⟩ (l.take (j + 1)) = l[j].1) := lasN_take _ hjl
              obtain ⟨y, hy⟩ : ∃ y, l[j].1 = y := ⟨_, rfl⟩
              rw [hy] at y1 HLA HC2
              have HL := fun W => Less_quiet y nm (by omega) (by omega) W
              obtain ⟨bl, hbl⟩ : ∃ bl, lt y nm = bl := ⟨_, rfl⟩
              have HN2 : Hid (rf ⟨#[]⟩ (l.take (j + 1 + 1)) = bl) := by show _ = _; rw [HN1.out, HLA.out]; exact hbl
              rw [hbl] at HL
              have hj0 : (0 : Int) < (j : Int) + 1 := by omega
              have hj1 : (0 : Int) ≤ (j : Int) := by omega
              have hj2 : (j : Int) < (l.length : Int) := by omega
              have hj3 : (j : Int) + 1 < (l.length : Int) := by omega
              clear hbl hc2 y1 HLA hy HN1 LT1
              have hcast : ((j + 1 : Nat) : Int) = (j : Int) + 1 := by omega
              rw [hcast] at hlt' hi0'
              go_wp2_with (first
                | (go_at_call 38; refine (CN _).mono ?_; rintro e w1 ⟨rfl, hw1⟩; rw [hw1]; clear hw1 w1)
                | (go_at_call 21; refine (CM _).mono ?_; rintro e w1 ⟨rfl, b1⟩; (have B1 : Hid (Below w.heap.size w w1) := bel_of hbw.out b1 (Nat.le_refl _)); have n0 := (HC2.out w1 B1.out).1; have n1 := (HCL.out w1 B1.out).1; clear b1))
              go_quiet ((go_at_call 40; refine Calls.quiet_of (HL _)))
              cases bl with
              | false =>
                have HE : Hid (rgt l = false) := HX.out _ HN2.out rfl
                go_wp2
                go_ret
                rw [HE.out]
                exact ⟨rfl, below_drewN B1.out _⟩
              | true =>
                go_wp2
                go_roundw
                case rel => exact ⟨j + 1 + 1, by omega, by simp, HN2.out, below_drewN B1.out _⟩
                case measure => simp [intOf]; omega
      · obtain rfl : i = l.length := by omega
        have hlt' : ¬ (l.length : Int) < (l.length : Int) := by omega
        have HE : Hid (rgt l = true) := by show _ = _; rw [HG.out]; have := HB.out.1; rw [List.take_length] at this; exact this
        have hbw : Hid (Below w.heap.size w wr) := HB.out.2
        clear HB
        go_wp2
        go_ret
        rw [HE.out]
        exact ⟨rfl, hbw.out⟩
end Go.Proofs.YtpbfdaijnndilaaGreatDoor

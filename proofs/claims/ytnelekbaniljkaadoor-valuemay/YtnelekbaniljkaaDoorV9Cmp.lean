/-
  How names are compared; the place of a name among variables that rise (slices.BinarySearchFunc).
-/
import Derived.Test.YtnelekbaniljkaaDoorV9Rgt2
import Derived.Lib.Bytealg
namespace Go.Proofs.YtnelekbaniljkaaDoor
open Go.RowKit Go.Shelf Go.Sort
open Go.Lib hiding intOf

/-- -1, 0 or 1 -/
def cmp3 (a b : ByteArray) : Int := if lt a b then -1 else if lt b a then 1 else 0
theorem cmp3_eq (a b : ByteArray) : Lib.compareBytes a.data.toList b.data.toList = cmp3 a b := by
  have key : ∀ (x y : List UInt8), Lib.compareBytes x y = if x < y then -1 else if y < x then 1 else 0 := by
    intro x
    induction x with
    | nil =>
      intro y
      cases y with
      | nil => simp [Lib.compareBytes]
      | cons b bs => simp [Lib.compareBytes]
    | cons c cs ih =>
      intro y
      cases y with
      | nil => simp [Lib.compareBytes]
      | cons d ds =>
        rw [Lib.compareBytes, ih ds]
        simp only [List.cons_lt_cons_iff]
        by_cases h1 : c < d
        · simp [h1]
        · by_cases h2 : d < c
          · have hne : ¬ c = d := fun e => by subst e; exact h1 h2
            have hne' : ¬ d = c := fun e => hne e.symm
            simp [h1, h2, hne]
          · have he : c = d := UInt8.le_antisymm (UInt8.not_lt.1 h2) (UInt8.not_lt.1 h1)
            subst he
            simp [h1]
  rw [key, cmp3]
  have e1 : (lt a b = true) = (a.data.toList < b.data.toList) := propext (lt_iff a b)
  have e2 : (lt b a = true) = (b.data.toList < a.data.toList) := propext (lt_iff b a)
  simp only [e1, e2]

set_option maxHeartbeats 1000000 in
set_option maxRecDepth 100000 in
theorem CompareString_any (a b : ByteArray) (w : World) : Calls Tryd.prog 69 #[.string a, .string b] w fun e w' => e = .returned (.int .i64 (cmp3 a b)) ∧ w' = w := by
  go_enter Tryd.func69, Tryd.ntmps69
  go_wp2
  rw [run_callFunc_extern Tryd.func80 (by kernel_rfl) (by kernel_rfl) (by kernel_rfl) (e := Extern.BytealgCompare.compare) (by kernel_rfl), Lib.run_compareString, cmp3_eq]
  simp only [Result.andThen]
  rw [Oper.upon_value]
  go_wp2
  go_ret
  exact ⟨rfl, rfl⟩

set_option maxHeartbeats 1000000 in
theorem Compare_any (a b : ByteArray) (w : World) : Calls Tryd.prog 49 #[.string a, .string b] w fun e w' => e = .returned (.int .i64 (cmp3 a b)) ∧ w' = w := by
  go_enter Tryd.func49, Tryd.ntmps49
  go_wp2_with (go_at_call 69; refine (CompareString_any _ _ _).mono ?_; rintro e w' ⟨rfl, rfl⟩)
  go_ret
  exact ⟨rfl, rfl⟩


/-- a variable as it stands -/
def xA (x : Vr) : Value := .agg #[.string x.1, .int .i64 x.2.1, .int .i64 x.2.2.1, .string (S x.2.2.2)]
set_option maxHeartbeats 1000000 in
theorem put1_any (x : Vr) (k : ByteArray) (w : World) : Calls Tryd.prog 48 #[xA x, .string k] w fun e w' => e = .returned (.int .i64 (cmp3 x.1 k)) ∧ Below w.heap.size w w' := by
  obtain ⟨nm, a, n, s⟩ := x
  have B1 : Hid (Below w.heap.size w (w.alloc (.cells #[.string nm, .int .i64 a, .int .i64 n, .string (S s)] 49))) := (Below.refl _ w).alloc (Nat.le_refl _) _
  unfold xA
  go_enter Tryd.func48, Tryd.ntmps48
  go_wp2_with (go_at_call 49; refine (Compare_any _ _ _).mono ?_; rintro e w' ⟨rfl, hw'⟩; rw [hw']; clear hw' w')
  go_ret
  exact ⟨rfl, B1.out⟩
theorem cmp3_neg {a b : ByteArray} : cmp3 a b < 0 ↔ lt a b = true := by
  unfold cmp3
  constructor
  · intro h
    split at h
    · assumption
    · split at h <;> omega
  · intro h; rw [if_pos h]; omega
theorem cmp3_zero {a b : ByteArray} : cmp3 a b = 0 ↔ a = b := by
  unfold cmp3
  constructor
  · intro h
    split at h
    · cases h
    · split at h
      · cases h
      · rename_i h1 h2
        exact lt_total (by simpa using h1) (by simpa using h2)
  · rintro rfl; rw [lt_irrefl]; rfl

set_option maxHeartbeats 4000000 in
set_option maxRecDepth 100000 in
theorem Search_any {w : World} {v : Value} {l : List Vr} (k : ByteArray) (hv : Vs w v l) (hn : l.length ≤ 4611686018427387) (hr : Rise l) :
    Calls Tryd.prog 47 #[v, .string k, .func (.func 48) #[] #[]] w fun e w' => e = .returned (.tuple #[.int .i64 (pos l k : Nat), .bool (has l k)]) ∧ Below w.heap.size w w' := by
  have HV : Hid (Vs w v l) := hv
  have HP : Hid (∀ (j : Nat) (h : j < l.length), lt l[j].1 k = true ↔ j < pos l k) := fun j h => pos_lt l k j hr h
  have hpl := pos_le l k
  obtain ⟨a, cap, rfl, -⟩ := hv
  obtain ⟨p, hp⟩ : ∃ p, pos l k = p := ⟨_, rfl⟩
  have HH : Hid (has l k = if h : p < l.length then decide (l[p].1 = k) else false) := by
    show _ = _
    subst hp
    by_cases h : pos l k < l.length
    · rw [dif_pos h]
      simp only [has, List.getElem?_eq_getElem h]
      rw [Bool.eq_iff_iff, beq_iff_eq, decide_eq_true_iff]
      exact ⟨fun e => key_ext (by simpa [Lib.toList_data] using e), fun e => by rw [e]⟩
    · rw [dif_neg h]
      simp [has, h]
  rw [hp] at HP hpl ⊢
  clear hp
  go_enter Tryd.func47, Tryd.ntmps47
  go_wp2
  go_loopw [9, 10] (fun v9 v10 wr => ∃ lo hi : Nat, v9 = .int .i64 (lo : Int) ∧ v10 = .int .i64 (hi : Int) ∧ lo ≤ p ∧ p ≤ hi ∧ hi ≤ l.length ∧ Hid (Below w.heap.size w wr)) (fun v9 v10 _ => (intOf v10).toNat - (intOf v9).toNat)
  case atStart => exact ⟨0, l.length, rfl, rfl, Nat.zero_le _, hpl, Nat.le_refl _, Below.refl _ _⟩
  case round =>
    obtain ⟨lo, hi, rfl, rfl, h1, h2, h3, HB⟩ := hrel
    by_cases hlt : lo < hi
    · have hlt' : (lo : Int) < (hi : Int) := by omega
      obtain ⟨m, hm⟩ : ∃ m, (lo + hi) / 2 = m := ⟨_, rfl⟩
      have hm' : ((lo : Int) + (hi : Int)) / 2 = (m : Int) := by omega
      have hml : m < l.length := by omega
      have hm0 : (0 : Int) ≤ (m : Int) := by omega
      have hm1 : (m : Int) < (l.length : Int) := by omega
      obtain ⟨b, off, cap', hsl, hbl, hcell⟩ := HV.out.at hml
      cases hsl
      obtain ⟨m0, m1, m2, m3⟩ := hcell wr HB.out
      have CP := put1_any l[m] k
      have hpm := HP.out m hml
      have hc := cmp3_neg (a := l[m].1) (b := k)
      unfold xA at CP
      clear hcell
      generalize l[m] = x at *
      obtain ⟨nm, x1, x2, x3⟩ := x
      simp only at m0 m1 m2 m3 CP hpm hc
      obtain ⟨cc, hcc⟩ : ∃ cc, cmp3 nm k = cc := ⟨_, rfl⟩
      rw [hcc] at CP hc
      by_cases hneg : cc < 0
      · have hmp := hpm.1 (hc.1 hneg)
        clear hc hpm hcc
        go_wp2_with (go_at_call 48; refine (CP _).mono ?_; rintro e w1 ⟨rfl, b1⟩; (have B1 : Hid (Below w.heap.size w w1) := bel_of HB.out b1 (Nat.le_refl _)); clear b1)
        go_roundw
        case rel => exact ⟨m + 1, hi, by simp, rfl, by omega, h2, h3, B1⟩
        case measure => simp [intOf]; omega
      · have hmp : p ≤ m := by
          rcases Nat.lt_or_ge m p with h | h
          · exact absurd (hc.2 (hpm.2 h)) hneg
          · exact h
        clear hc hpm hcc
        go_wp2_with (go_at_call 48; refine (CP _).mono ?_; rintro e w1 ⟨rfl, b1⟩; (have B1 : Hid (Below w.heap.size w w1) := bel_of HB.out b1 (Nat.le_refl _)); clear b1)
        go_roundw
        case rel => exact ⟨lo, m, rfl, rfl, h1, hmp, by omega, B1⟩
        case measure => simp [intOf]; omega
    · obtain rfl : lo = p := by omega
      obtain rfl : hi = lo := by omega
      have hlt' : ¬ (hi : Int) < (hi : Int) := by omega
      by_cases hl : hi < l.length
      · have hl' : (hi : Int) < (l.length : Int) := by omega
        have hm0 : (0 : Int) ≤ (hi : Int) := by omega
        obtain ⟨b, off, cap', hsl, hbl, hcell⟩ := HV.out.at hl
        cases hsl
        obtain ⟨m0, m1, m2, m3⟩ := hcell wr HB.out
        have CP := put1_any l[hi] k
        have hc := cmp3_zero (a := l[hi].1) (b := k)
        have HH2 : Hid (has l k = decide (l[hi].1 = k)) := by show _ = _; rw [HH.out, dif_pos hl]
        unfold xA at CP
        clear hcell
        generalize l[hi] = x at *
        obtain ⟨nm, x1, x2, x3⟩ := x
        simp only at m0 m1 m2 m3 CP hc HH2
        obtain ⟨cc, hcc⟩ : ∃ cc, cmp3 nm k = cc := ⟨_, rfl⟩
        rw [hcc] at CP hc
        have HE : Hid (has l k = (cc == 0)) := by show _ = _; rw [HH2.out, Bool.eq_iff_iff, decide_eq_true_iff, beq_iff_eq]; exact hc.symm
        clear hc hcc HH2
        go_wp2_with (go_at_call 48; refine (CP _).mono ?_; rintro e w1 ⟨rfl, b1⟩; (have B1 : Hid (Below w.heap.size w w1) := bel_of HB.out b1 (Nat.le_refl _)); clear b1)
        go_ret2
        exact ⟨by rw [HE.out]; rfl, B1.out⟩
      · have hl' : ¬ (hi : Int) < (l.length : Int) := by omega
        have HE : Hid (has l k = false) := by show _ = _; rw [HH.out, dif_neg hl]
        go_wp2
        go_ret2
        exact ⟨by rw [HE.out]; rfl, HB.out⟩
end Go.Proofs.YtnelekbaniljkaaDoor

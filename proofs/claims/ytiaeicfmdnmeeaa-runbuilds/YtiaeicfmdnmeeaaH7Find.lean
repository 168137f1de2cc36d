/-
  Package run: where among rows a key's is (finder), by slices.BinarySearchFunc.
-/
import Derived.Test.YtiaeicfmdnmeeaaH7Take
import Derived.Test.YtiaeicfmdnmeeaaH7Wr
import Derived.Lib.Bytealg
namespace Go.Proofs.Ytiaeicfmdnmeeaa
open Go.RowKit Go.Shelf Go.Sort
open Go.Lib hiding intOf

/-- -1, 0 or 1 -/
def cmp3 (a b : ByteArray) : Int := if lt a b then -1 else if lt b a then 1 else 0
theorem cmp3_eq (a b : ByteArray) : Lib.compareBytes a.data.toList b.data.toList = cmp3 a b := by
  have key : ∀ (x y : List UInt8), Lib.compareBytes x y = if x < y then -1 else if y < x then 1 else 0 := by
    intro x
    induction x with
    | nil =>
      intro y
      cases y with
      | nil => simp [Lib.compareBytes]
      | cons b bs => simp [Lib.compareBytes]
    | cons c cs ih =>
      intro y
      cases y with
      | nil => simp [Lib.compareBytes]
      | cons d ds =>
        rw [Lib.compareBytes, ih ds]
        simp only [List.cons_lt_cons_iff]
        by_cases h1 : c < d
        · simp [h1]
        · by_cases h2 : d < c
          · have hne : ¬ c = d := fun e => by subst e; exact h1 h2
            have hne' : ¬ d = c := fun e => hne e.symm
            simp [h1, h2, hne]
          · have he : c = d := UInt8.le_antisymm (UInt8.not_lt.1 h2) (UInt8.not_lt.1 h1)
            subst he
            simp [h1]
  rw [key, cmp3]
  have e1 : (lt a b = true) = (a.data.toList < b.data.toList) := propext (lt_iff a b)
  have e2 : (lt b a = true) = (b.data.toList < a.data.toList) := propext (lt_iff b a)
  simp only [e1, e2]

set_option maxHeartbeats 1000000 in
set_option maxRecDepth 100000 in
theorem CompareString_any (a b : ByteArray) (w : World) : Calls Try.prog 63 #[.string a, .string b] w fun e w' => e = .returned (.int .i64 (cmp3 a b)) ∧ w' = w := by
  go_enter Try.func63, Try.ntmps63
  go_wp2
  rw [run_callFunc_extern Try.func75 (by kernel_rfl) (by kernel_rfl) (by kernel_rfl) (e := Extern.BytealgCompare.compare) (by kernel_rfl), Lib.run_compareString, cmp3_eq]
  simp only [Result.andThen]
  rw [Oper.upon_value]
  go_wp2
  go_ret
  exact ⟨rfl, rfl⟩

set_option maxHeartbeats 1000000 in
theorem Compare_any (a b : ByteArray) (w : World) : Calls Try.prog 43 #[.string a, .string b] w fun e w' => e = .returned (.int .i64 (cmp3 a b)) ∧ w' = w := by
  go_enter Try.func43, Try.ntmps43
  go_wp2_with (go_at_call 63; refine (CompareString_any _ _ _).mono ?_; rintro e w' ⟨rfl, rfl⟩)
  go_ret
  exact ⟨rfl, rfl⟩

set_option maxHeartbeats 1000000 in
theorem byKey_any (x : R7) (k : ByteArray) (w : World) : Calls Try.prog 42 #[chv x, .string k] w fun e w' => e = .returned (.int .i64 (cmp3 (S x.1) k)) ∧ Below w.heap.size w w' := by
  unfold chv
  have hB : Below w.heap.size w (w.alloc (.cells #[.string (S x.1), .string (S x.2.1), .bool x.2.2] 76)) := (Below.refl _ w).alloc (Nat.le_refl _) _
  have HB : Hid _ := hB
  clear hB
  go_enter Try.func42, Try.ntmps42
  go_wp2_with (go_at_call 43; refine (Compare_any _ _ _).mono ?_; rintro e w' ⟨rfl, rfl⟩)
  go_ret
  exact ⟨rfl, HB.out⟩

/-- the keys of rows -/
def ks (l : List R7) : List (ByteArray × Unit) := l.map (fun x => (S x.1, ()))
theorem ks_len (l : List R7) : (ks l).length = l.length := by simp [ks]
theorem ks_get {l : List R7} {j : Nat} (h : j < l.length) : ((ks l)[j]'(by rw [ks_len]; exact h)).1 = S l[j].1 := by simp [ks]
/-- a key's place -/
def at7 (l : List R7) (k : ByteArray) : Nat := pos (ks l) k
def is7 (l : List R7) (k : ByteArray) : Bool := has (ks l) k
theorem at7_le (l : List R7) (k : ByteArray) : at7 l k ≤ l.length := by have := pos_le (ks l) k; rwa [ks_len] at this
theorem at7_lt {l : List R7} {k : ByteArray} (h : Rise (ks l)) {j : Nat} (hj : j < l.length) : lt (S l[j].1) k = true ↔ j < at7 l k := by
  have := pos_lt (ks l) k j h (by rw [ks_len]; exact hj)
  rw [ks_get hj] at this
  exact this
/-- a place that parts the keys is the one -/
theorem at7_of {l : List R7} {k : ByteArray} (h : Rise (ks l)) {i : Nat} (hi : i ≤ l.length) (h1 : ∀ j (hj : j < l.length), j < i → lt (S l[j].1) k = true) (h2 : ∀ j (hj : j < l.length), i ≤ j → lt (S l[j].1) k = false) : i = at7 l k := by
  have hle := at7_le l k
  rcases Nat.lt_trichotomy i (at7 l k) with h3 | h3 | h3
  · have := (at7_lt h (j := i) (by omega)).2 h3
    rw [h2 i (by omega) (Nat.le_refl _)] at this
    cases this
  · exact h3
  · have := h1 (at7 l k) (by omega) h3
    have := (at7_lt h (j := at7 l k) (by omega)).1 this
    omega
theorem is7_of {l : List R7} {k : ByteArray} (hi : at7 l k < l.length) : is7 l k = decide (S l[at7 l k].1 = k) := by
  have hp : pos (ks l) k < (ks l).length := by rw [ks_len]; exact hi
  have e0 : S l[at7 l k].1 = ((ks l)[pos (ks l) k]'hp).1 := (ks_get hi).symm
  unfold is7
  cases hh : has (ks l) k with
  | true =>
    obtain ⟨_, h2⟩ := has_lt hh
    rw [e0, h2]
    simp
  | false =>
    have h2 := has_not hh hp
    rw [e0]
    simp [h2]
theorem is7_no {l : List R7} {k : ByteArray} (hi : l.length ≤ at7 l k) : is7 l k = false := by
  unfold is7 has
  rw [List.getElem?_eq_none (by rw [ks_len]; exact hi)]
theorem at_mono7 {l : List R7} {k : ByteArray} (h : Rise (ks l)) {q m : Nat} (hq : q < l.length) (hm : m < l.length) (hqm : q ≤ m) (hl : lt (S l[m].1) k = true) : lt (S l[q].1) k = true := by
  rcases Nat.lt_or_ge q m with h1 | h1
  · have := h.get (i := q) (j := m) (by rw [ks_len]; exact hq) (by rw [ks_len]; exact hm) h1
    rw [ks_get hq, ks_get hm] at this
    exact lt_trans this hl
  · obtain rfl : q = m := by omega
    exact hl
theorem at_mono8 {l : List R7} {k : ByteArray} (h : Rise (ks l)) {m q : Nat} (hm : m < l.length) (hq : q < l.length) (hqm : m ≤ q) (hl : lt (S l[m].1) k = false) : lt (S l[q].1) k = false := by
  cases hh : lt (S l[q].1) k with
  | false => rfl
  | true => rw [at_mono7 h hm hq hqm hh] at hl; cases hl
theorem cmp3_neg (a b : ByteArray) : (cmp3 a b < 0) ↔ lt a b = true := by
  unfold cmp3
  cases h : lt a b with
  | true => simp
  | false =>
    cases h2 : lt b a <;> simp
theorem cmp3_zero (a b : ByteArray) : (cmp3 a b = 0) ↔ a = b := by
  unfold cmp3
  cases h : lt a b with
  | true =>
    simp
    rintro rfl
    rw [lt_irrefl] at h; cases h
  | false =>
    cases h2 : lt b a with
    | true =>
      simp
      rintro rfl
      rw [lt_irrefl] at h2; cases h2
    | false => simp [lt_total h h2]

set_option maxHeartbeats 4000000 in
set_option maxRecDepth 100000 in
theorem search_any {w : World} {B : Nat} {v : Value} {l : List R7} (hr : w.ownsRow B 76 3 v l.length (hcs l)) (hR : Rise (ks l)) (hl : l.length ≤ 4611686018427387900) (k : ByteArray) :
    Calls Try.prog 45 #[v, .string k, .func (.func 42) #[] #[]] w fun e w' => e = .returned (.tuple #[.int .i64 (at7 l k : Int), .bool (is7 l k)]) ∧ Below w.heap.size w w' := by
  obtain ⟨va, vc, rfl, -⟩ := row_slice hr
  have HR : Hid (w.ownsRow B 76 3 (.slice va l.length vc) l.length (hcs l)) := hr
  have HRI : Hid (Rise (ks l)) := hR
  have ent : Ent0 42 := enters_of Try.func42 (by kernel_rfl) rfl
  unfold Ent0 at ent
  clear hr hR
  go_enter Try.func45, Try.ntmps45
  go_wp2_with fail
  go_loopw [9, 10] (fun v9 v10 wr => ∃ i j : Nat, v9 = .int .i64 (i : Int) ∧ v10 = .int .i64 (j : Int) ∧ i ≤ j ∧ j ≤ l.length ∧ Hid ((∀ q (hq : q < l.length), q < i → lt (S l[q].1) k = true) ∧ (∀ q (hq : q < l.length), j ≤ q → lt (S l[q].1) k = false) ∧ Below w.heap.size w wr)) (fun v9 v10 _ => (intOf v10).toNat - (intOf v9).toNat)
  case atStart => exact ⟨0, l.length, rfl, rfl, Nat.zero_le _, Nat.le_refl _, fun q _ h => by omega, fun q _ h => by omega, Below.refl _ _⟩
  case round =>
    obtain ⟨i, j, rfl, rfl, hij, hjl, HI⟩ := hrel
    by_cases hlt : i < j
    · have hlt' : (i : Int) < (j : Int) := by omega
      obtain ⟨m, hm⟩ : ∃ m, m = (i + j) / 2 := ⟨_, rfl⟩
      have hml : m < l.length := by omega
      have hmi : i ≤ m ∧ m < j := by omega
      obtain ⟨g, hg⟩ : ∃ g, va = some ⟨g, 0, none⟩ := by
        rcases HR.out.2 with ⟨_, h0⟩ | ⟨g, cap', cur, e, -⟩
        · omega
        · cases e; exact ⟨g, rfl⟩
      subst hg
      have hgl : g < w.heap.size := row_far HR.out rfl
      have bw := HI.out.2.2
      have m0 := (bw.cell (p := ⟨g, m * 3, none⟩) hgl).trans (row_cell HR.out (hcs_get hml).1)
      have m1 := (bw.cell (p := ⟨g, m * 3 + 1, none⟩) hgl).trans (row_cell HR.out (hcs_get hml).2.1)
      have m2 := (bw.cell (p := ⟨g, m * 3 + 2, none⟩) hgl).trans (row_cell HR.out (hcs_get hml).2.2)
      have hmid : ((i : Int) + (j : Int)) / 2 = (m : Int) := by omega
      have hmi' : (m : Int) < (l.length : Int) := by omega
      have hm0 : (0 : Int) ≤ (m : Int) := by omega
      have HBK : ∀ w, _ := fun w => byKey_any l[m] k w
      unfold chv at HBK
      have HX : Hid (cmp3 (S l[m].1) k < 0 ↔ lt (S l[m].1) k = true) := cmp3_neg _ _
      obtain ⟨x, HXX⟩ : ∃ x, Hid (l[m] = x) := ⟨_, show _ = _ from rfl⟩
      rw [HXX.out] at m0 m1 m2 HBK HX
      clear bw hm
      cases hc : lt (S x.1) k with
      | true =>
        have hc' : cmp3 (S x.1) k < 0 := HX.out.2 hc
        go_wp2_with (first
          | (go_at_call 42; refine (HBK _).mono ?_; rintro e w2 ⟨rfl, hb2⟩; have HB2 : Hid (Below _ _ w2) := hb2; clear hb2))
        go_roundw
        case rel =>
          refine ⟨m + 1, j, by simp, rfl, by omega, hjl, fun q hq h => ?_, HI.out.2.1, bel_of HI.out.2.2 HB2.out (Nat.le_refl _)⟩
          have := HXX.out
          exact (at_mono7 HRI.out hq hml (by omega)) (by rw [this]; exact hc)
        case measure => simp [intOf]; omega
      | false =>
        have hc' : ¬ cmp3 (S x.1) k < 0 := fun h => by have := HX.out.1 h; rw [hc] at this; cases this
        go_wp2_with (first
          | (go_at_call 42; refine (HBK _).mono ?_; rintro e w2 ⟨rfl, hb2⟩; have HB2 : Hid (Below _ _ w2) := hb2; clear hb2))
        go_roundw
        case rel =>
          refine ⟨i, m, rfl, rfl, by omega, by omega, HI.out.1, fun q hq h => ?_, bel_of HI.out.2.2 HB2.out (Nat.le_refl _)⟩
          have := HXX.out
          exact at_mono8 HRI.out hml hq h (by rw [this]; exact hc)
        case measure => simp [intOf]; omega
    · obtain rfl : i = j := by omega
      have hat : i = at7 l k := at7_of HRI.out hjl HI.out.1 HI.out.2.1
      have hlt' : ¬ (i : Int) < (i : Int) := by omega
      by_cases hi : i < l.length
      · have hi' : (i : Int) < (l.length : Int) := by omega
        have hi0 : (0 : Int) ≤ (i : Int) := by omega
        obtain ⟨g, hg⟩ : ∃ g, va = some ⟨g, 0, none⟩ := by
          rcases HR.out.2 with ⟨_, h0⟩ | ⟨g, cap', cur, e, -⟩
          · omega
          · cases e; exact ⟨g, rfl⟩
        subst hg
        have hgl : g < w.heap.size := row_far HR.out rfl
        have bw := HI.out.2.2
        have m0 := (bw.cell (p := ⟨g, i * 3, none⟩) hgl).trans (row_cell HR.out (hcs_get hi).1)
        have m1 := (bw.cell (p := ⟨g, i * 3 + 1, none⟩) hgl).trans (row_cell HR.out (hcs_get hi).2.1)
        have m2 := (bw.cell (p := ⟨g, i * 3 + 2, none⟩) hgl).trans (row_cell HR.out (hcs_get hi).2.2)
        have HBK : ∀ w, _ := fun w => byKey_any l[i] k w
        unfold chv at HBK
        have HRES : Hid (at7 l k = i ∧ is7 l k = (cmp3 (S l[i].1) k == 0)) := by
          refine ⟨hat.symm, ?_⟩
          subst hat
          rw [is7_of hi, Bool.eq_iff_iff, beq_iff_eq, cmp3_zero]
          simp
        generalize l[i] = x at *
        clear bw hat hlt
        go_wp2_with (first
          | (go_at_call 42; refine (HBK _).mono ?_; rintro e w2 ⟨rfl, hb2⟩; have HB2 : Hid (Below _ _ w2) := hb2; clear hb2))
        go_ret2
        exact ⟨by rw [HRES.out.1, HRES.out.2]; rfl, bel_of HI.out.2.2 HB2.out (Nat.le_refl _)⟩
      · have hi' : ¬ (i : Int) < (l.length : Int) := by omega
        have HRES : Hid (at7 l k = i ∧ is7 l k = false) := ⟨hat.symm, is7_no (by omega)⟩
        clear hat hlt
        go_wp2
        go_ret2
        exact ⟨by rw [HRES.out.1, HRES.out.2]; rfl, HI.out.2.2⟩
end Go.Proofs.Ytiaeicfmdnmeeaa

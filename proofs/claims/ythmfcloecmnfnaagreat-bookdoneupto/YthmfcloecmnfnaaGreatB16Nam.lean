/-
  Package value's Named.
-/
import Derived.Test.YthmfcloecmnfnaaGreatF13Base
namespace Go.Proofs.YthmfcloecmnfnaaGreat.f13
open Go.RowKit Go.Shelf Go.Sort
open Go.Lib hiding intOf

def isL (c : UInt8) : Bool := decide (97 ≤ c.toNat ∧ c.toNat ≤ 122)
def isN (c : UInt8) : Bool := isL c || decide (48 ≤ c.toNat ∧ c.toNat ≤ 57) || decide (c.toNat = 95)
/-- the words that are no names -/
def wds : List (List UInt8) := [[97, 110, 100], [111, 114], [110, 111, 116], [116, 114, 117, 101], [102, 97, 108, 115, 101], [108, 101, 110]]
/-- is a text a name? -/
def namV (s : List UInt8) : Bool := !wds.contains s && decide (1 ≤ s.length ∧ s.length ≤ 32) && (s.take 1).all isL && s.all isN
set_option maxHeartbeats 1000000 in
theorem letter_any (c : UInt8) (w : World) : Calls Tryz.prog 46 #[.int .u8 (c.toNat : Int)] w fun e w' => e = .returned (.bool (isL c)) ∧ w' = w := by
  by_cases h1 : 97 ≤ c.toNat
  · have h1' : (97 : Int) ≤ (c.toNat : Int) := by omega
    by_cases h2 : c.toNat ≤ 122
    · have h2' : (c.toNat : Int) ≤ 122 := by omega
      have HE : Hid (isL c = true) := by show _ = _; simp [isL, h1, h2]
      go_enter Tryz.func46, Tryz.ntmps46
      go_wp2
      go_ret
      rw [HE.out]
      exact ⟨by simp, rfl⟩
    · have h2' : ¬ (c.toNat : Int) ≤ 122 := by omega
      have HE : Hid (isL c = false) := by show _ = _; simp [isL]; omega
      go_enter Tryz.func46, Tryz.ntmps46
      go_wp2
      go_ret
      rw [HE.out]
      exact ⟨by simp, rfl⟩
  · have h1' : ¬ (97 : Int) ≤ (c.toNat : Int) := by omega
    have HE : Hid (isL c = false) := by show _ = _; simp [isL]; omega
    go_enter Tryz.func46, Tryz.ntmps46
    go_wp2
    go_ret
    rw [HE.out]
    exact ⟨rfl, rfl⟩
def isD (c : UInt8) : Bool := decide (48 ≤ c.toNat ∧ c.toNat ≤ 57)
set_option maxHeartbeats 1000000 in
theorem digit_any (c : UInt8) (w : World) : Calls Tryz.prog 47 #[.int .u8 (c.toNat : Int)] w fun e w' => e = .returned (.bool (isD c)) ∧ w' = w := by
  by_cases h1 : 48 ≤ c.toNat
  · have h1' : (48 : Int) ≤ (c.toNat : Int) := by omega
    by_cases h2 : c.toNat ≤ 57
    · have h2' : (c.toNat : Int) ≤ 57 := by omega
      have HE : Hid (isD c = true) := by show _ = _; simp [isD, h1, h2]
      go_enter Tryz.func47, Tryz.ntmps47
      go_wp2
      go_ret
      rw [HE.out]
      exact ⟨by simp, rfl⟩
    · have h2' : ¬ (c.toNat : Int) ≤ 57 := by omega
      have HE : Hid (isD c = false) := by show _ = _; simp [isD]; omega
      go_enter Tryz.func47, Tryz.ntmps47
      go_wp2
      go_ret
      rw [HE.out]
      exact ⟨by simp, rfl⟩
  · have h1' : ¬ (48 : Int) ≤ (c.toNat : Int) := by omega
    have HE : Hid (isD c = false) := by show _ = _; simp [isD]; omega
    go_enter Tryz.func47, Tryz.ntmps47
    go_wp2
    go_ret
    rw [HE.out]
    exact ⟨rfl, rfl⟩

theorem isN_eq (c : UInt8) : isN c = (isL c || isD c || decide (c.toNat = 95)) := rfl
theorem bget (a : ByteArray) (i : Nat) (h : i < a.size) : a.data.toList[i]'(by simpa using h) = a[i] := rfl
theorem all_take_snoc {l : List UInt8} {i : Nat} (h : i < l.length) : (l.take (i + 1)).all isN = ((l.take i).all isN && isN l[i]) := by rw [List.take_succ_eq_append_getElem h, List.all_append]; simp
theorem all_not {l : List UInt8} {i : Nat} (h : i < l.length) (hn : isN l[i] = false) : l.all isN = false := by
  rw [← Bool.not_eq_true]
  intro ha
  rw [List.all_eq_true] at ha
  have := ha l[i] (List.getElem_mem h)
  rw [hn] at this
  cases this
theorem beq_lit {a : ByteArray} {l : List UInt8} (h : a.data.toList ≠ l) : (a.toList == l) = false := by
  rw [beq_eq_false_iff_ne]
  intro e
  exact h (by simpa [Lib.toList_data] using e)
theorem nam_small {s : List UInt8} (h : s.length < 1 ∨ 32 < s.length) : namV s = false := by
  unfold namV
  rw [show decide (1 ≤ s.length ∧ s.length ≤ 32) = false by simp; omega]
  simp
theorem nam_first {s : List UInt8} (h : 0 < s.length) (hl : isL s[0] = false) : namV s = false := by
  cases s with
  | nil => cases h
  | cons c t => simp at hl; unfold namV; simp [hl]
theorem nam_all {s : List UInt8} (h : s.all isN = false) : namV s = false := by unfold namV; rw [h]; simp
theorem nam_yes {s : List UInt8} (hw : wds.contains s = false) (h0 : 0 < s.length) (h1 : s.length ≤ 32) (h2 : isL s[0] = true) (h3 : s.all isN = true) : namV s = true := by
  cases s with
  | nil => cases h0
  | cons c t => simp only [List.getElem_cons_zero] at h2; unfold namV; rw [hw, h3]; simp at h1 ⊢; exact ⟨by omega, h2⟩
theorem nam_word {s : List UInt8} (h : wds.contains s = true) : namV s = false := by unfold namV; rw [h]; simp

set_option maxHeartbeats 4000000 in
theorem nam_walk (a : ByteArray) (hw : wds.contains a.data.toList = false) (hs : a.size ≤ 4611686018427387904) (w : World) :
    Calls Tryz.prog 24 #[.string a] w fun e w' => e = .returned (.bool (namV a.data.toList)) ∧ w' = w := by
  have HW : Hid (wds.contains a.data.toList = false) := hw
  simp only [wds, List.contains_cons, Bool.or_eq_false_iff, beq_eq_false_iff_ne] at hw
  obtain ⟨h1, h2, h3, h4, h5, h6, -⟩ := hw
  have c1 := beq_lit h1
  have c2 := beq_lit h2
  have c3 := beq_lit h3
  have c4 := beq_lit h4
  have c5 := beq_lit h5
  have c6 := beq_lit h6
  clear h1 h2 h3 h4 h5 h6
  have hl : a.data.toList.length = a.size := by simp
  by_cases z0 : a.size = 0
  · have e0 : a.toList.isEmpty = true := by
      rw [Lib.toList_data, List.isEmpty_iff]; exact List.length_eq_zero_iff.1 (by omega)
    have HE : Hid (namV a.data.toList = false) := nam_small (by omega)
    clear z0 hl
    go_enter Tryz.func24, Tryz.ntmps24
    go_wp2
    go_ret
    rw [HE.out]
    exact ⟨rfl, rfl⟩
  · have e0 : a.toList.isEmpty = false := by
      rw [Lib.toList_data]
      cases h : a.data.toList with
      | nil => rw [h] at hl; simp at hl; omega
      | cons _ _ => rfl
    by_cases z1 : 32 < a.size
    · have z1' : (32 : Int) < (a.size : Int) := by omega
      have HE : Hid (namV a.data.toList = false) := nam_small (by omega)
      clear hl
      go_enter Tryz.func24, Tryz.ntmps24
      go_wp2
      go_ret
      rw [HE.out]
      exact ⟨rfl, rfl⟩
    · have z1' : ¬ (32 : Int) < (a.size : Int) := by omega
      have z2 : 0 < a.size := by omega
      have z2' : (0 : Int) < (a.size : Int) := by omega
      have L0 := letter_any (a[0]'z2)
      cases hq : isL (a[0]'z2) with
      | false =>
        have HE : Hid (namV a.data.toList = false) := nam_first (by omega) (by rw [bget a 0 z2]; exact hq)
        rw [hq] at L0
        clear hl z0
        go_enter Tryz.func24, Tryz.ntmps24
        go_wp2_with (go_at_call 46; refine (L0 _).mono ?_; rintro e w1 ⟨rfl, hw1⟩; rw [hw1]; clear hw1 w1)
        go_ret
        rw [HE.out]
        exact ⟨rfl, rfl⟩
      | true =>
        rw [hq] at L0
        have HF : Hid (isL (a[0]'z2) = true) := hq
        clear hq z0
        go_enter Tryz.func24, Tryz.ntmps24
        go_wp2_with (go_at_call 46; refine (L0 _).mono ?_; rintro e w1 ⟨rfl, hw1⟩; rw [hw1]; clear hw1 w1)
        go_loopw [27] (fun v27 wr => ∃ i : Nat, v27 = .int .i64 (i : Int) ∧ i ≤ a.size ∧ Hid ((a.data.toList.take i).all isN = true) ∧ wr = w) (fun v27 _ => a.size - (intOf v27).toNat)
        case atStart => exact ⟨0, rfl, Nat.zero_le _, by show _ = _; simp, rfl⟩
        case round =>
          obtain ⟨i, rfl, hi, HA, hwr⟩ := hrel
          rw [hwr]
          clear hwr
          by_cases hlt : i < a.size
          · have hlt' : (i : Int) < (a.size : Int) := by omega
            have hi0' : (0 : Int) ≤ (i : Int) := by omega
            have L1 := letter_any (a[i]'hlt)
            have D1 := digit_any (a[i]'hlt)
            have HN : Hid (isN (a.data.toList[i]'(by omega)) = (isL (a[i]'hlt) || isD (a[i]'hlt) || decide ((a[i]'hlt).toNat = 95))) := by show _ = _; rw [bget a i hlt]; rfl
            clear L0
            cases q1 : isL (a[i]'hlt) with
            | true =>
              rw [q1] at L1 HN
              go_wp2_with (go_at_call 46; refine (L1 _).mono ?_; rintro e w1 ⟨rfl, hw1⟩; rw [hw1]; clear hw1 w1)
              go_roundw
              case rel => exact ⟨i + 1, by simp, by omega, (by show _ = _; rw [all_take_snoc (by omega), HA.out, HN.out]; simp), by simp⟩
              case measure => simp [intOf]; omega
            | false =>
              rw [q1] at L1 HN
              cases q2 : isD (a[i]'hlt) with
              | true =>
                rw [q2] at D1 HN
                go_wp2_with (first | (go_at_call 46; refine (L1 _).mono ?_; rintro e w1 ⟨rfl, hw1⟩; rw [hw1]; clear hw1 w1) | (go_at_call 47; refine (D1 _).mono ?_; rintro e w1 ⟨rfl, hw1⟩; rw [hw1]; clear hw1 w1))
                go_roundw
                case rel => exact ⟨i + 1, by simp, by omega, (by show _ = _; rw [all_take_snoc (by omega), HA.out, HN.out]; simp), by simp⟩
                case measure => simp [intOf]; omega
              | false =>
                rw [q2] at D1 HN
                by_cases q3 : (a[i]'hlt).toNat = 95
                · have q3' : ((((a[i]'hlt).toNat : Nat) : Int) != 95) = false := by rw [q3]; rfl
                  have HN2 : Hid (isN (a.data.toList[i]'(by omega)) = true) := by show _ = _; rw [HN.out, q3]; rfl
                  clear HN q3
                  go_wp2_with (first | (go_at_call 46; refine (L1 _).mono ?_; rintro e w1 ⟨rfl, hw1⟩; rw [hw1]; clear hw1 w1) | (go_at_call 47; refine (D1 _).mono ?_; rintro e w1 ⟨rfl, hw1⟩; rw [hw1]; clear hw1 w1))
                  go_roundw
                  case rel => exact ⟨i + 1, by simp, by omega, (by show _ = _; rw [all_take_snoc (by omega), HA.out, HN2.out]; simp), by simp⟩
                  case measure => simp [intOf]; omega
                · have q3' : ((((a[i]'hlt).toNat : Nat) : Int) != 95) = true := bne_iff_ne.2 (by omega)
                  have HE : Hid (namV a.data.toList = false) := nam_all (all_not (i := i) (by omega) (by rw [HN.out]; simp [q3]))
                  clear HN q3
                  go_wp2_with (first | (go_at_call 46; refine (L1 _).mono ?_; rintro e w1 ⟨rfl, hw1⟩; rw [hw1]; clear hw1 w1) | (go_at_call 47; refine (D1 _).mono ?_; rintro e w1 ⟨rfl, hw1⟩; rw [hw1]; clear hw1 w1))
                  go_ret
                  rw [HE.out]
                  exact ⟨rfl, rfl⟩
          · obtain rfl : i = a.size := by omega
            have hlt' : ¬ (a.size : Int) < (a.size : Int) := by omega
            have HE : Hid (namV a.data.toList = true) := nam_yes HW.out (by omega) (by omega) (by rw [bget a 0 z2]; exact HF.out) (by have := HA.out; rw [List.take_of_length_le (by omega)] at this; exact this)
            go_wp2
            go_ret
            rw [HE.out]
            exact ⟨rfl, rfl⟩

set_option maxHeartbeats 1000000 in
theorem nam_lit (a : ByteArray) (ha : a = ⟨#[97, 110, 100]⟩ ∨ a = ⟨#[111, 114]⟩ ∨ a = ⟨#[110, 111, 116]⟩ ∨ a = ⟨#[116, 114, 117, 101]⟩ ∨ a = ⟨#[102, 97, 108, 115, 101]⟩ ∨ a = ⟨#[108, 101, 110]⟩) (w : World) :
    Calls Tryz.prog 24 #[.string a] w fun e w' => e = .returned (.bool false) ∧ w' = w := by
  rcases ha with rfl | rfl | rfl | rfl | rfl | rfl
  all_goals
    go_enter Tryz.func24, Tryz.ntmps24
    go_wp2
    go_ret
    exact ⟨rfl, rfl⟩
theorem word_lit {a : ByteArray} (h : wds.contains a.data.toList = true) : a = ⟨#[97, 110, 100]⟩ ∨ a = ⟨#[111, 114]⟩ ∨ a = ⟨#[110, 111, 116]⟩ ∨ a = ⟨#[116, 114, 117, 101]⟩ ∨ a = ⟨#[102, 97, 108, 115, 101]⟩ ∨ a = ⟨#[108, 101, 110]⟩ := by
  simp only [wds, List.contains_cons, Bool.or_eq_true, beq_iff_eq, List.contains_nil, Bool.false_eq_true, or_false] at h
  rcases h with h | h | h | h | h | h
  · exact .inl (key_ext h)
  · exact .inr (.inl (key_ext h))
  · exact .inr (.inr (.inl (key_ext h)))
  · exact .inr (.inr (.inr (.inl (key_ext h))))
  · exact .inr (.inr (.inr (.inr (.inl (key_ext h)))))
  · exact .inr (.inr (.inr (.inr (.inr (key_ext h)))))
theorem Named_any (a : ByteArray) (hs : a.size ≤ 4611686018427387904) (w : World) :
    Calls Tryz.prog 24 #[.string a] w fun e w' => e = .returned (.bool (namV a.data.toList)) ∧ w' = w := by
  cases h : wds.contains a.data.toList with
  | false => exact nam_walk a h hs w
  | true => rw [nam_word h]; exact nam_lit a (word_lit h) w
theorem Named_S (s : List UInt8) (hs : s.length ≤ 4611686018427387904) (w : World) : Calls Tryz.prog 24 #[.string (S s)] w fun e w' => e = .returned (.bool (namV s)) ∧ w' = w := by
  have := Named_any (S s) (by have e : (S s).size = s.length := by simp [S, ByteArray.size]
                              omega) w
  rwa [S_data] at this
end Go.Proofs.YthmfcloecmnfnaaGreat.f13

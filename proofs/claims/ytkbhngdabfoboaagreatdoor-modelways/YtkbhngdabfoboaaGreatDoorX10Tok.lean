/-
  Package expr's bytes, spans; giving up.
-/
import Derived.Test.YtkbhngdabfoboaaGreatDoorX10Pure
import Derived.Test.YtkbhngdabfoboaaGreatDoorV9Nam
import Derived.IntWalk
import Derived.WalkLawsBesides
namespace Go.Proofs.YtkbhngdabfoboaaGreatDoor.x10
open Go.RowKit Go.Shelf Go.Sort
open Go.Lib hiding intOf

/-- a test of bytes -/
def Bt (f : Nat) (p : UInt8 → Bool) : Prop := ∀ (c : UInt8) (w : World), Calls Tryz.prog f #[.int .u8 (c.toNat : Int)] w fun e w' => e = .returned (.bool (p c)) ∧ w' = w
theorem digit_any : Bt 172 kD := fun c w => by
  unfold kD
  by_cases h1 : 48 ≤ c.toNat
  · have h1' : (48 : Int) ≤ (c.toNat : Int) := by omega
    by_cases h2 : c.toNat ≤ 57
    · have h2' : (c.toNat : Int) ≤ 57 := by omega
      rw [decide_eq_true h1, decide_eq_true h2]
      go_enter Tryz.func172, Tryz.ntmps172
      go_wp2
      go_ret
      exact ⟨rfl, rfl⟩
    · have h2' : ¬ (c.toNat : Int) ≤ 57 := by omega
      rw [decide_eq_true h1, decide_eq_false h2]
      go_enter Tryz.func172, Tryz.ntmps172
      go_wp2
      go_ret
      exact ⟨rfl, rfl⟩
  · have h1' : ¬ (48 : Int) ≤ (c.toNat : Int) := by omega
    rw [decide_eq_false h1]
    go_enter Tryz.func172, Tryz.ntmps172
    go_wp2
    go_ret
    exact ⟨rfl, rfl⟩
theorem letter_any : Bt 174 kA := fun c w => by
  unfold kA
  by_cases h1 : 97 ≤ c.toNat
  · have h1' : (97 : Int) ≤ (c.toNat : Int) := by omega
    by_cases h2 : c.toNat ≤ 122
    · have h2' : (c.toNat : Int) ≤ 122 := by omega
      rw [decide_eq_true h1, decide_eq_true h2]
      go_enter Tryz.func174, Tryz.ntmps174
      go_wp2
      go_ret
      exact ⟨rfl, rfl⟩
    · have h2' : ¬ (c.toNat : Int) ≤ 122 := by omega
      rw [decide_eq_true h1, decide_eq_false h2]
      go_enter Tryz.func174, Tryz.ntmps174
      go_wp2
      go_ret
      exact ⟨rfl, rfl⟩
  · have h1' : ¬ (97 : Int) ≤ (c.toNat : Int) := by omega
    rw [decide_eq_false h1]
    go_enter Tryz.func174, Tryz.ntmps174
    go_wp2
    go_ret
    exact ⟨rfl, rfl⟩
theorem blank_any : Bt 171 kB := fun c w => by
  unfold kB
  cases h1 : c.toNat == 32 with
  | true =>
    have h1' : ((c.toNat : Int) == 32) = true := by simp at h1 ⊢; omega
    go_enter Tryz.func171, Tryz.ntmps171
    go_wp2
    go_ret
    exact ⟨rfl, rfl⟩
  | false =>
    have h1' : ((c.toNat : Int) == 32) = false := by simp at h1 ⊢; omega
    cases h2 : c.toNat == 9 with
    | true =>
      have h2' : ((c.toNat : Int) == 9) = true := by simp at h2 ⊢; omega
      clear h1 h2
      go_enter Tryz.func171, Tryz.ntmps171
      go_wp2
      go_ret
      exact ⟨rfl, rfl⟩
    | false =>
      have h2' : ((c.toNat : Int) == 9) = false := by simp at h2 ⊢; omega
      cases h3 : c.toNat == 10 with
      | true =>
        have h3' : ((c.toNat : Int) == 10) = true := by simp at h3 ⊢; omega
        clear h1 h2 h3
        go_enter Tryz.func171, Tryz.ntmps171
        go_wp2
        go_ret
        exact ⟨rfl, rfl⟩
      | false =>
        have h3' : ((c.toNat : Int) == 10) = false := by simp at h3 ⊢; omega
        clear h1 h2 h3
        go_enter Tryz.func171, Tryz.ntmps171
        go_wp2
        go_ret
        exact ⟨rfl, rfl⟩
theorem inWord_any : Bt 176 kW := fun c w => by
  unfold kW
  have CL := letter_any c
  have CD := digit_any c
  cases h1 : kA c with
  | true =>
    rw [h1] at CL
    go_enter Tryz.func176, Tryz.ntmps176
    go_wp2_with (first
      | (go_at_call 174; refine (CL _).mono ?_; rintro e w1 ⟨rfl, hw1⟩; rw [hw1]; clear hw1)
      | (go_at_call 172; refine (CD _).mono ?_; rintro e w2 ⟨rfl, hw2⟩; rw [hw2]; clear hw2))
    go_ret
    exact ⟨rfl, rfl⟩
  | false =>
    rw [h1] at CL
    cases h2 : kD c with
    | true =>
      rw [h2] at CD
      go_enter Tryz.func176, Tryz.ntmps176
      go_wp2_with (first
        | (go_at_call 174; refine (CL _).mono ?_; rintro e w1 ⟨rfl, hw1⟩; rw [hw1]; clear hw1)
        | (go_at_call 172; refine (CD _).mono ?_; rintro e w2 ⟨rfl, hw2⟩; rw [hw2]; clear hw2))
      go_ret
      exact ⟨rfl, rfl⟩
    | false =>
      rw [h2] at CD
      have h3 : ((c.toNat : Int) == 95) = (c.toNat == 95) := by
        cases h : c.toNat == 95
        · simp at h ⊢; omega
        · simp at h ⊢; omega
      go_enter Tryz.func176, Tryz.ntmps176
      go_wp2_with (first
        | (go_at_call 174; refine (CL _).mono ?_; rintro e w1 ⟨rfl, hw1⟩; rw [hw1]; clear hw1)
        | (go_at_call 172; refine (CD _).mono ?_; rintro e w2 ⟨rfl, hw2⟩; rw [hw2]; clear hw2))
      go_ret
      exact ⟨by simp, rfl⟩
/-- what giving up is -/
def wrg (e a : Int) : List PanicEntry := [{ v := .iface 160 (.agg #[.int .i64 e, .int .i64 a]), recovered := false }]
theorem giveUp_any (e a : Int) (w : World) : Calls Tryz.prog 183 #[.int .i64 e, .int .i64 a] w fun r w' => r = .panicked (wrg e a) ∧ w' = w := by
  go_enter Tryz.func183, Tryz.ntmps183
  go_wp2
  exact ⟨rfl, rfl, rfl⟩
theorem spn_le (p : UInt8 → Bool) (l : List UInt8) : spn p l ≤ l.length := by
  unfold spn
  have := (List.takeWhile_prefix (l := l) p).length_le
  exact this
/-- so far all are so; the next one is asked -/
theorem spn_go {p : UInt8 → Bool} : ∀ {l : List UInt8} {i : Nat}, (∀ j (h : j < l.length), j < i → p l[j] = true) → (h : i < l.length) → p l[i] = false → spn p l = i
  | c :: t, 0, _, _, hn => by unfold spn; rw [List.takeWhile_cons_of_neg (by simpa using hn)]; rfl
  | c :: t, i + 1, hp, h, hn => by
    have h0 : p c = true := hp 0 (by simp) (by omega)
    have ih := spn_go (p := p) (l := t) (i := i) (fun j hj hji => hp (j + 1) (by simp; omega) (by omega)) (by simpa using h) (by simpa using hn)
    unfold spn at ih ⊢
    rw [List.takeWhile_cons_of_pos h0, List.length_cons, ih]
theorem spn_all {p : UInt8 → Bool} : ∀ {l : List UInt8}, (∀ j (h : j < l.length), p l[j] = true) → spn p l = l.length
  | [], _ => rfl
  | c :: t, hp => by
    have h0 : p c = true := hp 0 (by simp)
    have ih := spn_all (p := p) (l := t) (fun j hj => hp (j + 1) (by simp; omega))
    unfold spn at ih ⊢
    rw [List.takeWhile_cons_of_pos h0, List.length_cons, ih, List.length_cons]
theorem S_at (l : List UInt8) (i : Nat) (h : i < l.length) (h' : i < (S l).size) : (S l)[i]'h' = l[i]'h := by simp [S, ByteArray.getElem_eq_getElem_data]

set_option maxHeartbeats 1000000 in
theorem span_blank (l : List UInt8) (hl : l.length ≤ 4611686018427387904) (w : World) : Calls Tryz.prog 170 #[.string (S l), .func (.func 171) #[] #[]] w fun e w' => e = .returned (.int .i64 (spn kB l : Int)) ∧ w' = w := by
  have hz := S_size l
  have HF : Hid (Bt 171 kB) := blank_any
  go_enter Tryz.func170, Tryz.ntmps170
  go_wp2
  go_loopw [5] (fun v5 wr => ∃ i : Nat, v5 = .int .i64 (i : Int) ∧ i ≤ l.length ∧ wr = w ∧ Hid (∀ j (h : j < l.length), j < i → kB l[j] = true)) (fun v5 _ => l.length - (intOf v5).toNat)
  case atStart => exact ⟨0, rfl, Nat.zero_le _, rfl, fun j h hj => by omega⟩
  case round =>
    obtain ⟨i, rfl, hi, rfl, HI⟩ := hrel
    by_cases hlt : i < l.length
    · have hlt' : (i : Int) < (l.length : Int) := by omega
      have hi0 : (0 : Int) ≤ (i : Int) := by omega
      obtain ⟨c, hc⟩ : ∃ c, l[i] = c := ⟨_, rfl⟩
      have hgi : ∀ (h : i < (S l).size), (S l)[i]'h = c := fun h => (S_at l i hlt h).trans hc
      have CF := HF.out c
      cases hp : kB c with
      | true =>
        rw [hp] at CF
        have HN : Hid (∀ j (h : j < l.length), j < i + 1 → kB l[j] = true) := fun j h hj => by
          rcases Nat.lt_succ_iff_lt_or_eq.1 hj with h1 | rfl
          · exact HI.out j h h1
          · rw [hc]; exact hp
        clear hc hp
        go_wp2_with (go_at_call 171; refine (CF _).mono ?_; rintro e w1 ⟨rfl, hw1⟩; rw [hw1]; clear hw1)
        go_roundw
        case rel => exact ⟨i + 1, by simp, by omega, by first | rfl | trivial, HN⟩
        case measure => simp [intOf]; omega
      | false =>
        rw [hp] at CF
        have HE : Hid (spn kB l = i) := spn_go HI.out hlt (by rw [hc]; exact hp)
        clear hc hp
        go_wp2_with (go_at_call 171; refine (CF _).mono ?_; rintro e w1 ⟨rfl, hw1⟩; rw [hw1]; clear hw1)
        go_ret
        rw [HE.out]
        exact ⟨rfl, rfl⟩
    · have hlt' : ¬ (i : Int) < (l.length : Int) := by omega
      have HE : Hid (spn kB l = i) := by show _ = _; rw [spn_all (fun j h => HI.out j h (by omega))]; omega
      go_wp2
      go_ret
      rw [HE.out]
      exact ⟨rfl, rfl⟩
set_option maxHeartbeats 1000000 in
theorem span_digit (l : List UInt8) (hl : l.length ≤ 4611686018427387904) (w : World) : Calls Tryz.prog 170 #[.string (S l), .func (.func 172) #[] #[]] w fun e w' => e = .returned (.int .i64 (spn kD l : Int)) ∧ w' = w := by
  have hz := S_size l
  have HF : Hid (Bt 172 kD) := digit_any
  go_enter Tryz.func170, Tryz.ntmps170
  go_wp2
  go_loopw [5] (fun v5 wr => ∃ i : Nat, v5 = .int .i64 (i : Int) ∧ i ≤ l.length ∧ wr = w ∧ Hid (∀ j (h : j < l.length), j < i → kD l[j] = true)) (fun v5 _ => l.length - (intOf v5).toNat)
  case atStart => exact ⟨0, rfl, Nat.zero_le _, rfl, fun j h hj => by omega⟩
  case round =>
    obtain ⟨i, rfl, hi, rfl, HI⟩ := hrel
    by_cases hlt : i < l.length
    · have hlt' : (i : Int) < (l.length : Int) := by omega
      have hi0 : (0 : Int) ≤ (i : Int) := by omega
      obtain ⟨c, hc⟩ : ∃ c, l[i] = c := ⟨_, rfl⟩
      have hgi : ∀ (h : i < (S l).size), (S l)[i]'h = c := fun h => (S_at l i hlt h).trans hc
      have CF := HF.out c
      cases hp : kD c with
      | true =>
        rw [hp] at CF
        have HN : Hid (∀ j (h : j < l.length), j < i + 1 → kD l[j] = true) := fun j h hj => by
          rcases Nat.lt_succ_iff_lt_or_eq.1 hj with h1 | rfl
          · exact HI.out j h h1
          · rw [hc]; exact hp
        clear hc hp
        go_wp2_with (go_at_call 172; refine (CF _).mono ?_; rintro e w1 ⟨rfl, hw1⟩; rw [hw1]; clear hw1)
        go_roundw
        case rel => exact ⟨i + 1, by simp, by omega, by first | rfl | trivial, HN⟩
        case measure => simp [intOf]; omega
      | false =>
        rw [hp] at CF
        have HE : Hid (spn kD l = i) := spn_go HI.out hlt (by rw [hc]; exact hp)
        clear hc hp
        go_wp2_with (go_at_call 172; refine (CF _).mono ?_; rintro e w1 ⟨rfl, hw1⟩; rw [hw1]; clear hw1)
        go_ret
        rw [HE.out]
        exact ⟨rfl, rfl⟩
    · have hlt' : ¬ (i : Int) < (l.length : Int) := by omega
      have HE : Hid (spn kD l = i) := by show _ = _; rw [spn_all (fun j h => HI.out j h (by omega))]; omega
      go_wp2
      go_ret
      rw [HE.out]
      exact ⟨rfl, rfl⟩
set_option maxHeartbeats 1000000 in
theorem span_word (l : List UInt8) (hl : l.length ≤ 4611686018427387904) (w : World) : Calls Tryz.prog 170 #[.string (S l), .func (.func 176) #[] #[]] w fun e w' => e = .returned (.int .i64 (spn kW l : Int)) ∧ w' = w := by
  have hz := S_size l
  have HF : Hid (Bt 176 kW) := inWord_any
  go_enter Tryz.func170, Tryz.ntmps170
  go_wp2
  go_loopw [5] (fun v5 wr => ∃ i : Nat, v5 = .int .i64 (i : Int) ∧ i ≤ l.length ∧ wr = w ∧ Hid (∀ j (h : j < l.length), j < i → kW l[j] = true)) (fun v5 _ => l.length - (intOf v5).toNat)
  case atStart => exact ⟨0, rfl, Nat.zero_le _, rfl, fun j h hj => by omega⟩
  case round =>
    obtain ⟨i, rfl, hi, rfl, HI⟩ := hrel
    by_cases hlt : i < l.length
    · have hlt' : (i : Int) < (l.length : Int) := by omega
      have hi0 : (0 : Int) ≤ (i : Int) := by omega
      obtain ⟨c, hc⟩ : ∃ c, l[i] = c := ⟨_, rfl⟩
      have hgi : ∀ (h : i < (S l).size), (S l)[i]'h = c := fun h => (S_at l i hlt h).trans hc
      have CF := HF.out c
      cases hp : kW c with
      | true =>
        rw [hp] at CF
        have HN : Hid (∀ j (h : j < l.length), j < i + 1 → kW l[j] = true) := fun j h hj => by
          rcases Nat.lt_succ_iff_lt_or_eq.1 hj with h1 | rfl
          · exact HI.out j h h1
          · rw [hc]; exact hp
        clear hc hp
        go_wp2_with (go_at_call 176; refine (CF _).mono ?_; rintro e w1 ⟨rfl, hw1⟩; rw [hw1]; clear hw1)
        go_roundw
        case rel => exact ⟨i + 1, by simp, by omega, by first | rfl | trivial, HN⟩
        case measure => simp [intOf]; omega
      | false =>
        rw [hp] at CF
        have HE : Hid (spn kW l = i) := spn_go HI.out hlt (by rw [hc]; exact hp)
        clear hc hp
        go_wp2_with (go_at_call 176; refine (CF _).mono ?_; rintro e w1 ⟨rfl, hw1⟩; rw [hw1]; clear hw1)
        go_ret
        rw [HE.out]
        exact ⟨rfl, rfl⟩
    · have hlt' : ¬ (i : Int) < (l.length : Int) := by omega
      have HE : Hid (spn kW l = i) := by show _ = _; rw [spn_all (fun j h => HI.out j h (by omega))]; omega
      go_wp2
      go_ret
      rw [HE.out]
      exact ⟨rfl, rfl⟩
end Go.Proofs.YtkbhngdabfoboaaGreatDoor.x10

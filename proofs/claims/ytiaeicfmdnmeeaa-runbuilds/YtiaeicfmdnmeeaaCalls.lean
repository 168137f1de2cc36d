/-
  Contracts of the calls of package wire's reader (Err, Left, End, Uint, Int, Byte): each answers as a function on lists of bytes says; but for the reader's own block nothing that was there before the call is changed.
-/
import Derived.Test.YtiaeicfmdnmeeaaReads
namespace Go.Proofs.Ytiaeicfmdnmeeaa
open Go.RowKit

set_option maxHeartbeats 400000 in
theorem Err_nil (w : World) : Calls Try.prog 68 #[.pointer none] w fun r w' => r = .returned (.int .i64 1) ∧ w' = w := by
  go_enter Try.func68, Try.ntmps68
  go_wp2
  go_ret
  exact ⟨rfl, rfl⟩

set_option maxHeartbeats 400000 in
theorem Err_any {b e : Nat} {l : List UInt8} {w : World} (h : Rd w b l e) : Calls Try.prog 68 #[.pointer (some ⟨b, 0, none⟩)] w fun r w' => r = .returned (.int .i64 (e : Int)) ∧ w' = w := by
  have h1 := h.err
  clear h
  go_enter Try.func68, Try.ntmps68
  go_wp2
  go_ret
  exact ⟨rfl, rfl⟩

set_option maxHeartbeats 400000 in
theorem Left_nil (w : World) : Calls Try.prog 57 #[.pointer none] w fun r w' => r = .returned (.int .i64 0) ∧ w' = w := by
  go_enter Try.func57, Try.ntmps57
  go_wp2
  go_ret
  exact ⟨rfl, rfl⟩

set_option maxHeartbeats 400000 in
theorem Left_any {b e : Nat} {l : List UInt8} {w : World} (h : Rd w b l e) : Calls Try.prog 57 #[.pointer (some ⟨b, 0, none⟩)] w fun r w' => r = .returned (.int .i64 (l.length : Int)) ∧ w' = w := by
  have h1 := h.rest
  have hs := S_size l
  clear h
  go_enter Try.func57, Try.ntmps57
  go_wp2
  go_ret
  exact ⟨rfl, rfl⟩

def endOf (l : List UInt8) (e : Nat) : Nat := if e = 0 then (if l = [] then 0 else 3) else e

/-- a number that is read fits -/
theorem numb_lt : ∀ (l : List UInt8) (i acc : Nat), i ≤ 10 → (i < 10 → acc < 2 ^ (i * 7)) → (numb i acc l).1 < 18446744073709551616
  | [], _, _, _, _ => by simp [numb]
  | c :: t, i, acc, hi, ha => by
    rw [numb]
    split
    · simp
    · rename_i h10
      have hacc := ha (by omega)
      split
      · obtain ⟨acc', _, h1, h2⟩ := or_next (c := c.toNat) (show i ≤ 9 by omega) hacc t
        rw [h2]
        exact numb_lt t (i + 1) acc' (by omega) h1
      · split
        · rename_i hm
          show acc + c.toNat % 128 * 2 ^ (i * 7) < 18446744073709551616
          by_cases h9 : i = 9
          · subst h9
            have h1 : c.toNat = 1 := by simpa [mayEnd] using hm
            rw [h1]
            have : acc < 9223372036854775808 := hacc
            omega
          · have h1 := acc_step (c := c.toNat) hacc
            have hp : 2 ^ ((i + 1) * 7) ≤ 2 ^ 63 := Nat.pow_le_pow_right (by decide) (by omega)
            have : acc + c.toNat % 128 * 2 ^ (i * 7) < 9223372036854775808 := Nat.lt_of_lt_of_le h1 hp
            omega
        · simp

theorem numb_lt0 {l rest : List UInt8} {v er : Nat} (h : Hid (numb 0 0 l = (v, rest, er))) : v < 18446744073709551616 := by
  have := numb_lt l 0 0 (by omega) (by simp)
  rw [h.out] at this
  exact this

set_option maxHeartbeats 400000 in
theorem Byte1_nil (w : World) : Calls Try.prog 66 #[.pointer none] w fun r w' => r = .returned (.int .u8 0) ∧ w' = w := by
  go_enter Try.func66, Try.ntmps66
  go_wp2_with (first | (go_at_call 68; refine (Err_nil _).mono ?_; rintro r w' ⟨rfl, rfl⟩) | go_in)
  go_ret
  exact ⟨rfl, rfl⟩

set_option maxHeartbeats 400000 in
theorem Byte1_wrong {b e : Nat} {l : List UInt8} {w : World} (h : Rd w b l e) (he : e ≠ 0) : Calls Try.prog 66 #[.pointer (some ⟨b, 0, none⟩)] w fun r w' => r = .returned (.int .u8 0) ∧ w' = w := by
  have hb : (((e : Nat) : Int) != 0) = true := by rw [bne_iff_ne]; omega
  clear he
  go_enter Try.func66, Try.ntmps66
  go_wp2_with (first | (go_at_call 68; refine (Err_any h).mono ?_; rintro r w' ⟨rfl, rfl⟩) | go_in)
  go_ret
  exact ⟨rfl, rfl⟩

set_option maxHeartbeats 400000 in
theorem Byte1_ok {b : Nat} {c : UInt8} {t : List UInt8} {w : World} (h : Rd w b (c :: t) 0) : Calls Try.prog 66 #[.pointer (some ⟨b, 0, none⟩)] w fun r w' => r = .returned (.int .u8 (c.toNat : Int)) ∧ Rd w' b t 0 ∧ But b w w' := by
  have h0 := h.rest
  go_enter Try.func66, Try.ntmps66
  go_wp2_with (first | (go_at_call 68; refine (Err_any h).mono ?_; rintro r w' ⟨rfl, rfl⟩) | (go_at_call 77; refine (takeByte_cons h).mono ?_; rintro r w' ⟨rfl, hr, hb⟩) | go_in)
  go_ret
  exact ⟨rfl, hr, hb⟩

set_option maxHeartbeats 400000 in
theorem Byte1_bad {b : Nat} {w : World} (h : Rd w b [] 0) : Calls Try.prog 66 #[.pointer (some ⟨b, 0, none⟩)] w fun r w' => r = .returned (.int .u8 0) ∧ Rd w' b [] 2 ∧ But b w w' := by
  have h0 := h.rest
  have fr := h.fr; have fe := h.fe; have c1 := h.err
  go_enter Try.func66, Try.ntmps66
  go_wp2_with (first | (go_at_call 68; refine (Err_any h).mono ?_; rintro r w' ⟨rfl, rfl⟩) | (go_at_call 77; refine (takeByte_nil h).mono ?_; rintro r w' ⟨rfl, rfl⟩) | go_in)
  go_ret
  exact ⟨rfl, (h.set0 []).set1 2, ((But.refl _ _).setCell _ _).setCell _ _⟩

end Go.Proofs.Ytiaeicfmdnmeeaa

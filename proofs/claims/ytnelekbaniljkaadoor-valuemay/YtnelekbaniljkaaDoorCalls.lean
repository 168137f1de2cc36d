/-
  Contracts of the calls of package wire's reader (Err, Left, End, Uint, Int, Byte): each answers as a function on lists of bytes says; but for the reader's own block nothing that was there before the call is changed.
-/
import Derived.Test.YtnelekbaniljkaaDoorReads
namespace Go.Proofs.YtnelekbaniljkaaDoor
open Go.RowKit

set_option maxHeartbeats 400000 in
theorem Err_nil (w : World) : Calls Tryd.prog 45 #[.pointer none] w fun r w' => r = .returned (.int .i64 1) ∧ w' = w := by
  go_enter Tryd.func45, Tryd.ntmps45
  go_wp2
  go_ret
  exact ⟨rfl, rfl⟩

set_option maxHeartbeats 400000 in
theorem Err_any {b e : Nat} {l : List UInt8} {w : World} (h : Rd w b l e) : Calls Tryd.prog 45 #[.pointer (some ⟨b, 0, none⟩)] w fun r w' => r = .returned (.int .i64 (e : Int)) ∧ w' = w := by
  have h1 := h.err
  clear h
  go_enter Tryd.func45, Tryd.ntmps45
  go_wp2
  go_ret
  exact ⟨rfl, rfl⟩

def endOf (l : List UInt8) (e : Nat) : Nat := if e = 0 then (if l = [] then 0 else 3) else e

set_option maxHeartbeats 400000 in
theorem Uint_nil (w : World) : Calls Tryd.prog 46 #[.pointer none] w fun r w' => r = .returned (.int .u64 0) ∧ w' = w := by
  go_enter Tryd.func46, Tryd.ntmps46
  go_wp2_with (first | (go_at_call 45; refine (Err_nil _).mono ?_; rintro r w' ⟨rfl, rfl⟩) | go_in)
  go_ret
  exact ⟨rfl, rfl⟩

set_option maxHeartbeats 400000 in
theorem Uint_wrong {b e : Nat} {l : List UInt8} {w : World} (h : Rd w b l e) (he : e ≠ 0) : Calls Tryd.prog 46 #[.pointer (some ⟨b, 0, none⟩)] w fun r w' => r = .returned (.int .u64 0) ∧ w' = w := by
  have hb : (((e : Nat) : Int) != 0) = true := by rw [bne_iff_ne]; omega
  clear he
  go_enter Tryd.func46, Tryd.ntmps46
  go_wp2_with (first | (go_at_call 45; refine (Err_any h).mono ?_; rintro r w' ⟨rfl, rfl⟩) | go_in)
  go_ret
  exact ⟨rfl, rfl⟩

set_option maxHeartbeats 400000 in
theorem Uint_ok {b v : Nat} {l rest : List UInt8} {w : World} (h : Rd w b l 0) (hres : Hid (numb 0 0 l = (v, rest, 0))) : Calls Tryd.prog 46 #[.pointer (some ⟨b, 0, none⟩)] w fun r w' => r = .returned (.int .u64 (v : Int)) ∧ Rd w' b rest 0 ∧ But b w w' := by
  have h0 := h.rest
  go_enter Tryd.func46, Tryd.ntmps46
  go_wp2_with (first | (go_at_call 45; refine (Err_any h).mono ?_; rintro r w' ⟨rfl, rfl⟩) | (go_at_call 68; refine (takeUint_res h hres).mono ?_; rintro r w' ⟨rfl, hr, hb⟩) | go_in)
  go_ret
  exact ⟨rfl, hr, hb⟩

set_option maxHeartbeats 400000 in
theorem Uint_bad {b v er : Nat} {l rest : List UInt8} {w : World} (h : Rd w b l 0) (hres : Hid (numb 0 0 l = (v, rest, er))) (he : er ≠ 0) : Calls Tryd.prog 46 #[.pointer (some ⟨b, 0, none⟩)] w fun r w' => r = .returned (.int .u64 0) ∧ Rd w' b l er ∧ But b w w' := by
  have h0 := h.rest
  have hbe : (((er : Nat) : Int) != 0) = true := by rw [bne_iff_ne]; omega
  clear he
  go_enter Tryd.func46, Tryd.ntmps46
  go_wp2_with (first | (go_at_call 45; refine (Err_any h).mono ?_; rintro r w' ⟨rfl, rfl⟩) | (go_at_call 68; refine (takeUint_res h hres).mono ?_; rintro r w' ⟨rfl, hr, hb⟩; have fr := hr.fr; have fe := hr.fe; have c0 := hr.rest; have c1 := hr.err) | go_in)
  go_ret
  exact ⟨rfl, (hr.set0 l).set1 er, (hb.setCell _ _).setCell _ _⟩

/-- a number that is read fits -/
theorem numb_lt : ∀ (l : List UInt8) (i acc : Nat), i ≤ 10 → (i < 10 → acc < 2 ^ (i * 7)) → (numb i acc l).1 < 18446744073709551616
  | [], _, _, _, _ => by simp [numb]
  | c :: t, i, acc, hi, ha => by
    rw [numb]
    split
    · simp
    · rename_i h10
      have hacc := ha (by omega)
      split
      · obtain ⟨acc', _, h1, h2⟩ := or_next (c := c.toNat) (show i ≤ 9 by omega) hacc t
        rw [h2]
        exact numb_lt t (i + 1) acc' (by omega) h1
      · split
        · rename_i hm
          show acc + c.toNat % 128 * 2 ^ (i * 7) < 18446744073709551616
          by_cases h9 : i = 9
          · subst h9
            have h1 : c.toNat = 1 := by simpa [mayEnd] using hm
            rw [h1]
            have : acc < 9223372036854775808 := hacc
            omega
          · have h1 := acc_step (c := c.toNat) hacc
            have hp : 2 ^ ((i + 1) * 7) ≤ 2 ^ 63 := Nat.pow_le_pow_right (by decide) (by omega)
            have : acc + c.toNat % 128 * 2 ^ (i * 7) < 9223372036854775808 := Nat.lt_of_lt_of_le h1 hp
            omega
        · simp

theorem numb_lt0 {l rest : List UInt8} {v er : Nat} (h : Hid (numb 0 0 l = (v, rest, er))) : v < 18446744073709551616 := by
  have := numb_lt l 0 0 (by omega) (by simp)
  rw [h.out] at this
  exact this

set_option maxHeartbeats 400000 in
theorem signed_any (u : Nat) (hu : u < 18446744073709551616) (w : World) :
    Calls Tryd.prog 76 #[.int .u64 (u : Int)] w fun r w' => r = .returned (.int .i64 (Lib.unzigzag u)) ∧ w' = w := by
  have ha := Lib.u64_and1 (u : Int) (by omega) (by omega)
  by_cases hodd : u % 2 = 0
  · have hz : Lib.unzigzag u = (u : Int) / 2 := by simp [Lib.unzigzag, hodd]
    have hb : ((u : Int) % 2 == 1) = false := beq_eq_false_iff_ne.2 (by omega)
    clear hodd
    have HZ : Hid (Lib.unzigzag u = (u : Int) / 2) := hz
    clear hz
    go_enter Tryd.func76, Tryd.ntmps76
    go_wp2
    go_ret
    exact ⟨by rw [HZ.out]; rfl, rfl⟩
  · have hz : Lib.unzigzag u = -((u : Int) / 2) - 1 := by simp [Lib.unzigzag, hodd]
    have hb : ((u : Int) % 2 == 1) = true := beq_iff_eq.2 (by omega)
    have hx := Lib.i64_not (u / 2) (by omega)
    rw [show (((u / 2 : Nat)) : Int) = (u : Int) / 2 from by omega] at hx
    clear hodd
    have HZ : Hid (Lib.unzigzag u = -((u : Int) / 2) - 1) := hz
    clear hz
    go_enter Tryd.func76, Tryd.ntmps76
    go_wp2
    go_ret
    exact ⟨by rw [HZ.out]; rfl, rfl⟩

set_option maxHeartbeats 400000 in
theorem takeInt_res {b e v er : Nat} {l rest : List UInt8} {w : World} (h : Rd w b l e) (hres : Hid (numb 0 0 l = (v, rest, er))) :
    Calls Tryd.prog 63 #[.pointer (some ⟨b, 0, none⟩)] w fun r w' => r = .returned (.tuple #[.int .i64 (Lib.unzigzag v), .int .i64 (er : Int)]) ∧ Rd w' b rest e ∧ But b w w' := by
  have hv := numb_lt0 hres
  go_enter Tryd.func63, Tryd.ntmps63
  go_wp2_with (first | (go_at_call 68; refine (takeUint_res h hres).mono ?_; rintro r w' ⟨rfl, hr, hb⟩) | (go_at_call 76; refine (signed_any v hv _).mono ?_; rintro r w' ⟨rfl, rfl⟩))
  go_ret2
  exact ⟨rfl, hr, hb⟩


set_option maxHeartbeats 400000 in
theorem Int1_nil (w : World) : Calls Tryd.prog 43 #[.pointer none] w fun r w' => r = .returned (.int .i64 0) ∧ w' = w := by
  go_enter Tryd.func43, Tryd.ntmps43
  go_wp2_with (first | (go_at_call 45; refine (Err_nil _).mono ?_; rintro r w' ⟨rfl, rfl⟩) | go_in)
  go_ret
  exact ⟨rfl, rfl⟩

set_option maxHeartbeats 400000 in
theorem Int1_wrong {b e : Nat} {l : List UInt8} {w : World} (h : Rd w b l e) (he : e ≠ 0) : Calls Tryd.prog 43 #[.pointer (some ⟨b, 0, none⟩)] w fun r w' => r = .returned (.int .i64 0) ∧ w' = w := by
  have hb : (((e : Nat) : Int) != 0) = true := by rw [bne_iff_ne]; omega
  clear he
  go_enter Tryd.func43, Tryd.ntmps43
  go_wp2_with (first | (go_at_call 45; refine (Err_any h).mono ?_; rintro r w' ⟨rfl, rfl⟩) | go_in)
  go_ret
  exact ⟨rfl, rfl⟩

set_option maxHeartbeats 400000 in
theorem Int1_ok {b v : Nat} {l rest : List UInt8} {w : World} (h : Rd w b l 0) (hres : Hid (numb 0 0 l = (v, rest, 0))) : Calls Tryd.prog 43 #[.pointer (some ⟨b, 0, none⟩)] w fun r w' => r = .returned (.int .i64 (Lib.unzigzag v)) ∧ Rd w' b rest 0 ∧ But b w w' := by
  have h0 := h.rest
  go_enter Tryd.func43, Tryd.ntmps43
  go_wp2_with (first | (go_at_call 45; refine (Err_any h).mono ?_; rintro r w' ⟨rfl, rfl⟩) | (go_at_call 63; refine (takeInt_res h hres).mono ?_; rintro r w' ⟨rfl, hr, hb⟩) | go_in)
  go_ret
  exact ⟨rfl, hr, hb⟩

set_option maxHeartbeats 400000 in
theorem Int1_bad {b v er : Nat} {l rest : List UInt8} {w : World} (h : Rd w b l 0) (hres : Hid (numb 0 0 l = (v, rest, er))) (he : er ≠ 0) : Calls Tryd.prog 43 #[.pointer (some ⟨b, 0, none⟩)] w fun r w' => r = .returned (.int .i64 0) ∧ Rd w' b l er ∧ But b w w' := by
  have h0 := h.rest
  have hbe : (((er : Nat) : Int) != 0) = true := by rw [bne_iff_ne]; omega
  clear he
  go_enter Tryd.func43, Tryd.ntmps43
  go_wp2_with (first | (go_at_call 45; refine (Err_any h).mono ?_; rintro r w' ⟨rfl, rfl⟩) | (go_at_call 63; refine (takeInt_res h hres).mono ?_; rintro r w' ⟨rfl, hr, hb⟩; have fr := hr.fr; have fe := hr.fe; have c0 := hr.rest; have c1 := hr.err) | go_in)
  go_ret
  exact ⟨rfl, (hr.set0 l).set1 er, (hb.setCell _ _).setCell _ _⟩

set_option maxHeartbeats 400000 in
theorem Byte1_nil (w : World) : Calls Tryd.prog 42 #[.pointer none] w fun r w' => r = .returned (.int .u8 0) ∧ w' = w := by
  go_enter Tryd.func42, Tryd.ntmps42
  go_wp2_with (first | (go_at_call 45; refine (Err_nil _).mono ?_; rintro r w' ⟨rfl, rfl⟩) | go_in)
  go_ret
  exact ⟨rfl, rfl⟩

set_option maxHeartbeats 400000 in
theorem Byte1_wrong {b e : Nat} {l : List UInt8} {w : World} (h : Rd w b l e) (he : e ≠ 0) : Calls Tryd.prog 42 #[.pointer (some ⟨b, 0, none⟩)] w fun r w' => r = .returned (.int .u8 0) ∧ w' = w := by
  have hb : (((e : Nat) : Int) != 0) = true := by rw [bne_iff_ne]; omega
  clear he
  go_enter Tryd.func42, Tryd.ntmps42
  go_wp2_with (first | (go_at_call 45; refine (Err_any h).mono ?_; rintro r w' ⟨rfl, rfl⟩) | go_in)
  go_ret
  exact ⟨rfl, rfl⟩

set_option maxHeartbeats 400000 in
theorem Byte1_ok {b : Nat} {c : UInt8} {t : List UInt8} {w : World} (h : Rd w b (c :: t) 0) : Calls Tryd.prog 42 #[.pointer (some ⟨b, 0, none⟩)] w fun r w' => r = .returned (.int .u8 (c.toNat : Int)) ∧ Rd w' b t 0 ∧ But b w w' := by
  have h0 := h.rest
  go_enter Tryd.func42, Tryd.ntmps42
  go_wp2_with (first | (go_at_call 45; refine (Err_any h).mono ?_; rintro r w' ⟨rfl, rfl⟩) | (go_at_call 61; refine (takeByte_cons h).mono ?_; rintro r w' ⟨rfl, hr, hb⟩) | go_in)
  go_ret
  exact ⟨rfl, hr, hb⟩

set_option maxHeartbeats 400000 in
theorem Byte1_bad {b : Nat} {w : World} (h : Rd w b [] 0) : Calls Tryd.prog 42 #[.pointer (some ⟨b, 0, none⟩)] w fun r w' => r = .returned (.int .u8 0) ∧ Rd w' b [] 2 ∧ But b w w' := by
  have h0 := h.rest
  have fr := h.fr; have fe := h.fe; have c1 := h.err
  go_enter Tryd.func42, Tryd.ntmps42
  go_wp2_with (first | (go_at_call 45; refine (Err_any h).mono ?_; rintro r w' ⟨rfl, rfl⟩) | (go_at_call 61; refine (takeByte_nil h).mono ?_; rintro r w' ⟨rfl, rfl⟩) | go_in)
  go_ret
  exact ⟨rfl, (h.set0 []).set1 2, ((But.refl _ _).setCell _ _).setCell _ _⟩

end Go.Proofs.YtnelekbaniljkaaDoor

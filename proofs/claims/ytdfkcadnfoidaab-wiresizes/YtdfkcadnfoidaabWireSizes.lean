/-
  Proved: for every two numbers and every text WireSizes answers true, and changes nothing that was there before the call: a number has as many bytes as it has sevens of bits, one at least; one with a sign as its distance from 0, doubled; a text stands behind its length. No condition.
-/
import Derived.Test.YtdfkcadnfoidaabRows
import Derived.Test.YtdfkcadnfoidaabShown
import Derived.Test.YtdfkcadnfoidaabTexts
import Derived.ProofKit
import Derived.OpenShut
import Derived.ShutString
import Derived.SizedLaws
import Derived.Deep.RegionHeld3
namespace Go.Proofs.Ytdfkcadnfoidaab.wireSizes
open Go.ChangeShapes Go.WideShapes Go.ChangeAt Go.RowKit
open Go.ChangeMaps (open_string shut_string)

theorem len_exact : ∀ (m v : Nat), 128 ^ m ≤ v → v < 128 ^ (m + 1) → (Lib.uvarint v).length = m + 1
  | 0, v, _, h => by rw [Lib.uvarint_small (by simpa using h)]; rfl
  | m + 1, v, h1, h2 => by
    have h3 : 128 ≤ v := Nat.le_trans (by rw [Nat.pow_succ]; have := Nat.one_le_two_pow (n := m); have : 1 ≤ 128 ^ m := Nat.one_le_pow _ _ (by decide); omega) h1
    rw [Lib.uvarint_big h3, List.length_cons, len_exact m (v / 128) ?_ ?_]
    · rw [Nat.le_div_iff_mul_le (by decide), ← Nat.pow_succ]; exact h1
    · rw [Nat.div_lt_iff_lt_mul (by decide), ← Nat.pow_succ]; exact h2

/-- how many bytes a number of k bits has -/
def need (k : Nat) : Nat := if (k + 6) / 7 = 0 then 1 else (k + 6) / 7

theorem len_bits {v k : Nat} (h1 : k = 0 ∨ 2 ^ (k - 1) ≤ v) (h2 : v < 2 ^ k) : (Lib.uvarint v).length = need k := by
  unfold need
  by_cases hk : k = 0
  · subst hk
    have : v = 0 := by simpa using h2
    subst this
    rw [Lib.uvarint_small (by decide)]
    rfl
  · rw [if_neg (by omega)]
    have h3 : 2 ^ (k - 1) ≤ v := by rcases h1 with h | h; · exact absurd h hk
                                    · exact h
    have e : ∀ m, 128 ^ m = 2 ^ (7 * m) := fun m => by rw [show (128 : Nat) = 2 ^ 7 from rfl, ← Nat.pow_mul]
    have := len_exact ((k + 6) / 7 - 1) v (by rw [e]; exact Nat.le_trans (Nat.pow_le_pow_right (by decide) (by omega)) h3) (by rw [e]; exact Nat.lt_of_lt_of_le h2 (Nat.pow_le_pow_right (by decide) (by omega)))
    omega

theorem halve {v k : Nat} (h : 0 < v / 2 ^ k) : 2 ^ k ≤ v := by
  rcases Nat.lt_or_ge v (2 ^ k) with h2 | h2
  · rw [Nat.div_eq_of_lt h2] at h; omega
  · exact h2

theorem Uint_int (m : Int) (n : Nat) (hm : (n : Int) = m) (hn : n < 18446744073709551616) (w : World) :
    Calls Try.prog 7 #[.int .u64 m] w fun e w' => e = .returned (.string (S (Lib.uvarint n))) ∧ Below w.heap.size w w' := by
  subst hm
  exact Uint_any n hn w

set_option maxHeartbeats 4000000 in
set_option maxRecDepth 100000 in
theorem walk (v : Nat) (hv : v < 18446744073709551616) (n : Int) (h1 : -9223372036854775808 ≤ n) (h2 : n ≤ 9223372036854775807) (s : List UInt8) (hs : s.length ≤ 140737488351232) (w : World) :
    Calls Try.prog 3 #[.int .u64 (v : Int), .int .i64 n, .string (S s)] w fun r w' => r = .returned (.bool true) ∧ Below w.heap.size w w' := by
  have hss := S_size s
  go_enter Try.func3, Try.ntmps3
  go_wp2_with fail
  refine (shown_any _).mono ?_
  rintro r w1 ⟨rfl, b1⟩
  go_wp2_with fail
  go_loopw [8, 9] (fun vk vx wr => ∃ k : Nat, k ≤ 64 ∧ vk = .int .i64 (k : Int) ∧ vx = .int .u64 ((v / 2 ^ k : Nat) : Int) ∧ Hid (k = 0 ∨ 2 ^ (k - 1) ≤ v) ∧ wr = w1)
    (fun vk _ _ => 65 - (intOf vk).toNat)
  case atStart => exact ⟨0, by omega, rfl, by simp, .inl rfl, rfl⟩
  case round =>
    obtain ⟨k, hk, rfl, rfl, HK, rfl⟩ := hrel
    have hdl : v / 2 ^ k ≤ v := Nat.div_le_self _ _
    by_cases hx : 0 < v / 2 ^ k
    · have hle := halve hx
      have hk64 : k < 64 := by
        rcases Nat.lt_or_ge k 64 with h | h
        · exact h
        · have : 2 ^ 64 ≤ 2 ^ k := Nat.pow_le_pow_right (by decide) h
          have e : (2 : Nat) ^ 64 = 18446744073709551616 := by decide
          omega
      have hnx : v / 2 ^ k / 2 = v / 2 ^ (k + 1) := by rw [Nat.div_div_eq_div_mul, Nat.pow_succ]
      have HK2 : Hid (k + 1 = 0 ∨ 2 ^ (k + 1 - 1) ≤ v) := .inr hle
      have HNX : Hid (v / 2 ^ k / 2 = v / 2 ^ (k + 1)) := hnx
      clear hle hnx HK
      generalize v / 2 ^ k = y at *
      go_wp2_with fail
      refine ⟨⟨k + 1, by omega, by go_num, ?_, HK2, by trivial⟩, by simp [intOf]; omega⟩
      rw [← HNX.out]
      go_num
    · have h0 : v / 2 ^ k = 0 := Nat.eq_zero_of_not_pos hx
      have hlt : v < 2 ^ k := by
        rcases Nat.lt_or_ge v (2 ^ k) with h | h
        · exact h
        · have := Nat.div_pos h (Nat.two_pow_pos k); omega
      have hlen := len_bits HK.out hlt
      rw [h0]
      clear h0 hlt HK hdl hx
      have HL : Hid ((Lib.uvarint v).length = need k) := hlen
      have hlv := S_size (Lib.uvarint v)
      have hsl : s.length < 18446744073709551616 := by omega
      have htz := S_size (txt s)
      have htl := txt_length s
      have hul := Lib.uvarint_length64 hsl
      have hup := Lib.uvarint_pos s.length
      have hvl := Lib.uvarint_length64 hv
      have hzl := Lib.zigzag_lt h1 h2
      have e1 : (S (txt s)).extract (Lib.uvarint s.length).length ((Lib.uvarint s.length).length + s.length) = S s := by
        rw [← htl, S_drop]; unfold txt; rw [List.drop_left]
      have e2 : (S (txt s)).extract 0 (Lib.uvarint s.length).length = S (Lib.uvarint s.length) := by
        rw [S_take]; unfold txt; rw [List.take_left]
      have g3 : decide ((1 : Int) ≤ ((Lib.uvarint s.length).length : Int)) = true := decide_eq_true (by omega)
      have g4 : (0 : Int) ≤ ((Lib.uvarint s.length).length : Int) := by omega
      have g5 : ((Lib.uvarint s.length).length : Int) ≤ ((Lib.uvarint s.length).length : Int) + (s.length : Int) := by omega
      have g6 : (Lib.uvarint s.length).length ≤ (Lib.uvarint s.length).length + s.length := by omega
      clear hlen
      by_cases hk0 : k = 0
      · subst hk0
        have g1 : (((Lib.uvarint v).length : Int) == 1) = true := by rw [HL.out]; rfl
        by_cases hneg : n < 0
        · have hn0 : decide (n < 0) = true := by exact decide_eq_true hneg
          have HZ : Hid (((Lib.zigzag n : Nat) : Int) = 2 * -(n + 1) + 1) := by
            show _ = _
            unfold Lib.zigzag
            rw [if_neg (by omega)]
            omega
          go_wp2_with fail
          refine (Uint_any v hv _).mono ?_
          rintro r w2 ⟨rfl, b2⟩
          go_wp2_with fail
          refine (Int_any n h1 h2 _).mono ?_
          rintro r w3 ⟨rfl, b3⟩
          go_wp2_with fail
          refine (Text_any s (by omega) _).mono ?_
          rintro r w4 ⟨rfl, b4⟩
          have B4 := next (next (next b1 b2) b3) b4
          clear b1 b2 b3 b4
          go_wp2_with fail
          obtain ⟨m, hm⟩ : ∃ m : Int, m = 2 * -(n + 1) + 1 := ⟨_, rfl⟩
          have HM : Hid (((Lib.zigzag n : Nat) : Int) = m) := by rw [hm]; exact HZ
          rw [← hm]
          clear hm HZ
          go_region_held3 (fun _ => True) (trivial) (first
            | (go_at_call_of 7 (Value.int IntKind.u64 m); refine (Uint_int m (Lib.zigzag n) HM.out hzl _).mono ?_; rintro r w5 ⟨rfl, b5⟩)
            | (go_at_call 7; refine (Uint_int _ s.length (by first | rfl | exact (IntWalk.u64_in _ (by omega)).symm) hsl _).mono ?_; rintro r w6 ⟨rfl, b6⟩))
          have B6 := next (next B4.drew b5) b6
          clear B4 b5 b6
          go_wp2
          go_ret
          exact ⟨rfl, B6⟩
        · have hn0 : decide (n < 0) = false := by exact decide_eq_false hneg
          have HZ : Hid (((Lib.zigzag n : Nat) : Int) = 2 * n) := by
            show _ = _
            unfold Lib.zigzag
            rw [if_pos (by omega)]
            omega
          go_wp2_with fail
          refine (Uint_any v hv _).mono ?_
          rintro r w2 ⟨rfl, b2⟩
          go_wp2_with fail
          refine (Int_any n h1 h2 _).mono ?_
          rintro r w3 ⟨rfl, b3⟩
          go_wp2_with fail
          refine (Text_any s (by omega) _).mono ?_
          rintro r w4 ⟨rfl, b4⟩
          have B4 := next (next (next b1 b2) b3) b4
          clear b1 b2 b3 b4
          go_wp2_with fail
          obtain ⟨m, hm⟩ : ∃ m : Int, m = 2 * n := ⟨_, rfl⟩
          have HM : Hid (((Lib.zigzag n : Nat) : Int) = m) := by rw [hm]; exact HZ
          rw [← hm]
          clear hm HZ
          go_region_held3 (fun _ => True) (trivial) (first
            | (go_at_call_of 7 (Value.int IntKind.u64 m); refine (Uint_int m (Lib.zigzag n) HM.out hzl _).mono ?_; rintro r w5 ⟨rfl, b5⟩)
            | (go_at_call 7; refine (Uint_int _ s.length (by first | rfl | exact (IntWalk.u64_in _ (by omega)).symm) hsl _).mono ?_; rintro r w6 ⟨rfl, b6⟩))
          have B6 := next (next B4.drew b5) b6
          clear B4 b5 b6
          go_wp2
          go_ret
          exact ⟨rfl, B6⟩
      · have g0 : (((k : Int) + 6) / 7 == 0) = false := beq_eq_false_iff_ne.2 (by omega)
        have g1 : (((Lib.uvarint v).length : Int) == ((k : Int) + 6) / 7) = true := by
          rw [HL.out, beq_iff_eq]
          unfold need
          rw [if_neg (by omega)]
          omega
        by_cases hneg : n < 0
        · have hn0 : decide (n < 0) = true := by exact decide_eq_true hneg
          have HZ : Hid (((Lib.zigzag n : Nat) : Int) = 2 * -(n + 1) + 1) := by
            show _ = _
            unfold Lib.zigzag
            rw [if_neg (by omega)]
            omega
          go_wp2_with fail
          refine (Uint_any v hv _).mono ?_
          rintro r w2 ⟨rfl, b2⟩
          go_wp2_with fail
          refine (Int_any n h1 h2 _).mono ?_
          rintro r w3 ⟨rfl, b3⟩
          go_wp2_with fail
          refine (Text_any s (by omega) _).mono ?_
          rintro r w4 ⟨rfl, b4⟩
          have B4 := next (next (next b1 b2) b3) b4
          clear b1 b2 b3 b4
          go_wp2_with fail
          obtain ⟨m, hm⟩ : ∃ m : Int, m = 2 * -(n + 1) + 1 := ⟨_, rfl⟩
          have HM : Hid (((Lib.zigzag n : Nat) : Int) = m) := by rw [hm]; exact HZ
          rw [← hm]
          clear hm HZ
          go_region_held3 (fun _ => True) (trivial) (first
            | (go_at_call_of 7 (Value.int IntKind.u64 m); refine (Uint_int m (Lib.zigzag n) HM.out hzl _).mono ?_; rintro r w5 ⟨rfl, b5⟩)
            | (go_at_call 7; refine (Uint_int _ s.length (by first | rfl | exact (IntWalk.u64_in _ (by omega)).symm) hsl _).mono ?_; rintro r w6 ⟨rfl, b6⟩))
          have B6 := next (next B4.drew b5) b6
          clear B4 b5 b6
          go_wp2
          go_ret
          exact ⟨rfl, B6⟩
        · have hn0 : decide (n < 0) = false := by exact decide_eq_false hneg
          have HZ : Hid (((Lib.zigzag n : Nat) : Int) = 2 * n) := by
            show _ = _
            unfold Lib.zigzag
            rw [if_pos (by omega)]
            omega
          go_wp2_with fail
          refine (Uint_any v hv _).mono ?_
          rintro r w2 ⟨rfl, b2⟩
          go_wp2_with fail
          refine (Int_any n h1 h2 _).mono ?_
          rintro r w3 ⟨rfl, b3⟩
          go_wp2_with fail
          refine (Text_any s (by omega) _).mono ?_
          rintro r w4 ⟨rfl, b4⟩
          have B4 := next (next (next b1 b2) b3) b4
          clear b1 b2 b3 b4
          go_wp2_with fail
          obtain ⟨m, hm⟩ : ∃ m : Int, m = 2 * n := ⟨_, rfl⟩
          have HM : Hid (((Lib.zigzag n : Nat) : Int) = m) := by rw [hm]; exact HZ
          rw [← hm]
          clear hm HZ
          go_region_held3 (fun _ => True) (trivial) (first
            | (go_at_call_of 7 (Value.int IntKind.u64 m); refine (Uint_int m (Lib.zigzag n) HM.out hzl _).mono ?_; rintro r w5 ⟨rfl, b5⟩)
            | (go_at_call 7; refine (Uint_int _ s.length (by first | rfl | exact (IntWalk.u64_in _ (by omega)).symm) hsl _).mono ?_; rintro r w6 ⟨rfl, b6⟩))
          have B6 := next (next B4.drew b5) b6
          clear B4 b5 b6
          go_wp2
          go_ret
          exact ⟨rfl, B6⟩

theorem own : ownKnob Try.prog.godebug = none := by kernel_rfl

set_option maxRecDepth 100000 in
theorem lifted (os : Os) (started : os.Started) (H : Type) (enc : TypeId × Value → H) :
    ReturnsInHanded {} Try.checked os 3 .any (Rows.wireSizesSpec.pre6 enc Try.prog Try.f3 Rows.wireSizesRow.domain false) (Rows.wireSizesSpec.post enc Try.prog Try.f3 false true false false) := by
  refine returnsInHanded_of_change_sized (C := Try.checked) own started (by kernel_rfl) Try.func3
    (ChangeSpec.witness6 (enc := enc) (C := Try.checked) false ⟨#[], #[.int .u64 0, .int .i64 0, .string .empty], []⟩ 8 (by kernel_rfl) (by kernel_rfl) (by kernel_rfl) (by kernel_rfl)) ?_
  intro W base args ds gs before hval0 hW hcnd hsz0 _
  have hval : ∀ (j : Nat) t v, Try.f3.params[j]? = some t → args[j]? = some v → Value.okWide Try.prog W .any base t v := hval0
  have hsz : (DataW.weightsEach Try.prog (Try.f3.params.toList ++ Rows.wireSizesSpec.plain.varTypes Try.prog) (ds ++ gs)).all (· ≤ reachBytes) = true := hsz0
  have hW' := hW
  obtain ⟨p, q, hA0, hV, rfl, hfz, hnd⟩ := hW
  have hA : DataW.TrodAll enc Try.prog W 0 (fun _ => true) true Try.f3.params.toList args.toList ds p := hA0
  rw [Try.params3] at hA hval hsz
  obtain ⟨v0, vs0, d0, ds0, p0, q0, hargs, rfl, rfl, h0, r0⟩ := trodAll_cons hA
  obtain ⟨v1, vs1, d1, ds1, p1, q1, rfl, rfl, rfl, h1, r1⟩ := trodAll_cons r0
  obtain ⟨v2, vs2, d2, ds2, p2, q2, rfl, rfl, rfl, h2, r2⟩ := trodAll_cons r1
  obtain ⟨rfl, rfl, rfl⟩ := trodAll_nil r2
  obtain rfl : args = #[v0, v1, v2] := by cases args; simp_all
  obtain ⟨rfl, rfl⟩ := trodVars_none hV
  obtain ⟨a0, rfl, rfl, rfl, w0⟩ := open_int Try.underlying22 (hval 0 22 v0 rfl rfl) h0
  obtain ⟨a1, rfl, rfl, rfl, w1⟩ := open_int Try.underlying2 (hval 1 2 v1 rfl rfl) h1
  obtain ⟨a2, rfl, rfl, rfl, w2⟩ := open_string Try.underlying9 (hval 2 9 v2 rfl rfl) h2
  have hlen := sized_string hsz (j := 2) (t := 9) rfl rfl
  simp only [reachBytes] at hlen
  have hb0 := bounds_u64 w0
  have hb1 := bounds_i64 w1
  obtain ⟨n0, rfl⟩ := Int.eq_ofNat_of_zero_le hb0.1
  clear hA0 hval0
  have hwk := walk n0 (by omega) a1 hb1.1 hb1.2 a2.data.toList (by omega) W
  rw [S_of] at hwk
  refine hwk.mono fun e W' ⟨he, bel⟩ => ?_
  subst he
  exact ⟨_, rfl, _, _, _, [], _, [], hW', trodAll_mk1 (shut_bool Try.underlying4 _), (trodAll_cons_mk (shut_int Try.underlying22 w0) (trodAll_cons_mk (shut_int Try.underlying2 w1) (trodAll_cons_mk (shut_string Try.underlying9 w2) trodAll_mk0))), rfl, bel.frame _, fun h => by cases h⟩

theorem proved : Rows.WireSizesSaid :=
  OpenClaim.holds_of_wide 3 Try.f3 rfl rfl rfl rfl rfl rfl rfl ⟨rfl, rfl, rfl, rfl, rfl⟩ rfl rfl rfl rfl rfl (by kernel_rfl) Try.func3 (by kernel_rfl)
    (of_decide_eq_true (by kernel_rfl)) (by unfold Func.isWrapper; first | (rw [if_pos (by decide +kernel)]; kernel_rfl) | (rw [if_neg (by decide +kernel)]; exact ⟨rfl, rfl⟩))
    (fun os started H enc _ => lifted os started H enc)
end Go.Proofs.Ytdfkcadnfoidaab.wireSizes

/-
  Proved: WireWrites answers true, and changes nothing that was there before the call, where what it is given holds together at most 1048576 values and letters: numbers, texts and lists are written as the document's bytes.
-/
import Derived.Test.YtdfkcadnfoidaaaShown
import Derived.Test.YtdfkcadnfoidaaaRefs
import Derived.Test.YtdfkcadnfoidaaaArgs
namespace Go.Proofs.Ytdfkcadnfoidaaa.wireWrites
open Go.ChangeShapes Go.WideShapes Go.ChangeAt Go.RowKit

theorem beq_self (l : List UInt8) : ((S l).toList == (S l).toList) = true := by simp

set_option maxHeartbeats 4000000 in
set_option maxRecDepth 100000 in
theorem walk (v : Nat) (hv : v < 18446744073709551616) (n : Int) (h1 : -9223372036854775808 ≤ n) (h2 : n ≤ 9223372036854775807) (va : Value) (ls : List (List UInt8)) (w : World) (hs : Strs w va ls) (hbk : bulkOf ls ≤ 1048576) :
    Calls Try.prog 3 #[.int .u64 (v : Int), .int .i64 n, va] w fun r w' => r = .returned (.bool true) ∧ Below w.heap.size w w' := by
  have hll := lst_bulk ls hbk
  have hg0 := get_bulk ls 0
  have hs0 := hs
  obtain ⟨a, cap, rfl, hs⟩ := hs
  obtain ⟨s, hse⟩ : ∃ s : List UInt8, s = ls.getD 0 [] := ⟨_, rfl⟩
  rw [← hse] at hg0
  go_enter Try.func3, Try.ntmps3
  go_wp2_with fail
  refine (shown_any _).mono ?_
  rintro r w1 ⟨rfl, b1⟩
  have hs1 := hs0.below b1 (Nat.le_refl _)
  by_cases h0 : ls = []
  · subst h0
    clear hse hs hg0
    go_wp2_with fail
    refine (Uint_any v hv _).mono ?_
    rintro r w2 ⟨rfl, b2⟩
    go_wp2_with fail
    refine (refUint_any v hv _).mono ?_
    rintro r w3 ⟨rfl, b3⟩
    have e1 := beq_self (Lib.uvarint v)
    go_wp2_with fail
    refine (Int_any n h1 h2 _).mono ?_
    rintro r w4 ⟨rfl, b4⟩
    go_wp2_with fail
    refine (refInt_any n h1 h2 _).mono ?_
    rintro r w5 ⟨rfl, b5⟩
    have e2 := beq_self (Lib.uvarint (Lib.zigzag n))
    go_wp2_with fail
    refine (Text_any [] (by first | (simp; done) | omega) _).mono ?_
    rintro r w6 ⟨rfl, b6⟩
    go_wp2_with fail
    refine (refText_any [] (by first | (simp; done) | omega) _).mono ?_
    rintro r w7 ⟨rfl, b7⟩
    have e3 := beq_self (txt [])
    have B7 := next (next (next (next (next (next b1 b2) b3) b4) b5) b6) b7
    have hs7 := hs0.below B7 (Nat.le_refl _)
    clear b2 b3 b4 b5 b6 b7 b1
    go_wp2_with fail
    refine (List_any hs7 (by omega)).mono ?_
    rintro r w8 ⟨rfl, b8⟩
    go_wp2_with fail
    refine (refList_any (hs7.below b8 (Nat.le_refl _)) (by omega)).mono ?_
    rintro r w9 ⟨rfl, b9⟩
    have e4 := beq_self (lst [])
    go_wp2
    go_ret
    exact ⟨rfl, next (next B7 b8) b9⟩
  · rcases hs with hs | ⟨b, off, rfl, hlt, hc⟩
    · exact absurd hs h0
    have hpos : 0 < ls.length := List.length_pos_iff.2 h0
    have hc0 := (b1.cell (p := ⟨b, off + 0, none⟩) hlt).trans (hc 0 hpos)
    rw [Nat.add_zero, ← hse] at hc0
    clear hc hse h0
    go_wp2_with fail
    refine (Uint_any v hv _).mono ?_
    rintro r w2 ⟨rfl, b2⟩
    go_wp2_with fail
    refine (refUint_any v hv _).mono ?_
    rintro r w3 ⟨rfl, b3⟩
    have e1 := beq_self (Lib.uvarint v)
    go_wp2_with fail
    refine (Int_any n h1 h2 _).mono ?_
    rintro r w4 ⟨rfl, b4⟩
    go_wp2_with fail
    refine (refInt_any n h1 h2 _).mono ?_
    rintro r w5 ⟨rfl, b5⟩
    have e2 := beq_self (Lib.uvarint (Lib.zigzag n))
    go_wp2_with fail
    refine (Text_any s (by first | (simp; done) | omega) _).mono ?_
    rintro r w6 ⟨rfl, b6⟩
    go_wp2_with fail
    refine (refText_any s (by first | (simp; done) | omega) _).mono ?_
    rintro r w7 ⟨rfl, b7⟩
    have e3 := beq_self (txt s)
    have B7 := next (next (next (next (next (next b1 b2) b3) b4) b5) b6) b7
    have hs7 := hs0.below B7 (Nat.le_refl _)
    clear b2 b3 b4 b5 b6 b7 b1
    go_wp2_with fail
    refine (List_any hs7 (by omega)).mono ?_
    rintro r w8 ⟨rfl, b8⟩
    go_wp2_with fail
    refine (refList_any (hs7.below b8 (Nat.le_refl _)) (by omega)).mono ?_
    rintro r w9 ⟨rfl, b9⟩
    have e4 := beq_self (lst ls)
    go_wp2
    go_ret
    exact ⟨rfl, next (next B7 b8) b9⟩

set_option maxRecDepth 100000 in
theorem lifted (os : Os) (started : os.Started) (H : Type) (enc : TypeId × Value → H) (F : Stop.Interp) :
    ReturnsInHanded {} Try.checked os 3 .any ((Rows.OpenSpec.upto Rows.wireWritesSpec).pre6 enc Try.prog Try.f3 Rows.wireWritesUptoRow.domain false) (((Rows.OpenSpec.upto Rows.wireWritesSpec).at F).post enc Try.prog Try.f3 false true false false) := by
  refine returnsInHanded_of_cond (C := Try.checked) (s := Rows.OpenSpec.upto Rows.wireWritesSpec) (k := Rows.uptoSmall) rfl own started (by kernel_rfl) Try.func3
    (OpenSpec.witness (enc := enc) (C := Try.checked) (s := Rows.OpenSpec.upto Rows.wireWritesSpec) (k := Rows.uptoSmall) rfl false ⟨#[], #[.int .u64 0, .int .i64 0, .slice none 0 0], []⟩ 8 (by kernel_rfl) (by kernel_rfl) (by kernel_rfl)
      (x := ([.lit (.int .u64 0), .lit (.int .i64 0), .nil], [], [])) (by kernel_rfl) rfl (by kernel_rfl)) ?_
  intro W base args ds gs before hval0 hW _ hk _
  have hval : ∀ (j : Nat) t v, Try.f3.params[j]? = some t → args[j]? = some v → Value.okWide Try.prog W .any base t v := hval0
  have hW' := hW
  obtain ⟨p, q, hA0, hV, rfl, hfz, hnd⟩ := hW
  have hA : DataW.TrodAll enc Try.prog W 0 (fun _ => true) true Try.f3.params.toList args.toList ds p := hA0
  rw [Try.params3] at hA hval
  obtain ⟨v0, vs0, d0, ds0, p0, q0, hargs, rfl, rfl, h0, r0⟩ := trodAll_cons hA
  obtain ⟨v1, vs1, d1, ds1, p1, q1, rfl, rfl, rfl, h1, r1⟩ := trodAll_cons r0
  obtain ⟨v2, vs2, d2, ds2, p2, q2, rfl, rfl, rfl, h2, r2⟩ := trodAll_cons r1
  obtain ⟨rfl, rfl, rfl⟩ := trodAll_nil r2
  obtain rfl : args = #[v0, v1, v2] := by cases args; simp_all
  obtain ⟨rfl, rfl⟩ := trodVars_none hV
  obtain ⟨a0, rfl, rfl, rfl, w0⟩ := open_int Try.underlying22 (hval 0 22 v0 rfl rfl) h0
  obtain ⟨a1, rfl, rfl, rfl, w1⟩ := open_int Try.underlying2 (hval 1 2 v1 rfl rfl) h1
  have k2 := h2
  have lt2 : ∀ x ∈ p2, x.block < W.heap.size := by obtain ⟨m, hm⟩ := k2; exact DataW.trod_lt m _ _ _ hm
  obtain ⟨ls, hls, hbk⟩ := openStrs (hval 2 23 v2 rfl rfl) h2
  have hsmall : Rows.uptoBulkAll ([DataW.lit (.int .u64 a0), .lit (.int .i64 a1), d2] ++ []) ≤ 1048576 := of_decide_eq_true hk
  simp only [List.append_nil, Rows.uptoBulkAll, Rows.uptoBulk] at hsmall
  have hb0 := bounds_u64 w0
  have hb1 := bounds_i64 w1
  obtain ⟨n0, rfl⟩ := Int.eq_ofNat_of_zero_le hb0.1
  clear hA0 hval0
  refine (walk n0 (by omega) a1 hb1.1 hb1.2 v2 ls W hls (by omega)).mono fun e W' ⟨he, bel⟩ => ?_
  subst he
  exact ⟨_, rfl, _, _, _, [], _, [], hW', trodAll_mk1 (shut_bool Try.underlying4 _), (trodAll_cons_mk (shut_int Try.underlying22 w0) (trodAll_cons_mk (shut_int Try.underlying2 w1) (trodAll_cons_mk (Below.trod laidOut (by kernel_rfl) (of_decide_eq_true (by kernel_rfl)) k2 bel lt2) trodAll_mk0))), rfl, bel.frame _, fun h => by cases h⟩

theorem proved : Rows.WireWritesUptoSaid :=
  OpenClaim.holds_of_cond 3 Try.f3 rfl rfl rfl rfl rfl rfl rfl ⟨rfl, rfl, rfl, rfl, rfl⟩ rfl rfl rfl rfl rfl (by kernel_rfl) Try.func3 (by kernel_rfl)
    (of_decide_eq_true (by kernel_rfl)) (by unfold Func.isWrapper; first | (rw [if_pos (by decide +kernel)]; kernel_rfl) | (rw [if_neg (by decide +kernel)]; exact ⟨rfl, rfl⟩))
    (fun os started H enc _ F => lifted os started H enc F)
end Go.Proofs.Ytdfkcadnfoidaaa.wireWrites

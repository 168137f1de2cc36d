/-
  Proved: WireCuts answers true, and changes nothing that was there before the call, where what it is given holds together at most 1048576 values and letters: no beginning of a number or of a list is one, and what was cut off is told as missing.
-/
import Derived.Test.YtdfkcadnfoidaaaShown
import Derived.Test.YtdfkcadnfoidaaaPlain
import Derived.Test.YtdfkcadnfoidaaaArgs
namespace Go.Proofs.Ytdfkcadnfoidaaa.wireCuts
open Go.ChangeShapes Go.WideShapes Go.ChangeAt Go.RowKit

theorem mem_bulk {ls : List (List UInt8)} {s : List UInt8} (h : s ∈ ls) : s.length ≤ bulkOf ls := by
  induction ls with
  | nil => cases h
  | cons t r ih =>
    simp only [bulkOf, List.map_cons, List.sum_cons] at ih ⊢
    rcases List.mem_cons.1 h with rfl | h
    · omega
    · have := ih h; omega
theorem mem_lst {ls : List (List UInt8)} {s : List UInt8} (h : s ∈ ls) : s.length ≤ (lst ls).length := by
  have h1 : s.length ≤ (cat ls).length := by
    induction ls with
    | nil => cases h
    | cons t r ih =>
      rw [cat_cons, List.length_append]
      rcases List.mem_cons.1 h with rfl | h
      · have := txt_ge s; omega
      · have := ih h; omega
  simp only [lst, List.length_append]
  omega

/-- the beginning of c letters of a row -/
theorem front {l : List UInt8} {c : Nat} (h : c < l.length) : ∃ p, p = l.take c ∧ p.length = c ∧ (S l).extract 0 c = S p :=
  ⟨_, rfl, by simp; omega, S_take l c⟩

set_option maxHeartbeats 4000000 in
set_option maxRecDepth 100000 in
theorem walk11 (v : Nat) (hv : v < 18446744073709551616) (va : Value) (ls : List (List UInt8)) (c : Nat) (w : World) (hs : Strs w va ls) (hbk : bulkOf ls ≤ 1048576) (hc : c ≤ 100000)
    (hcs : c < (Lib.uvarint v).length) (hct : c < (lst ls).length) :
    Calls Try.prog 6 #[.int .u64 (v : Int), va, .int .i64 (c : Int)] w fun r w' => r = .returned (.bool true) ∧ Below w.heap.size w w' := by
  have hll := lst_bulk ls hbk
  have hln := len_bulk ls
  have hs0 := hs
  obtain ⟨a, cap, rfl, hs⟩ := hs
  clear hs
  have hsu := S_size (Lib.uvarint v)
  have hsl := S_size (lst ls)
  have hul := Lib.uvarint_length64 hv
  have hn1 : decide ((c : Int) < 0) = false := by simp
  have hn2 : decide ((100000 : Int) < (c : Int)) = false := by simp; omega
  go_enter Try.func6, Try.ntmps6
  go_wp2_with fail
  refine (shown_any _).mono ?_
  rintro r w1 ⟨rfl, b1⟩
  go_wp2_with fail
  refine (Uint_any v hv _).mono ?_
  rintro r w2 ⟨rfl, b2⟩
  have hs2 := hs0.below (next b1 b2) (Nat.le_refl _)
  go_wp2_with fail
  refine (List_any hs2 (by omega)).mono ?_
  rintro r w3 ⟨rfl, b3⟩
  have B := next (next b1 b2) b3
  clear b1 b2 b3 hs2 hs0
  obtain ⟨p, hp, hpl, hx⟩ := front hcs
  have hnb : Hid (numb 0 0 p = (0, [], 2)) := by rw [hp]; exact numb_cut0 hv hcs
  clear hp
  go_wp2_with fail
  refine (Read_any p _).mono ?_
  rintro r w4 ⟨rfl, rd4, b4, _⟩
  have hB3 := B.size
  have B4 := next B b4
  clear B b4
  go_wp2_with fail
  refine (Uint_bad rd4 hnb (by decide)).mono ?_
  rintro r w5 ⟨rfl, rd5, b5⟩
  have B5 := nextBut B4 b5 hB3
  clear B4 b5 rd4 hB3
  go_wp2_with fail
  refine (Err_any rd5).mono ?_
  rintro r w6 ⟨rfl, rfl⟩
  go_wp2_with fail
  refine (Left_any rd5).mono ?_
  rintro r w6 ⟨rfl, rfl⟩
  rw [hpl]
  clear rd5 hx hnb hpl
  have B := B5
  clear B5
  obtain ⟨q, hq, hql, hy⟩ := front hct
  have hlb : (lis (ls.length : Int) ((lst ls).length : Int) q).2.2 = 2 := by
    rw [hq]
    exact lis_cut (by omega) (by omega) (fun s h => by have := mem_bulk h; have := mem_lst h; exact ⟨by omega, by omega⟩) hct
  obtain ⟨r1, r2, r3, hli⟩ : ∃ r1 r2 r3, lis (ls.length : Int) ((lst ls).length : Int) q = (r1, r2, r3) := ⟨_, _, _, rfl⟩
  rw [hli] at hlb
  replace hlb : r3 = 2 := hlb
  subst hlb
  have HL : Hid (lis (ls.length : Int) ((lst ls).length : Int) q = (r1, r2, 2)) := hli
  clear hq hli
  go_wp2_with fail
  refine (Read_any q _).mono ?_
  rintro r w7 ⟨rfl, rd7, b7, _⟩
  have hB6 := B.size
  have B7 := next B b7
  clear B b7
  go_wp2_with fail
  refine (Lst_bad rd7 (by omega) (by omega) (by omega) HL (by decide)).mono ?_
  rintro r w8 ⟨rfl, rd8, b8⟩
  have B8 := nextBut B7 b8 hB6
  clear B7 b8 rd7 hB6 HL
  go_wp2_with fail
  refine (Err_any rd8).mono ?_
  rintro r w9 ⟨rfl, rfl⟩
  go_wp2_with fail
  refine (Left_any rd8).mono ?_
  rintro r w9 ⟨rfl, rfl⟩
  rw [hql]
  clear rd8 hy hql
  go_wp2
  go_ret
  exact ⟨rfl, B8⟩

set_option maxHeartbeats 4000000 in
set_option maxRecDepth 100000 in
theorem walk10 (v : Nat) (hv : v < 18446744073709551616) (va : Value) (ls : List (List UInt8)) (c : Nat) (w : World) (hs : Strs w va ls) (hbk : bulkOf ls ≤ 1048576) (hc : c ≤ 100000)
    (hcs : c < (Lib.uvarint v).length) (hct : (lst ls).length ≤ c) :
    Calls Try.prog 6 #[.int .u64 (v : Int), va, .int .i64 (c : Int)] w fun r w' => r = .returned (.bool true) ∧ Below w.heap.size w w' := by
  have hll := lst_bulk ls hbk
  have hln := len_bulk ls
  have hs0 := hs
  obtain ⟨a, cap, rfl, hs⟩ := hs
  clear hs
  have hsu := S_size (Lib.uvarint v)
  have hsl := S_size (lst ls)
  have hul := Lib.uvarint_length64 hv
  have hn1 : decide ((c : Int) < 0) = false := by simp
  have hn2 : decide ((100000 : Int) < (c : Int)) = false := by simp; omega
  go_enter Try.func6, Try.ntmps6
  go_wp2_with fail
  refine (shown_any _).mono ?_
  rintro r w1 ⟨rfl, b1⟩
  go_wp2_with fail
  refine (Uint_any v hv _).mono ?_
  rintro r w2 ⟨rfl, b2⟩
  have hs2 := hs0.below (next b1 b2) (Nat.le_refl _)
  go_wp2_with fail
  refine (List_any hs2 (by omega)).mono ?_
  rintro r w3 ⟨rfl, b3⟩
  have B := next (next b1 b2) b3
  clear b1 b2 b3 hs2 hs0
  obtain ⟨p, hp, hpl, hx⟩ := front hcs
  have hnb : Hid (numb 0 0 p = (0, [], 2)) := by rw [hp]; exact numb_cut0 hv hcs
  clear hp
  go_wp2_with fail
  refine (Read_any p _).mono ?_
  rintro r w4 ⟨rfl, rd4, b4, _⟩
  have hB3 := B.size
  have B4 := next B b4
  clear B b4
  go_wp2_with fail
  refine (Uint_bad rd4 hnb (by decide)).mono ?_
  rintro r w5 ⟨rfl, rd5, b5⟩
  have B5 := nextBut B4 b5 hB3
  clear B4 b5 rd4 hB3
  go_wp2_with fail
  refine (Err_any rd5).mono ?_
  rintro r w6 ⟨rfl, rfl⟩
  go_wp2_with fail
  refine (Left_any rd5).mono ?_
  rintro r w6 ⟨rfl, rfl⟩
  rw [hpl]
  clear rd5 hx hnb hpl
  have B := B5
  clear B5
  go_wp2
  go_ret
  exact ⟨rfl, B⟩

set_option maxHeartbeats 4000000 in
set_option maxRecDepth 100000 in
theorem walk01 (v : Nat) (hv : v < 18446744073709551616) (va : Value) (ls : List (List UInt8)) (c : Nat) (w : World) (hs : Strs w va ls) (hbk : bulkOf ls ≤ 1048576) (hc : c ≤ 100000)
    (hcs : (Lib.uvarint v).length ≤ c) (hct : c < (lst ls).length) :
    Calls Try.prog 6 #[.int .u64 (v : Int), va, .int .i64 (c : Int)] w fun r w' => r = .returned (.bool true) ∧ Below w.heap.size w w' := by
  have hll := lst_bulk ls hbk
  have hln := len_bulk ls
  have hs0 := hs
  obtain ⟨a, cap, rfl, hs⟩ := hs
  clear hs
  have hsu := S_size (Lib.uvarint v)
  have hsl := S_size (lst ls)
  have hul := Lib.uvarint_length64 hv
  have hn1 : decide ((c : Int) < 0) = false := by simp
  have hn2 : decide ((100000 : Int) < (c : Int)) = false := by simp; omega
  go_enter Try.func6, Try.ntmps6
  go_wp2_with fail
  refine (shown_any _).mono ?_
  rintro r w1 ⟨rfl, b1⟩
  go_wp2_with fail
  refine (Uint_any v hv _).mono ?_
  rintro r w2 ⟨rfl, b2⟩
  have hs2 := hs0.below (next b1 b2) (Nat.le_refl _)
  go_wp2_with fail
  refine (List_any hs2 (by omega)).mono ?_
  rintro r w3 ⟨rfl, b3⟩
  have B := next (next b1 b2) b3
  clear b1 b2 b3 hs2 hs0
  obtain ⟨q, hq, hql, hy⟩ := front hct
  have hlb : (lis (ls.length : Int) ((lst ls).length : Int) q).2.2 = 2 := by
    rw [hq]
    exact lis_cut (by omega) (by omega) (fun s h => by have := mem_bulk h; have := mem_lst h; exact ⟨by omega, by omega⟩) hct
  obtain ⟨r1, r2, r3, hli⟩ : ∃ r1 r2 r3, lis (ls.length : Int) ((lst ls).length : Int) q = (r1, r2, r3) := ⟨_, _, _, rfl⟩
  rw [hli] at hlb
  replace hlb : r3 = 2 := hlb
  subst hlb
  have HL : Hid (lis (ls.length : Int) ((lst ls).length : Int) q = (r1, r2, 2)) := hli
  clear hq hli
  go_wp2_with fail
  refine (Read_any q _).mono ?_
  rintro r w7 ⟨rfl, rd7, b7, _⟩
  have hB6 := B.size
  have B7 := next B b7
  clear B b7
  go_wp2_with fail
  refine (Lst_bad rd7 (by omega) (by omega) (by omega) HL (by decide)).mono ?_
  rintro r w8 ⟨rfl, rd8, b8⟩
  have B8 := nextBut B7 b8 hB6
  clear B7 b8 rd7 hB6 HL
  go_wp2_with fail
  refine (Err_any rd8).mono ?_
  rintro r w9 ⟨rfl, rfl⟩
  go_wp2_with fail
  refine (Left_any rd8).mono ?_
  rintro r w9 ⟨rfl, rfl⟩
  rw [hql]
  clear rd8 hy hql
  go_wp2
  go_ret
  exact ⟨rfl, B8⟩

set_option maxHeartbeats 4000000 in
set_option maxRecDepth 100000 in
theorem walk00 (v : Nat) (hv : v < 18446744073709551616) (va : Value) (ls : List (List UInt8)) (c : Nat) (w : World) (hs : Strs w va ls) (hbk : bulkOf ls ≤ 1048576) (hc : c ≤ 100000)
    (hcs : (Lib.uvarint v).length ≤ c) (hct : (lst ls).length ≤ c) :
    Calls Try.prog 6 #[.int .u64 (v : Int), va, .int .i64 (c : Int)] w fun r w' => r = .returned (.bool true) ∧ Below w.heap.size w w' := by
  have hll := lst_bulk ls hbk
  have hln := len_bulk ls
  have hs0 := hs
  obtain ⟨a, cap, rfl, hs⟩ := hs
  clear hs
  have hsu := S_size (Lib.uvarint v)
  have hsl := S_size (lst ls)
  have hul := Lib.uvarint_length64 hv
  have hn1 : decide ((c : Int) < 0) = false := by simp
  have hn2 : decide ((100000 : Int) < (c : Int)) = false := by simp; omega
  go_enter Try.func6, Try.ntmps6
  go_wp2_with fail
  refine (shown_any _).mono ?_
  rintro r w1 ⟨rfl, b1⟩
  go_wp2_with fail
  refine (Uint_any v hv _).mono ?_
  rintro r w2 ⟨rfl, b2⟩
  have hs2 := hs0.below (next b1 b2) (Nat.le_refl _)
  go_wp2_with fail
  refine (List_any hs2 (by omega)).mono ?_
  rintro r w3 ⟨rfl, b3⟩
  have B := next (next b1 b2) b3
  clear b1 b2 b3 hs2 hs0
  go_wp2
  go_ret
  exact ⟨rfl, B⟩

set_option maxHeartbeats 4000000 in
set_option maxRecDepth 100000 in
theorem walkOut (v : Nat) (hv : v < 18446744073709551616) (va : Value) (ls : List (List UInt8)) (c : Int) (w : World) (hs : Strs w va ls) (hbk : bulkOf ls ≤ 1048576) (hc : c < 0 ∨ 100000 < c) :
    Calls Try.prog 6 #[.int .u64 (v : Int), va, .int .i64 c] w fun r w' => r = .returned (.bool true) ∧ Below w.heap.size w w' := by
  have hll := lst_bulk ls hbk
  have hs0 := hs
  obtain ⟨a, cap, rfl, hs⟩ := hs
  clear hs
  rcases hc with hc | hc
  · have hn1 : decide (c < 0) = true := by simp; omega
    go_enter Try.func6, Try.ntmps6
    go_wp2_with fail
    refine (shown_any _).mono ?_
    rintro r w1 ⟨rfl, b1⟩
    go_wp2_with fail
    refine (Uint_any v hv _).mono ?_
    rintro r w2 ⟨rfl, b2⟩
    have hs2 := hs0.below (next b1 b2) (Nat.le_refl _)
    go_wp2_with fail
    refine (List_any hs2 (by omega)).mono ?_
    rintro r w3 ⟨rfl, b3⟩
    have B := next (next b1 b2) b3
    clear b1 b2 b3 hs2 hs0
    go_wp2
    go_ret
    exact ⟨rfl, B⟩
  · have hn1 : decide (c < 0) = false := by simp; omega
    have hn2 : decide ((100000 : Int) < c) = true := by simp; omega
    go_enter Try.func6, Try.ntmps6
    go_wp2_with fail
    refine (shown_any _).mono ?_
    rintro r w1 ⟨rfl, b1⟩
    go_wp2_with fail
    refine (Uint_any v hv _).mono ?_
    rintro r w2 ⟨rfl, b2⟩
    have hs2 := hs0.below (next b1 b2) (Nat.le_refl _)
    go_wp2_with fail
    refine (List_any hs2 (by omega)).mono ?_
    rintro r w3 ⟨rfl, b3⟩
    have B := next (next b1 b2) b3
    clear b1 b2 b3 hs2 hs0
    go_wp2
    go_ret
    exact ⟨rfl, B⟩

theorem walk (v : Nat) (hv : v < 18446744073709551616) (va : Value) (ls : List (List UInt8)) (c : Int) (w : World) (hs : Strs w va ls) (hbk : bulkOf ls ≤ 1048576) :
    Calls Try.prog 6 #[.int .u64 (v : Int), va, .int .i64 c] w fun r w' => r = .returned (.bool true) ∧ Below w.heap.size w w' := by
  by_cases hc : c < 0 ∨ 100000 < c
  · exact walkOut v hv va ls c w hs hbk hc
  · obtain ⟨n, rfl⟩ := Int.eq_ofNat_of_zero_le (show 0 ≤ c by omega)
    rcases Nat.lt_or_ge n (Lib.uvarint v).length with h1 | h1 <;> rcases Nat.lt_or_ge n (lst ls).length with h2 | h2
    · exact walk11 v hv va ls n w hs hbk (by omega) h1 h2
    · exact walk10 v hv va ls n w hs hbk (by omega) h1 h2
    · exact walk01 v hv va ls n w hs hbk (by omega) h1 h2
    · exact walk00 v hv va ls n w hs hbk (by omega) h1 h2

set_option maxRecDepth 100000 in
theorem lifted (os : Os) (started : os.Started) (H : Type) (enc : TypeId × Value → H) (F : Stop.Interp) :
    ReturnsInHanded {} Try.checked os 6 .any ((Rows.OpenSpec.upto Rows.wireCutsSpec).pre6 enc Try.prog Try.f6 Rows.wireCutsUptoRow.domain false) (((Rows.OpenSpec.upto Rows.wireCutsSpec).at F).post enc Try.prog Try.f6 false true false false) := by
  refine returnsInHanded_of_cond (C := Try.checked) (s := Rows.OpenSpec.upto Rows.wireCutsSpec) (k := Rows.uptoSmall) rfl own started (by kernel_rfl) Try.func6
    (OpenSpec.witness (enc := enc) (C := Try.checked) (s := Rows.OpenSpec.upto Rows.wireCutsSpec) (k := Rows.uptoSmall) rfl false ⟨#[], #[.int .u64 0, .slice none 0 0, .int .i64 0], []⟩ 8 (by kernel_rfl) (by kernel_rfl) (by kernel_rfl)
      (x := ([.lit (.int .u64 0), .nil, .lit (.int .i64 0)], [], [])) (by kernel_rfl) rfl (by kernel_rfl)) ?_
  intro W base args ds gs before hval0 hW _ hk _
  have hval : ∀ (j : Nat) t v, Try.f6.params[j]? = some t → args[j]? = some v → Value.okWide Try.prog W .any base t v := hval0
  have hW' := hW
  obtain ⟨p, q, hA0, hV, rfl, hfz, hnd⟩ := hW
  have hA : DataW.TrodAll enc Try.prog W 0 (fun _ => true) true Try.f6.params.toList args.toList ds p := hA0
  rw [Try.params6] at hA hval
  obtain ⟨v0, vs0, d0, ds0, p0, q0, hargs, rfl, rfl, h0, r0⟩ := trodAll_cons hA
  obtain ⟨v1, vs1, d1, ds1, p1, q1, rfl, rfl, rfl, h1, r1⟩ := trodAll_cons r0
  obtain ⟨v2, vs2, d2, ds2, p2, q2, rfl, rfl, rfl, h2, r2⟩ := trodAll_cons r1
  obtain ⟨rfl, rfl, rfl⟩ := trodAll_nil r2
  obtain rfl : args = #[v0, v1, v2] := by cases args; simp_all
  obtain ⟨rfl, rfl⟩ := trodVars_none hV
  obtain ⟨a0, rfl, rfl, rfl, w0⟩ := open_int Try.underlying22 (hval 0 22 v0 rfl rfl) h0
  obtain ⟨a2, rfl, rfl, rfl, w2⟩ := open_int Try.underlying3 (hval 2 3 v2 rfl rfl) h2
  have k1 := h1
  have lt1 : ∀ x ∈ p1, x.block < W.heap.size := by obtain ⟨m, hm⟩ := k1; exact DataW.trod_lt m _ _ _ hm
  obtain ⟨ls, hls, hbk⟩ := openStrs (hval 1 23 v1 rfl rfl) h1
  have hsmall : Rows.uptoBulkAll ([DataW.lit (.int .u64 a0), d1, .lit (.int .i64 a2)] ++ []) ≤ 1048576 := of_decide_eq_true hk
  simp only [List.append_nil, Rows.uptoBulkAll, Rows.uptoBulk] at hsmall
  have hb0 := bounds_u64 w0
  obtain ⟨n0, rfl⟩ := Int.eq_ofNat_of_zero_le hb0.1
  clear hA0 hval0
  refine (walk n0 (by omega) v1 ls a2 W hls (by omega)).mono fun e W' ⟨he, bel⟩ => ?_
  subst he
  exact ⟨_, rfl, _, _, _, [], _, [], hW', trodAll_mk1 (shut_bool Try.underlying4 _), (trodAll_cons_mk (shut_int Try.underlying22 w0) (trodAll_cons_mk (Below.trod laidOut (by kernel_rfl) (of_decide_eq_true (by kernel_rfl)) k1 bel lt1) (trodAll_cons_mk (shut_int Try.underlying3 w2) trodAll_mk0))), rfl, bel.frame _, fun h => by cases h⟩

theorem proved : Rows.WireCutsUptoSaid :=
  OpenClaim.holds_of_cond 6 Try.f6 rfl rfl rfl rfl rfl rfl rfl ⟨rfl, rfl, rfl, rfl, rfl⟩ rfl rfl rfl rfl rfl (by kernel_rfl) Try.func6 (by kernel_rfl)
    (of_decide_eq_true (by kernel_rfl)) (by unfold Func.isWrapper; first | (rw [if_pos (by decide +kernel)]; kernel_rfl) | (rw [if_neg (by decide +kernel)]; exact ⟨rfl, rfl⟩))
    (fun os started H enc _ F => lifted os started H enc F)
end Go.Proofs.Ytdfkcadnfoidaaa.wireCuts

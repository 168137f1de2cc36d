/-
  Proved: WireSplits answers true, and changes nothing that was there before the call, where what it is given holds together at most 1048576 values and letters: what is read of bytes does not hang on what stands behind them, and the rest is what is left.
-/
import Derived.Test.YtdfkcadnfoidaabShown
import Derived.Test.YtdfkcadnfoidaabPlain
import Derived.Test.YtdfkcadnfoidaabArgs
import Derived.Test.YtdfkcadnfoidaabSame
import Derived.Test.YtdfkcadnfoidaabRefs
import Derived.Test.YtdfkcadnfoidaabListOwn
namespace Go.Proofs.Ytdfkcadnfoidaab.wireSplits
open Go.ChangeShapes Go.WideShapes Go.ChangeAt Go.RowKit
open Go.ChangeMaps (open_string shut_string)

theorem mem_bulk {ls : List (List UInt8)} {s : List UInt8} (h : s ∈ ls) : s.length ≤ bulkOf ls := by
  induction ls with
  | nil => cases h
  | cons t r ih =>
    simp only [bulkOf, List.map_cons, List.sum_cons] at ih ⊢
    rcases List.mem_cons.1 h with rfl | h
    · omega
    · have := ih h; omega

/-- no text of the first k is longer than m -/
def Most (ls : List (List UInt8)) (k m : Nat) : Prop := ∀ s ∈ ls.take k, s.length ≤ m
theorem most_step {ls : List (List UInt8)} {k m : Nat} (hk : k < ls.length) (h : Most ls k m) {m' : Nat} (h1 : m ≤ m') (h2 : (ls.getD k []).length ≤ m') : Most ls (k + 1) m' := by
  intro s hs
  rw [List.take_succ_eq_append_getElem hk] at hs
  rcases List.mem_append.1 hs with hs | hs
  · have := h s hs; omega
  · have e : s = ls.getD k [] := by simpa [List.getD, hk] using hs
    rw [e]; exact h2

set_option maxHeartbeats 4000000 in
set_option maxRecDepth 100000 in
theorem walk (va : Value) (ls : List (List UInt8)) (m1 m2 : List UInt8) (w : World) (hs : Strs w va ls) (hbk : bulkOf ls ≤ 1048576) (hm1 : m1.length ≤ 1048576) (hm2 : m2.length ≤ 1048576) :
    Calls Try.prog 5 #[va, .string (S m1), .string (S m2)] w fun r w' => r = .returned (.bool true) ∧ Below w.heap.size w w' := by
  have hll := lst_bulk ls hbk
  have hln := len_bulk ls
  have hs0 := hs
  obtain ⟨a, cap, rfl, hs⟩ := hs
  obtain ⟨D, hD⟩ : ∃ D, D = lst ls := ⟨_, rfl⟩
  obtain ⟨D1, hD1⟩ : ∃ D1, D1 = D ++ m1 := ⟨_, rfl⟩
  obtain ⟨D2, hD2⟩ : ∃ D2, D2 = D ++ m2 := ⟨_, rfl⟩
  have e1 : S D ++ S m1 = S D1 := by rw [hD1]; exact S_append _ _
  have e2 : S D ++ S m2 = S D2 := by rw [hD2]; exact S_append _ _
  have z4 : (S D).size ≤ 10485770 := by rw [S_size, hD]; exact hll
  have z5 : (S m1).size ≤ 1048576 := by rw [S_size]; exact hm1
  have z6 : (S m2).size ≤ 1048576 := by rw [S_size]; exact hm2
  have HLL : ∀ W : World, Hid (Strs W (.slice a ls.length cap) ls → Calls Try.prog 19 #[.slice a ls.length cap] W fun e w' => e = .returned (.string (S D)) ∧ Below W.heap.size W w') := fun W => by rw [hD]; exact fun h => refList_any h (by omega)
  have HB1 : Hid (D1.length ≤ 11534346) := by
    show _ ≤ _
    rw [hD1, List.length_append, hD]; omega
  have HB2 : Hid (D2.length ≤ 11534346) := by
    show _ ≤ _
    rw [hD2, List.length_append, hD]; omega
  have HE1 : Hid (D1 = lst ls ++ m1) := by show _ = _; rw [hD1, hD]
  have HE2 : Hid (D2 = lst ls ++ m2) := by show _ = _; rw [hD2, hD]
  clear hD hD1 hD2 hll
  go_enter Try.func5, Try.ntmps5
  go_wp2_with fail
  refine (shown_any _).mono ?_
  rintro r w1 ⟨rfl, b1⟩
  have hs1 := hs0.below b1 (Nat.le_refl _)
  go_wp2_with fail
  refine ((HLL _).out hs1).mono ?_
  rintro r w2 ⟨rfl, b2⟩
  have B2 := next b1 b2
  clear b1 b2 hs1 HLL
  go_wp2_with fail
  refine (Read_any D1 _).mono ?_
  rintro r w3 ⟨rfl, rd3, b3, -⟩
  have hB2 := B2.size
  have B3 := next B2 b3
  clear B2 b3
  go_wp2_with fail
  refine (Read_any D2 _).mono ?_
  rintro r w4 ⟨rfl, rd4, b4, -⟩
  have rd3b := rd3.below b4 rd3.lt
  have hB3 := B3.size
  have hne : w2.heap.size < w3.heap.size := rd3.lt
  have B4 := next B3 b4
  clear B3 b4 rd3 e1 e2
  go_wp2_with fail
  go_loopw [11, 12] (fun vm vi wr => ∃ k m : Nat, k ≤ ls.length ∧ vi = .int .i64 (k : Int) ∧ vm = .int .i64 (m : Int) ∧ m ≤ 1048576 ∧ Most ls k m ∧ wr = w4)
    (fun _ vi _ => ls.length - (intOf vi).toNat)
  case atStart => exact ⟨0, 0, Nat.zero_le _, rfl, rfl, by omega, fun s hs => by simp at hs, rfl⟩
  case round =>
    obtain ⟨k, m, hk, rfl, rfl, hm, hmost, rfl⟩ := hrel
    by_cases hkl : k < ls.length
    · rcases hs with hs | ⟨b, off, rfl, hlt, hc⟩
      · rw [hs] at hkl; simp at hkl
      have hck := (B4.cell (p := ⟨b, off + k, none⟩) hlt).trans (hc k hkl)
      have hgb := get_bulk ls k
      have hsz := S_size (ls.getD k [])
      have hst := fun m' h1 h2 => most_step (m' := m') hkl hmost h1 h2
      generalize ls.getD k [] = s at *
      clear hc
      have HST := fun m' h1 h2 => (show Hid (Most ls (k + 1) m') from hst m' h1 h2)
      clear hst hmost
      by_cases hgt : m < s.length
      · go_wp2_with fail
        exact ⟨⟨k + 1, s.length, by omega, by go_num, rfl, by omega, HST _ (by omega) (by omega), by trivial⟩, by simp [intOf]; omega⟩
      · go_wp2_with fail
        exact ⟨⟨k + 1, m, by omega, by go_num, rfl, hm, HST _ (by omega) (by omega), by trivial⟩, by simp [intOf]; omega⟩
    · have hkk : k = ls.length := by omega
      subst hkk
      have hall : ∀ s ∈ ls, s.length < 18446744073709551616 ∧ (s.length : Int) ≤ (m : Int) := by
        intro s hsm
        have q1 := mem_bulk hsm
        have q2 := hmost s (by rw [List.take_length]; exact hsm)
        exact ⟨by omega, by omega⟩
      have HL1 : Hid (lis (ls.length : Int) (m : Int) D1 = (ls, m1, 0)) := by
        show _ = _
        rw [HE1.out]
        exact lis_back (by omega) (by omega) hall m1
      have HL2 : Hid (lis (ls.length : Int) (m : Int) D2 = (ls, m2, 0)) := by
        show _ = _
        rw [HE2.out]
        exact lis_back (by omega) (by omega) hall m2
      clear hmost hs HE1 HE2 hall
      go_wp2_with fail
      refine (Lst_own rd3b (by have := HB1.out; omega) (by omega) (by omega) HL1).mono ?_
      rintro r w5 ⟨v5, rfl, st5, rd5, b5⟩
      have B5 := nextBut B4 b5 hB2
      have rd4b := rd4.but b5 (Nat.ne_of_gt hne)
      have hlt4 := rd4.lt
      clear B4 b5 rd4 rd3b HL1
      go_wp2_with fail
      refine (Lst_own rd4b (by have := HB2.out; omega) (by omega) (by omega) HL2).mono ?_
      rintro r w6 ⟨v6, rfl, st6, rd6, b6⟩
      have B6 := nextBut B5 b6 hB3
      have rd5b := rd5.but b6 (Nat.ne_of_lt hne)
      have st5b := Strs.of_own (ownsRow_but st5 b6 hlt4)
      have st6b := Strs.of_own st6
      clear B5 b6 rd5 rd4b HL2 st5 st6 hlt4
      go_wp2_with fail
      refine (Same_true st5b st6b (by omega)).mono ?_
      rintro r w7 ⟨rfl, b7⟩
      have rd7 := rd6.below b7 rd6.lt
      have rd8 := rd5b.below b7 rd5b.lt
      have B7 := next B6 b7
      have hz1 := S_size m1
      have hz2 := S_size m2
      clear B6 b7 rd6 rd5b st5b st6b hs0
      go_wp2_with fail
      refine (Left_any rd8).mono ?_
      rintro r w8 ⟨rfl, rfl⟩
      go_wp2_with fail
      refine (Left_any rd7).mono ?_
      rintro r w8 ⟨rfl, rfl⟩
      go_wp2
      go_ret
      exact ⟨rfl, B7⟩

set_option maxRecDepth 100000 in
theorem lifted (os : Os) (started : os.Started) (H : Type) (enc : TypeId × Value → H) (F : Stop.Interp) :
    ReturnsInHanded {} Try.checked os 5 .any ((Rows.OpenSpec.upto Rows.wireSplitsSpec).pre6 enc Try.prog Try.f5 Rows.wireSplitsUptoRow.domain false) (((Rows.OpenSpec.upto Rows.wireSplitsSpec).at F).post enc Try.prog Try.f5 false true false false) := by
  refine returnsInHanded_of_cond (C := Try.checked) (s := Rows.OpenSpec.upto Rows.wireSplitsSpec) (k := Rows.uptoSmall) rfl own started (by kernel_rfl) Try.func5
    (OpenSpec.witness (enc := enc) (C := Try.checked) (s := Rows.OpenSpec.upto Rows.wireSplitsSpec) (k := Rows.uptoSmall) rfl false ⟨#[], #[.slice none 0 0, .string .empty, .string .empty], []⟩ 8 (by kernel_rfl) (by kernel_rfl) (by kernel_rfl)
      (x := ([.nil, .lit (.string []), .lit (.string [])], [], [])) (by kernel_rfl) rfl (by kernel_rfl)) ?_
  intro W base args ds gs before hval0 hW _ hk _
  have hval : ∀ (j : Nat) t v, Try.f5.params[j]? = some t → args[j]? = some v → Value.okWide Try.prog W .any base t v := hval0
  have hW' := hW
  obtain ⟨p, q, hA0, hV, rfl, hfz, hnd⟩ := hW
  have hA : DataW.TrodAll enc Try.prog W 0 (fun _ => true) true Try.f5.params.toList args.toList ds p := hA0
  rw [Try.params5] at hA hval
  obtain ⟨v0, vs0, d0, ds0, p0, q0, hargs, rfl, rfl, h0, r0⟩ := trodAll_cons hA
  obtain ⟨v1, vs1, d1, ds1, p1, q1, rfl, rfl, rfl, h1, r1⟩ := trodAll_cons r0
  obtain ⟨v2, vs2, d2, ds2, p2, q2, rfl, rfl, rfl, h2, r2⟩ := trodAll_cons r1
  obtain ⟨rfl, rfl, rfl⟩ := trodAll_nil r2
  obtain rfl : args = #[v0, v1, v2] := by cases args; simp_all
  obtain ⟨rfl, rfl⟩ := trodVars_none hV
  have k0 := h0
  have lt0 : ∀ x ∈ p0, x.block < W.heap.size := by obtain ⟨m, hm⟩ := k0; exact DataW.trod_lt m _ _ _ hm
  obtain ⟨ls, hls, hbk⟩ := openStrs (hval 0 37 v0 rfl rfl) h0
  obtain ⟨a1, rfl, rfl, rfl, w1⟩ := open_string Try.underlying9 (hval 1 9 v1 rfl rfl) h1
  obtain ⟨a2, rfl, rfl, rfl, w2⟩ := open_string Try.underlying9 (hval 2 9 v2 rfl rfl) h2
  have hsmall : Rows.uptoBulkAll ([d0, DataW.lit (.string a1.data.toList), .lit (.string a2.data.toList)] ++ []) ≤ 1048576 := of_decide_eq_true hk
  simp only [List.append_nil, Rows.uptoBulkAll, Rows.uptoBulk] at hsmall
  clear hA0 hval0
  have hwk := walk v0 ls a1.data.toList a2.data.toList W hls (by omega) (by omega) (by omega)
  rw [S_of, S_of] at hwk
  refine hwk.mono fun e W' ⟨he, bel⟩ => ?_
  subst he
  exact ⟨_, rfl, _, _, _, [], _, [], hW', trodAll_mk1 (shut_bool Try.underlying4 _), (trodAll_cons_mk (Below.trod laidOut (by kernel_rfl) (of_decide_eq_true (by kernel_rfl)) k0 bel lt0) (trodAll_cons_mk (shut_string Try.underlying9 w1) (trodAll_cons_mk (shut_string Try.underlying9 w2) trodAll_mk0))), rfl, bel.frame _, fun h => by cases h⟩

theorem proved : Rows.WireSplitsUptoSaid :=
  OpenClaim.holds_of_cond 5 Try.f5 rfl rfl rfl rfl rfl rfl rfl ⟨rfl, rfl, rfl, rfl, rfl⟩ rfl rfl rfl rfl rfl (by kernel_rfl) Try.func5 (by kernel_rfl)
    (of_decide_eq_true (by kernel_rfl)) (by unfold Func.isWrapper; first | (rw [if_pos (by decide +kernel)]; kernel_rfl) | (rw [if_neg (by decide +kernel)]; exact ⟨rfl, rfl⟩))
    (fun os started H enc _ F => lifted os started H enc F)
end Go.Proofs.Ytdfkcadnfoidaab.wireSplits

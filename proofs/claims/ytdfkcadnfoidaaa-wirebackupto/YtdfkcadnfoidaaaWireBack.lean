/-
  Proved: WireBack answers true, and changes nothing that was there before the call, where what it is given holds together at most 1048576 values and letters: what was written is read, whatever follows, and nothing more is taken.
-/
import Derived.Test.YtdfkcadnfoidaaaShown
import Derived.Test.YtdfkcadnfoidaaaPlain
import Derived.Test.YtdfkcadnfoidaaaArgs
import Derived.Test.YtdfkcadnfoidaaaSame
import Derived.Test.YtdfkcadnfoidaaaRefs
import Derived.Lib.SmallJoins
namespace Go.Proofs.Ytdfkcadnfoidaaa.wireBack
open Go.ChangeShapes Go.WideShapes Go.ChangeAt Go.RowKit Go.Joins

theorem mem_bulk {ls : List (List UInt8)} {s : List UInt8} (h : s ∈ ls) : s.length ≤ bulkOf ls := by
  induction ls with
  | nil => cases h
  | cons t r ih =>
    simp only [bulkOf, List.map_cons, List.sum_cons] at ih ⊢
    rcases List.mem_cons.1 h with rfl | h
    · omega
    · have := ih h; omega

/-- no text of the first k is longer than m -/
def Most (ls : List (List UInt8)) (k m : Nat) : Prop := ∀ s ∈ ls.take k, s.length ≤ m
theorem most_step {ls : List (List UInt8)} {k m : Nat} (hk : k < ls.length) (h : Most ls k m) {m' : Nat} (h1 : m ≤ m') (h2 : (ls.getD k []).length ≤ m') : Most ls (k + 1) m' := by
  intro s hs
  rw [List.take_succ_eq_append_getElem hk] at hs
  rcases List.mem_append.1 hs with hs | hs
  · have := h s hs; omega
  · have e : s = ls.getD k [] := by simpa [List.getD, hk] using hs
    rw [e]; exact h2

set_option maxHeartbeats 4000000 in
set_option maxRecDepth 100000 in
theorem walk (v : Nat) (hv : v < 18446744073709551616) (n : Int) (h1 : -9223372036854775808 ≤ n) (h2 : n ≤ 9223372036854775807) (va : Value) (ls : List (List UInt8)) (more : List UInt8) (w : World) (hs : Strs w va ls) (hbk : bulkOf ls ≤ 1048576) (hmo : more.length ≤ 1048576) :
    Calls Try.prog 5 #[.agg #[.int .u64 (v : Int), .int .i64 n, va, .string (S more)]] w fun r w' => r = .returned (.bool true) ∧ Below w.heap.size w w' := by
  have hll := lst_bulk ls hbk
  have hln := len_bulk ls
  have hs0 := hs
  obtain ⟨a, cap, rfl, hs⟩ := hs
  have b0 : Below w.heap.size w (w.alloc (.cells #[.int .u64 (v : Int), .int .i64 n, .slice a ls.length cap, .string (S more)] 49)) := (Below.refl _ _).alloc (Nat.le_refl _) _
  have hz := Lib.zigzag_lt h1 h2
  have hl1 := Lib.uvarint_length64 hv
  have hl2 := Lib.uvarint_length64 hz
  obtain ⟨A, hA⟩ : ∃ A, A = Lib.uvarint v := ⟨_, rfl⟩
  obtain ⟨B, hB⟩ : ∃ B, B = Lib.uvarint (Lib.zigzag n) := ⟨_, rfl⟩
  obtain ⟨D, hD⟩ : ∃ D, D = lst ls := ⟨_, rfl⟩
  obtain ⟨AB, hAB⟩ : ∃ AB, AB = A ++ B := ⟨_, rfl⟩
  obtain ⟨ABD, hABD⟩ : ∃ ABD, ABD = AB ++ D := ⟨_, rfl⟩
  obtain ⟨ALL, hALL⟩ : ∃ ALL, ALL = ABD ++ more := ⟨_, rfl⟩
  have e1 : S A ++ S B = S AB := by rw [hAB]; exact S_append _ _
  have e2 : S AB ++ S D = S ABD := by rw [hABD]; exact S_append _ _
  have e3 : S ABD ++ S more = S ALL := by rw [hALL]; exact S_append _ _
  have z1 : (S A).size ≤ 10 := by rw [S_size, hA]; exact hl1
  have z2 : (S B).size ≤ 10 := by rw [S_size, hB]; exact hl2
  have z3 : (S AB).size ≤ 20 := by rw [S_size, hAB, List.length_append, hA, hB]; omega
  have z4 : (S D).size ≤ 10485770 := by rw [S_size, hD]; exact hll
  have z5 : (S ABD).size ≤ 10485790 := by rw [S_size, hABD, hAB, List.length_append, List.length_append, hA, hB, hD]; omega
  have z6 : (S more).size ≤ 1048576 := by rw [S_size]; exact hmo
  have HN1 : Hid (numb 0 0 ALL = (v, B ++ (D ++ more), 0)) := by
    show _ = _
    rw [hALL, hABD, hAB, hA, List.append_assoc, List.append_assoc]
    exact numb_back0 hv _
  have HN2 : Hid (numb 0 0 (B ++ (D ++ more)) = (Lib.zigzag n, D ++ more, 0)) := by
    show _ = _
    rw [hB]
    exact numb_back0 hz _
  have HLA : Hid (ALL.length ≤ 11534366) := by
    show _ ≤ _
    rw [hALL, hABD, hAB, List.length_append, List.length_append, List.length_append, hA, hB, hD]
    omega
  have HLD : Hid ((D ++ more).length ≤ 11534346) := by
    show _ ≤ _
    rw [List.length_append, hD]
    omega
  have HUA : ∀ W : World, Hid (Calls Try.prog 10 #[.int .u64 (v : Int)] W fun e w' => e = .returned (.string (S A)) ∧ Below W.heap.size W w') := fun W => by rw [hA]; exact Uint_any v hv W
  have HIB : ∀ W : World, Hid (Calls Try.prog 12 #[.int .i64 n] W fun e w' => e = .returned (.string (S B)) ∧ Below W.heap.size W w') := fun W => by rw [hB]; exact Int_any n h1 h2 W
  have HLL : ∀ W : World, Hid (Strs W (.slice a ls.length cap) ls → Calls Try.prog 16 #[.slice a ls.length cap] W fun e w' => e = .returned (.string (S D)) ∧ Below W.heap.size W w') := fun W => by rw [hD]; exact fun h => List_any h (by omega)
  have HD : Hid (D = lst ls) := hD
  have HUZ : Hid (Lib.unzigzag (Lib.zigzag n) = n) := unzig n
  clear hA hB hD hAB hABD hALL hl1 hl2 hll
  go_enter Try.func5, Try.ntmps5
  go_wp2_with fail
  refine (shown_any _).mono ?_
  rintro r w1 ⟨rfl, b1⟩
  have B1 := next b0 b1
  clear b0 b1
  go_wp2_with fail
  refine (HUA _).out.mono ?_
  rintro r w2 ⟨rfl, b2⟩
  go_wp2_with fail
  refine (HIB _).out.mono ?_
  rintro r w3 ⟨rfl, b3⟩
  have B3 := next (next B1 b2) b3
  clear B1 b2 b3 HUA HIB
  have hs3 := hs0.below B3 (Nat.le_refl _)
  go_wp2_with fail
  refine ((HLL _).out hs3).mono ?_
  rintro r w4 ⟨rfl, b4⟩
  have B4 := next B3 b4
  clear B3 b4 hs3 HLL
  go_wp2_with fail
  refine (Read_any ALL _).mono ?_
  rintro r w5 ⟨rfl, rd5, b5, _⟩
  have hB4 := B4.size
  have B5 := next B4 b5
  clear B4 b5 e1 e2 e3 z1 z2 z3 z4 z5
  go_wp2_with fail
  go_loopw [9, 10] (fun vm vi wr => ∃ k m : Nat, k ≤ ls.length ∧ vi = .int .i64 (k : Int) ∧ vm = .int .i64 (m : Int) ∧ m ≤ 1048576 ∧ Most ls k m ∧ wr = w5)
    (fun _ vi _ => ls.length - (intOf vi).toNat)
  case atStart => exact ⟨0, 0, Nat.zero_le _, rfl, rfl, by omega, fun s hs => by simp at hs, rfl⟩
  case round =>
    obtain ⟨k, m, hk, rfl, rfl, hm, hmost, rfl⟩ := hrel
    by_cases hkl : k < ls.length
    · rcases hs with hs | ⟨b, off, rfl, hlt, hc⟩
      · rw [hs] at hkl; simp at hkl
      have hck := (B5.cell (p := ⟨b, off + k, none⟩) hlt).trans (hc k hkl)
      have hgb := get_bulk ls k
      have hsz := S_size (ls.getD k [])
      have hst := fun m' h1 h2 => most_step (m' := m') hkl hmost h1 h2
      generalize ls.getD k [] = s at *
      clear hc
      have HST := fun m' h1 h2 => (show Hid (Most ls (k + 1) m') from hst m' h1 h2)
      clear hst hmost
      by_cases hgt : m < s.length
      · go_wp2_with fail
        exact ⟨⟨k + 1, s.length, by omega, by go_num, rfl, by omega, HST _ (by omega) (by omega), by trivial⟩, by simp [intOf]; omega⟩
      · go_wp2_with fail
        exact ⟨⟨k + 1, m, by omega, by go_num, rfl, hm, HST _ (by omega) (by omega), by trivial⟩, by simp [intOf]; omega⟩
    · have hkk : k = ls.length := by omega
      subst hkk
      have HL : Hid (lis (ls.length : Int) (m : Int) (D ++ more) = (ls, more, 0)) := by
        show _ = _
        rw [HD.out]
        refine lis_back (by omega) (by omega) (fun s hsm => ?_) more
        have q1 := mem_bulk hsm
        have q2 := hmost s (by rw [List.take_length]; exact hsm)
        exact ⟨by omega, by omega⟩
      clear hmost hs HD
      go_wp2_with fail
      refine (Uint_ok rd5 HN1).mono ?_
      rintro r w6 ⟨rfl, rd6, b6⟩
      have B6 := nextBut B5 b6 hB4
      clear B5 b6 rd5 HN1
      go_wp2_with fail
      refine (Int1_ok rd6 HN2).mono ?_
      rintro r w7 ⟨rfl, rd7, b7⟩
      have B7 := nextBut B6 b7 hB4
      clear B6 b7 rd6 HN2
      go_wp2_with fail
      refine (Lst_ok rd7 (by have := HLD.out; omega) (by omega) (by omega) HL).mono ?_
      rintro r w8 ⟨vr, rfl, hst, rd8, b8⟩
      have B8 := nextBut B7 b8 hB4
      clear B7 b8 rd7 HL
      have hs8 := hs0.below B8 (Nat.le_refl _)
      go_wp2_with fail
      refine (Same_true hst hs8 (by omega)).mono ?_
      rintro r w9 ⟨rfl, b9⟩
      have rd9 := rd8.below b9 rd8.lt
      have B9 := next B8 b9
      have hmz := S_size more
      rw [HUZ.out]
      clear B8 b9 rd8 hst hs8 hs0 HUZ
      go_wp2_with fail
      refine (Err_any rd9).mono ?_
      rintro r w10 ⟨rfl, rfl⟩
      go_wp2_with fail
      refine (Left_any rd9).mono ?_
      rintro r w10 ⟨rfl, rfl⟩
      go_wp2
      go_ret
      exact ⟨rfl, B9⟩

set_option maxRecDepth 100000 in
theorem lifted (os : Os) (started : os.Started) (H : Type) (enc : TypeId × Value → H) (F : Stop.Interp) :
    ReturnsInHanded {} Try.checked os 5 .any ((Rows.OpenSpec.upto Rows.wireBackSpec).pre6 enc Try.prog Try.f5 Rows.wireBackUptoRow.domain false) (((Rows.OpenSpec.upto Rows.wireBackSpec).at F).post enc Try.prog Try.f5 false true false false) := by
  refine returnsInHanded_of_cond (C := Try.checked) (s := Rows.OpenSpec.upto Rows.wireBackSpec) (k := Rows.uptoSmall) rfl own started (by kernel_rfl) Try.func5
    (OpenSpec.witness (enc := enc) (C := Try.checked) (s := Rows.OpenSpec.upto Rows.wireBackSpec) (k := Rows.uptoSmall) rfl false ⟨#[], #[.agg #[.int .u64 0, .int .i64 0, .slice none 0 0, .string .empty]], []⟩ 8 (by kernel_rfl) (by kernel_rfl) (by kernel_rfl)
      (x := ([.agg [.lit (.int .u64 0), .lit (.int .i64 0), .nil, .lit (.string [])]], [], [])) (by kernel_rfl) rfl (by kernel_rfl)) ?_
  intro W base args ds gs before hval0 hW _ hk _
  have hval : ∀ (j : Nat) t v, Try.f5.params[j]? = some t → args[j]? = some v → Value.okWide Try.prog W .any base t v := hval0
  have hW' := hW
  obtain ⟨p, q, hA0, hV, rfl, hfz, hnd⟩ := hW
  have hA : DataW.TrodAll enc Try.prog W 0 (fun _ => true) true Try.f5.params.toList args.toList ds p := hA0
  rw [Try.params5] at hA hval
  obtain ⟨v0, vs0, d0, ds0, p0, q0, hargs, rfl, rfl, h0, r0⟩ := trodAll_cons hA
  obtain ⟨rfl, rfl, rfl⟩ := trodAll_nil r0
  obtain rfl : args = #[v0] := by cases args; simp_all
  obtain ⟨rfl, rfl⟩ := trodVars_none hV
  have k0 := h0
  have lt0 : ∀ x ∈ p0, x.block < W.heap.size := by obtain ⟨m, hm⟩ := k0; exact DataW.trod_lt m _ _ _ hm
  obtain ⟨c0, c1, c2, c3, y0, y1, y2, y3, m, rfl, rfl, _, t0, t1, t2, t3⟩ := open_agg4 Try.underlying49 (by kernel_rfl) (by kernel_rfl) (hval 0 49 v0 rfl rfl) h0
  obtain ⟨a0, e0, rfl, w0⟩ := DataW.trod_int Try.underlying22 t0
  obtain ⟨a1, e1, rfl, w1⟩ := DataW.trod_int Try.underlying2 t1
  obtain ⟨ls, hls, hbk⟩ := openStrsF t2
  obtain ⟨a3, e3, rfl, w3⟩ := DataW.trod_string Try.underlying9 t3
  simp at e0 e1 e3
  subst e0 e1 e3
  have hsmall : Rows.uptoBulkAll ([DataW.agg [DataW.lit (.int .u64 a0), .lit (.int .i64 a1), y2.1, .lit (.string a3.data.toList)]] ++ []) ≤ 1048576 := of_decide_eq_true hk
  simp only [List.append_nil, Rows.uptoBulkAll, Rows.uptoBulk] at hsmall
  have hb0 := bounds_u64 w0
  have hb1 := bounds_i64 w1
  obtain ⟨n0, rfl⟩ := Int.eq_ofNat_of_zero_le hb0.1
  clear hA0 hval0
  have hwk := walk n0 (by omega) a1 hb1.1 hb1.2 c2 ls a3.data.toList W hls (by omega) (by omega)
  rw [S_of] at hwk
  refine hwk.mono fun e W' ⟨he, bel⟩ => ?_
  subst he
  exact ⟨_, rfl, _, _, _, [], _, [], hW', trodAll_mk1 (shut_bool Try.underlying4 _), (trodAll_cons_mk (Below.trod laidOut (by kernel_rfl) (of_decide_eq_true (by kernel_rfl)) k0 bel lt0) trodAll_mk0), rfl, bel.frame _, fun h => by cases h⟩

theorem proved : Rows.WireBackUptoSaid :=
  OpenClaim.holds_of_cond 5 Try.f5 rfl rfl rfl rfl rfl rfl rfl ⟨rfl, rfl, rfl, rfl, rfl⟩ rfl rfl rfl rfl rfl (by kernel_rfl) Try.func5 (by kernel_rfl)
    (of_decide_eq_true (by kernel_rfl)) (by unfold Func.isWrapper; first | (rw [if_pos (by decide +kernel)]; kernel_rfl) | (rw [if_neg (by decide +kernel)]; exact ⟨rfl, rfl⟩))
    (fun os started H enc _ F => lifted os started H enc F)
end Go.Proofs.Ytdfkcadnfoidaaa.wireBack

/-
  Proved: for every text WireOne answers true, and changes nothing that was there before the call: bytes that are read as a number, or as a text, are just those that it is written as. No condition.
-/
import Derived.Test.YtdfkcadnfoidaaaRows
import Derived.Test.YtdfkcadnfoidaaaShown
import Derived.Test.YtdfkcadnfoidaaaPlain
import Derived.ProofKit
import Derived.OpenShut
import Derived.ShutString
import Derived.SizedLaws
import Derived.Deep.RegionHeld3
namespace Go.Proofs.Ytdfkcadnfoidaaa.wireOne
open Go.ChangeShapes Go.WideShapes Go.ChangeAt Go.RowKit
open Go.ChangeMaps (open_string shut_string)

theorem rd_drew {b e : Nat} {l : List UInt8} {w : World} (h : Rd w b l e) : Rd w.drew b l e := ⟨h.rest, h.err, h.fr, h.fe, h.lt⟩

theorem tex_one {most : Int} {l t rest : List UInt8} (h : tex most l = (t, rest, 0)) : l = txt t ++ rest ∧ t.length < 18446744073709551616 := by
  obtain ⟨n, m, f, hc⟩ : ∃ n m f, cnt most l = (n, m, f) := ⟨_, _, _, rfl⟩
  unfold tex at h
  rw [hc] at h
  split at h
  · rename_i h1
    simp only [Prod.mk.injEq] at h
    exact absurd h.2.2 h1
  · split at h
    · simp at h
    · rename_i h1 h2
      simp only [Prod.mk.injEq, and_true] at h
      obtain ⟨rfl, rfl⟩ := h
      have hf : f = 0 := by simpa using h1
      subst hf
      obtain ⟨v, k, g, hn⟩ : ∃ v k g, numb 0 0 l = (v, k, g) := ⟨_, _, _, rfl⟩
      unfold cnt at hc
      rw [hn] at hc
      split at hc
      · rename_i h3
        simp only [Prod.mk.injEq] at hc
        exact absurd hc.2.2 h3
      · split at hc
        · simp at hc
        · rename_i h3 h4
          simp only [Prod.mk.injEq, and_true] at hc
          obtain ⟨rfl, rfl⟩ := hc
          have hg : g = 0 := by simpa using h3
          subst hg
          have h5 := numb_one0 hn
          have h6 := numb_lt0 (show Hid (numb 0 0 l = (v, k, 0)) from hn)
          have h8 : ¬ k.length < v := h2
          have h7 : (k.take v).length = v := by rw [List.length_take]; omega
          refine ⟨?_, by rw [h7]; exact h6⟩
          unfold txt
          rw [h7, List.append_assoc, List.take_append_drop]
          exact h5

/-- what is needed of the text that is read -/
structure Tx (l t rest : List UInt8) : Prop where
  len : l.length = (txt t).length + rest.length
  pos : 1 ≤ (txt t).length
  fit : 10 + t.length ≤ 140737488355328
  ext : (S l).extract 0 (txt t).length = S (txt t)

theorem tx_of {most : Int} {l t rest : List UInt8} (hl : l.length ≤ 140737488351232) (h : tex most l = (t, rest, 0)) : Tx l t rest := by
  have h1 := (tex_one h).1
  have h2 : l.length = (txt t).length + rest.length := by rw [h1, List.length_append]
  have h3 := txt_ge t
  exact ⟨h2, by omega, by omega, by rw [S_take, h1, List.take_left]⟩

set_option maxHeartbeats 4000000 in
set_option maxRecDepth 100000 in
theorem walkOO (l : List UInt8) (hl : l.length ≤ 140737488351232) (w : World) {v : Nat} {rest : List UInt8} (hn : numb 0 0 l = (v, rest, 0)) {t rest2 : List UInt8} (HT : Hid (tex (l.length : Int) l = (t, rest2, 0))) (TX : Tx l t rest2) :
    Calls Try.prog 7 #[.string (S l)] w fun r w' => r = .returned (.bool true) ∧ Below w.heap.size w w' := by
  have hsl := S_size l
  have HN : Hid (numb 0 0 l = (v, rest, 0)) := hn
  have hone := numb_one0 hn
  have hlen : l.length = (Lib.uvarint v).length + rest.length := by rw [hone, List.length_append]
  have hup := Lib.uvarint_pos v
  have hv := numb_lt0 HN
  have hx : (S l).extract 0 (Lib.uvarint v).length = S (Lib.uvarint v) := by rw [S_take, hone, List.take_left]
  have HLE : Hid (l.length = (Lib.uvarint v).length + rest.length) := hlen
  clear hn hone
  go_enter Try.func7, Try.ntmps7
  go_wp2_with fail
  refine (shown_any _).mono ?_
  rintro r w1 ⟨rfl, b1⟩
  go_wp2_with fail
  refine (Read_any l _).mono ?_
  rintro r w2 ⟨rfl, rd2, b2, -⟩
  have hB1 := b1.size
  have B2 := next b1 b2
  clear b1 b2
  go_wp2_with fail
  refine (Uint_ok rd2 HN).mono ?_
  rintro r w3 ⟨rfl, rd3, b3⟩
  have B3 := nextBut B2 b3 hB1
  clear B2 b3 rd2
  go_wp2_with fail
  refine (Err_any rd3).mono ?_
  rintro r w4 ⟨rfl, rfl⟩
  go_wp2_with fail
  refine (Left_any rd3).mono ?_
  rintro r w4 ⟨rfl, rfl⟩
  have g1 : decide (((Lib.uvarint v).length : Int) < 1) = false := decide_eq_false (by omega)
  have g2 : decide (((Lib.uvarint v).length : Int) + (rest.length : Int) < ((Lib.uvarint v).length : Int)) = false := decide_eq_false (by omega)
  have g3 : (0 : Int) ≤ ((Lib.uvarint v).length : Int) := by omega
  have g4 : ((Lib.uvarint v).length : Int) ≤ ((Lib.uvarint v).length : Int) + (rest.length : Int) := by omega
  have g5 : (Lib.uvarint v).length ≤ (Lib.uvarint v).length + rest.length := by omega
  go_wp2_with fail
  go_region_held3 (fun _ => True) (trivial) (first | (go_at_call 10; refine (Uint_any v hv _).mono ?_; rintro r w5 ⟨rfl, b5⟩))
  have BZ := next B3.drew b5
  clear B3 b5 rd3 g1 g2 g3 g4 g5 hx hlen hup HN
  go_wp2_with fail
  refine (Read_any l _).mono ?_
  rintro r w6 ⟨rfl, rd6, b6, -⟩
  have hB6 := BZ.size
  have B6 := next BZ b6
  clear BZ b6
  go_wp2_with fail
  refine (Text_ok rd6 (by omega) (by omega) HT).mono ?_
  rintro r w7 ⟨rfl, rd7, b7⟩
  have B7 := nextBut B6 b7 hB6
  clear B6 b7 rd6
  go_wp2_with fail
  refine (Err_any rd7).mono ?_
  rintro r w8 ⟨rfl, rfl⟩
  have tlen := TX.len
  have tpos := TX.pos
  have tfit := TX.fit
  have text := TX.ext
  go_wp2_with fail
  refine (Left_any rd7).mono ?_
  rintro r w8 ⟨rfl, rfl⟩
  have k1 : decide (((txt t).length : Int) < 1) = false := decide_eq_false (by omega)
  have k2 : decide (((txt t).length : Int) + (rest2.length : Int) < ((txt t).length : Int)) = false := decide_eq_false (by omega)
  have k3 : (0 : Int) ≤ ((txt t).length : Int) := by omega
  have k4 : ((txt t).length : Int) ≤ ((txt t).length : Int) + (rest2.length : Int) := by omega
  have k5 : (txt t).length ≤ (txt t).length + rest2.length := by omega
  go_wp2_with fail
  go_region_held3 (fun _ => True) (trivial) (first | (go_at_call 14; refine (Text_any t tfit _).mono ?_; rintro r w9 ⟨rfl, b9⟩))
  all_goals
    have B9 := next B7.drew b9
    clear B7 b9 rd7
    go_wp2
    go_ret
    exact ⟨rfl, B9⟩

set_option maxHeartbeats 4000000 in
set_option maxRecDepth 100000 in
theorem walkOB (l : List UInt8) (hl : l.length ≤ 140737488351232) (w : World) {v : Nat} {rest : List UInt8} (hn : numb 0 0 l = (v, rest, 0)) {t rest2 : List UInt8} {er2 : Nat} (HT : Hid (tex (l.length : Int) l = (t, rest2, er2))) (hz2 : er2 ≠ 0) :
    Calls Try.prog 7 #[.string (S l)] w fun r w' => r = .returned (.bool true) ∧ Below w.heap.size w w' := by
  have hsl := S_size l
  have HN : Hid (numb 0 0 l = (v, rest, 0)) := hn
  have hone := numb_one0 hn
  have hlen : l.length = (Lib.uvarint v).length + rest.length := by rw [hone, List.length_append]
  have hup := Lib.uvarint_pos v
  have hv := numb_lt0 HN
  have hx : (S l).extract 0 (Lib.uvarint v).length = S (Lib.uvarint v) := by rw [S_take, hone, List.take_left]
  have HLE : Hid (l.length = (Lib.uvarint v).length + rest.length) := hlen
  clear hn hone
  go_enter Try.func7, Try.ntmps7
  go_wp2_with fail
  refine (shown_any _).mono ?_
  rintro r w1 ⟨rfl, b1⟩
  go_wp2_with fail
  refine (Read_any l _).mono ?_
  rintro r w2 ⟨rfl, rd2, b2, -⟩
  have hB1 := b1.size
  have B2 := next b1 b2
  clear b1 b2
  go_wp2_with fail
  refine (Uint_ok rd2 HN).mono ?_
  rintro r w3 ⟨rfl, rd3, b3⟩
  have B3 := nextBut B2 b3 hB1
  clear B2 b3 rd2
  go_wp2_with fail
  refine (Err_any rd3).mono ?_
  rintro r w4 ⟨rfl, rfl⟩
  go_wp2_with fail
  refine (Left_any rd3).mono ?_
  rintro r w4 ⟨rfl, rfl⟩
  have g1 : decide (((Lib.uvarint v).length : Int) < 1) = false := decide_eq_false (by omega)
  have g2 : decide (((Lib.uvarint v).length : Int) + (rest.length : Int) < ((Lib.uvarint v).length : Int)) = false := decide_eq_false (by omega)
  have g3 : (0 : Int) ≤ ((Lib.uvarint v).length : Int) := by omega
  have g4 : ((Lib.uvarint v).length : Int) ≤ ((Lib.uvarint v).length : Int) + (rest.length : Int) := by omega
  have g5 : (Lib.uvarint v).length ≤ (Lib.uvarint v).length + rest.length := by omega
  go_wp2_with fail
  go_region_held3 (fun _ => True) (trivial) (first | (go_at_call 10; refine (Uint_any v hv _).mono ?_; rintro r w5 ⟨rfl, b5⟩))
  have BZ := next B3.drew b5
  clear B3 b5 rd3 g1 g2 g3 g4 g5 hx hlen hup HN
  go_wp2_with fail
  refine (Read_any l _).mono ?_
  rintro r w6 ⟨rfl, rd6, b6, -⟩
  have hB6 := BZ.size
  have B6 := next BZ b6
  clear BZ b6
  go_wp2_with fail
  refine (Text_bad rd6 (by omega) (by omega) HT hz2).mono ?_
  rintro r w7 ⟨rfl, rd7, b7⟩
  have B7 := nextBut B6 b7 hB6
  clear B6 b7 rd6
  go_wp2_with fail
  refine (Err_any rd7).mono ?_
  rintro r w8 ⟨rfl, rfl⟩
  have hbe : (((er2 : Nat) : Int) == 0) = false := beq_eq_false_iff_ne.2 (by omega)
  clear hz2
  go_wp2
  go_ret
  exact ⟨rfl, B7⟩

set_option maxHeartbeats 4000000 in
set_option maxRecDepth 100000 in
theorem walkBO (l : List UInt8) (hl : l.length ≤ 140737488351232) (w : World) {v : Nat} {rest : List UInt8} {er : Nat} (hn : numb 0 0 l = (v, rest, er)) (hz : er ≠ 0) {t rest2 : List UInt8} (HT : Hid (tex (l.length : Int) l = (t, rest2, 0))) (TX : Tx l t rest2) :
    Calls Try.prog 7 #[.string (S l)] w fun r w' => r = .returned (.bool true) ∧ Below w.heap.size w w' := by
  have hsl := S_size l
  have HN : Hid (numb 0 0 l = (v, rest, er)) := hn
  have hbe : (((er : Nat) : Int) == 0) = false := beq_eq_false_iff_ne.2 (by omega)
  clear hn
  go_enter Try.func7, Try.ntmps7
  go_wp2_with fail
  refine (shown_any _).mono ?_
  rintro r w1 ⟨rfl, b1⟩
  go_wp2_with fail
  refine (Read_any l _).mono ?_
  rintro r w2 ⟨rfl, rd2, b2, -⟩
  have hB1 := b1.size
  have B2 := next b1 b2
  clear b1 b2
  go_wp2_with fail
  refine (Uint_bad rd2 HN hz).mono ?_
  rintro r w3 ⟨rfl, rd3, b3⟩
  have BZ := nextBut B2 b3 hB1
  clear B2 b3 rd2
  go_wp2_with fail
  refine (Err_any rd3).mono ?_
  rintro r w4 ⟨rfl, rfl⟩
  clear rd3 hz
  go_wp2_with fail
  refine (Read_any l _).mono ?_
  rintro r w6 ⟨rfl, rd6, b6, -⟩
  have hB6 := BZ.size
  have B6 := next BZ b6
  clear BZ b6
  go_wp2_with fail
  refine (Text_ok rd6 (by omega) (by omega) HT).mono ?_
  rintro r w7 ⟨rfl, rd7, b7⟩
  have B7 := nextBut B6 b7 hB6
  clear B6 b7 rd6
  go_wp2_with fail
  refine (Err_any rd7).mono ?_
  rintro r w8 ⟨rfl, rfl⟩
  have tlen := TX.len
  have tpos := TX.pos
  have tfit := TX.fit
  have text := TX.ext
  go_wp2_with fail
  refine (Left_any rd7).mono ?_
  rintro r w8 ⟨rfl, rfl⟩
  have k1 : decide (((txt t).length : Int) < 1) = false := decide_eq_false (by omega)
  have k2 : decide (((txt t).length : Int) + (rest2.length : Int) < ((txt t).length : Int)) = false := decide_eq_false (by omega)
  have k3 : (0 : Int) ≤ ((txt t).length : Int) := by omega
  have k4 : ((txt t).length : Int) ≤ ((txt t).length : Int) + (rest2.length : Int) := by omega
  have k5 : (txt t).length ≤ (txt t).length + rest2.length := by omega
  go_wp2_with fail
  go_region_held3 (fun _ => True) (trivial) (first | (go_at_call 14; refine (Text_any t tfit _).mono ?_; rintro r w9 ⟨rfl, b9⟩))
  all_goals
    have B9 := next B7.drew b9
    clear B7 b9 rd7
    go_wp2
    go_ret
    exact ⟨rfl, B9⟩

set_option maxHeartbeats 4000000 in
set_option maxRecDepth 100000 in
theorem walkBB (l : List UInt8) (hl : l.length ≤ 140737488351232) (w : World) {v : Nat} {rest : List UInt8} {er : Nat} (hn : numb 0 0 l = (v, rest, er)) (hz : er ≠ 0) {t rest2 : List UInt8} {er2 : Nat} (HT : Hid (tex (l.length : Int) l = (t, rest2, er2))) (hz2 : er2 ≠ 0) :
    Calls Try.prog 7 #[.string (S l)] w fun r w' => r = .returned (.bool true) ∧ Below w.heap.size w w' := by
  have hsl := S_size l
  have HN : Hid (numb 0 0 l = (v, rest, er)) := hn
  have hbe : (((er : Nat) : Int) == 0) = false := beq_eq_false_iff_ne.2 (by omega)
  clear hn
  go_enter Try.func7, Try.ntmps7
  go_wp2_with fail
  refine (shown_any _).mono ?_
  rintro r w1 ⟨rfl, b1⟩
  go_wp2_with fail
  refine (Read_any l _).mono ?_
  rintro r w2 ⟨rfl, rd2, b2, -⟩
  have hB1 := b1.size
  have B2 := next b1 b2
  clear b1 b2
  go_wp2_with fail
  refine (Uint_bad rd2 HN hz).mono ?_
  rintro r w3 ⟨rfl, rd3, b3⟩
  have BZ := nextBut B2 b3 hB1
  clear B2 b3 rd2
  go_wp2_with fail
  refine (Err_any rd3).mono ?_
  rintro r w4 ⟨rfl, rfl⟩
  clear rd3 hz
  go_wp2_with fail
  refine (Read_any l _).mono ?_
  rintro r w6 ⟨rfl, rd6, b6, -⟩
  have hB6 := BZ.size
  have B6 := next BZ b6
  clear BZ b6
  go_wp2_with fail
  refine (Text_bad rd6 (by omega) (by omega) HT hz2).mono ?_
  rintro r w7 ⟨rfl, rd7, b7⟩
  have B7 := nextBut B6 b7 hB6
  clear B6 b7 rd6
  go_wp2_with fail
  refine (Err_any rd7).mono ?_
  rintro r w8 ⟨rfl, rfl⟩
  have hbe : (((er2 : Nat) : Int) == 0) = false := beq_eq_false_iff_ne.2 (by omega)
  clear hz2
  go_wp2
  go_ret
  exact ⟨rfl, B7⟩

theorem walk (l : List UInt8) (hl : l.length ≤ 140737488351232) (w : World) :
    Calls Try.prog 7 #[.string (S l)] w fun r w' => r = .returned (.bool true) ∧ Below w.heap.size w w' := by
  obtain ⟨v, rest, er, hn⟩ : ∃ v rest er, numb 0 0 l = (v, rest, er) := ⟨_, _, _, rfl⟩
  obtain ⟨t, rest2, er2, ht⟩ : ∃ t rest2 er2, tex (l.length : Int) l = (t, rest2, er2) := ⟨_, _, _, rfl⟩
  by_cases h1 : er = 0 <;> by_cases h2 : er2 = 0
  · subst h1 h2
    exact walkOO l hl w hn ht (tx_of hl ht)
  · subst h1
    exact walkOB l hl w hn ht h2
  · subst h2
    exact walkBO l hl w hn h1 ht (tx_of hl ht)
  · exact walkBB l hl w hn h1 ht h2

theorem own : ownKnob Try.prog.godebug = none := by kernel_rfl

set_option maxRecDepth 100000 in
theorem lifted (os : Os) (started : os.Started) (H : Type) (enc : TypeId × Value → H) :
    ReturnsInHanded {} Try.checked os 7 .any (Rows.wireOneSpec.pre6 enc Try.prog Try.f7 Rows.wireOneRow.domain false) (Rows.wireOneSpec.post enc Try.prog Try.f7 false true false false) := by
  refine returnsInHanded_of_change_sized (C := Try.checked) own started (by kernel_rfl) Try.func7
    (ChangeSpec.witness6 (enc := enc) (C := Try.checked) false ⟨#[], #[.string .empty], []⟩ 8 (by kernel_rfl) (by kernel_rfl) (by kernel_rfl) (by kernel_rfl)) ?_
  intro W base args ds gs before hval0 hW hcnd hsz0 _
  have hval : ∀ (j : Nat) t v, Try.f7.params[j]? = some t → args[j]? = some v → Value.okWide Try.prog W .any base t v := hval0
  have hsz : (DataW.weightsEach Try.prog (Try.f7.params.toList ++ Rows.wireOneSpec.plain.varTypes Try.prog) (ds ++ gs)).all (· ≤ reachBytes) = true := hsz0
  have hW' := hW
  obtain ⟨p, q, hA0, hV, rfl, hfz, hnd⟩ := hW
  have hA : DataW.TrodAll enc Try.prog W 0 (fun _ => true) true Try.f7.params.toList args.toList ds p := hA0
  rw [Try.params7] at hA hval hsz
  obtain ⟨v0, vs0, d0, ds0, p0, q0, hargs, rfl, rfl, h0, r0⟩ := trodAll_cons hA
  obtain ⟨rfl, rfl, rfl⟩ := trodAll_nil r0
  obtain rfl : args = #[v0] := by cases args; simp_all
  obtain ⟨rfl, rfl⟩ := trodVars_none hV
  obtain ⟨a0, rfl, rfl, rfl, w0⟩ := open_string Try.underlying9 (hval 0 9 v0 rfl rfl) h0
  have hlen := sized_string hsz (j := 0) (t := 9) rfl rfl
  simp only [reachBytes] at hlen
  clear hA0 hval0
  have hwk := walk a0.data.toList (by omega) W
  rw [S_of] at hwk
  refine hwk.mono fun e W' ⟨he, bel⟩ => ?_
  subst he
  exact ⟨_, rfl, _, _, _, [], _, [], hW', trodAll_mk1 (shut_bool Try.underlying4 _), (trodAll_cons_mk (shut_string Try.underlying9 w0) trodAll_mk0), rfl, bel.frame _, fun h => by cases h⟩

theorem proved : Rows.WireOneSaid :=
  OpenClaim.holds_of_wide 7 Try.f7 rfl rfl rfl rfl rfl rfl rfl ⟨rfl, rfl, rfl, rfl, rfl⟩ rfl rfl rfl rfl rfl (by kernel_rfl) Try.func7 (by kernel_rfl)
    (of_decide_eq_true (by kernel_rfl)) (by unfold Func.isWrapper; first | (rw [if_pos (by decide +kernel)]; kernel_rfl) | (rw [if_neg (by decide +kernel)]; exact ⟨rfl, rfl⟩))
    (fun os started H enc _ => lifted os started H enc)
end Go.Proofs.Ytdfkcadnfoidaaa.wireOne

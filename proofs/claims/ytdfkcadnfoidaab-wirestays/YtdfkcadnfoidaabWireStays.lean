/-
  Proved: for every text and every list of asks WireStays answers true, and changes nothing that was there before the call: a reader that is wrong stays so, takes no bytes more, and tells nothing, whatever is asked. No condition.
-/
import Derived.Test.YtdfkcadnfoidaabRows
import Derived.Test.YtdfkcadnfoidaabShown
import Derived.Test.YtdfkcadnfoidaabLists
import Derived.ProofKit
import Derived.OpenShut
import Derived.Test.YtdfkcadnfoidaabAsks
import Derived.SizedLaws
import Derived.Deep.RegionWith
namespace Go.Proofs.Ytdfkcadnfoidaab.wireStays
open Go.ChangeShapes Go.WideShapes Go.ChangeAt Go.RowKit
open Go.ChangeMaps (open_string shut_string)

theorem rd_drew {b e : Nat} {l : List UInt8} {w : World} (h : Rd w b l e) : Rd w.drew b l e := ⟨h.rest, h.err, h.fr, h.fe, h.lt⟩

theorem n80s (s : List UInt8) : Hid (numb 0 0 (128 :: 0 :: s) = (0, s, 3)) := by
  show _ = _
  rw [numb, if_neg (by decide), if_pos (by decide), numb, if_neg (by decide), if_neg (by decide), if_neg (by decide)]
theorem pre_append (s : List UInt8) : (⟨#[128, 0]⟩ : ByteArray) ++ S s = S (128 :: 0 :: s) := by
  apply ByteArray.ext
  simp [S]

set_option maxHeartbeats 4000000 in
set_option maxRecDepth 100000 in
theorem walk (s : List UInt8) (hsl : s.length ≤ 9223372036854775800) (va : Value) (q : List (Int × Int × Int)) (hql : q.length ≤ 9223372036854775807) (w : World) (hs : Asks w va q) :
    Calls Try.prog 4 #[.string (S s), va] w fun r w' => r = .returned (.bool true) ∧ Below w.heap.size w w' := by
  obtain ⟨a, cap, rfl, hs⟩ := hs
  have hss := S_size s
  have hpa := pre_append s
  have hnil : (S []).toList.isEmpty = true := by simp [S_toList]
  go_enter Try.func4, Try.ntmps4
  go_wp2_with fail
  refine (shown_any _).mono ?_
  rintro r w1 ⟨rfl, b1⟩
  go_wp2_with fail
  refine (Read_any (128 :: 0 :: s) _).mono ?_
  rintro r w2 ⟨rfl, rd2, b2, -⟩
  have hB1 := b1.size
  have B2 := next b1 b2
  clear b1 b2 hpa
  go_wp2_with fail
  refine (Uint_bad rd2 (n80s s) (by decide)).mono ?_
  rintro r w3 ⟨rfl, rd3, b3⟩
  have B3 := nextBut B2 b3 hB1
  clear B2 b3 rd2
  obtain ⟨L, hL⟩ : ∃ L, L = 128 :: 0 :: s := ⟨_, rfl⟩
  rw [← hL] at rd3
  have HLL : Hid (L.length = s.length + 2) := by show _ = _; rw [hL]; rfl
  clear hL
  go_wp2_with fail
  go_loopw [7] (fun vi wr => ∃ k : Nat, k ≤ q.length ∧ vi = .int .i64 (k : Int) ∧ Rd wr w1.heap.size L 3 ∧ Below w.heap.size w wr)
    (fun vi _ => q.length - (intOf vi).toNat)
  case atStart => exact ⟨0, Nat.zero_le _, rfl, rd3, B3⟩
  case round =>
    obtain ⟨k, hk, rfl, rd, bel⟩ := hrel
    clear rd3 B3
    by_cases hkl : k < q.length
    · rcases hs with hs | ⟨b, off, rfl, hlt, hc⟩
      · rw [hs] at hkl; simp at hkl
      obtain ⟨_, c1, c2⟩ := hc k hkl
      generalize (q.getD k (0, 0, 0)).2.1 = many at c1
      generalize (q.getD k (0, 0, 0)).2.2 = most at c2
      clear hc
      have k1 := (bel.cell (p := ⟨b, off + k * 3 + 1, none⟩) hlt).trans c1
      have k2 := (bel.cell (p := ⟨b, off + k * 3 + 2, none⟩) hlt).trans c2
      go_wp2_with fail
      refine (Uint_wrong rd (by decide)).mono ?_
      rintro r w4 ⟨rfl, rfl⟩
      go_wp2_with fail
      refine (Int1_wrong rd (by decide)).mono ?_
      rintro r w4 ⟨rfl, rfl⟩
      go_wp2_with fail
      refine (Byte1_wrong rd (by decide)).mono ?_
      rintro r w4 ⟨rfl, rfl⟩
      go_wp2_with fail
      refine (Text_wrong rd (by decide) most).mono ?_
      rintro r w5 ⟨rfl, rd5, b5⟩
      have bel5 := bel.trans (b5.below hB1 bel.size)
      have m1 := (bel5.cell (p := ⟨b, off + k * 3 + 1, none⟩) hlt).trans c1
      have m2 := (bel5.cell (p := ⟨b, off + k * 3 + 2, none⟩) hlt).trans c2
      clear k1 k2 rd bel b5 c1 c2
      go_wp2_with fail
      go_region_with (go_at_call 15; refine (Lst_wrong (b := w1.heap.size) (e := 3) (l := L) ?_ (by decide) many most).mono ?_; exact rd_drew rd5; rintro r w6 ⟨rfl, rd6, b6⟩)
      all_goals
        have bel6 := (bel5.drew).trans (b6.below hB1 bel5.size)
        clear b6 bel5 rd5 m1 m2
        go_wp2
        exact ⟨⟨k + 1, by omega, by go_num, rd6, bel6⟩, by simp [intOf]; omega⟩
    · clear hs
      go_wp2_with fail
      refine (Err_any rd).mono ?_
      rintro r w4 ⟨rfl, rfl⟩
      go_wp2_with fail
      refine (End_any rd).mono ?_
      rintro r w4 ⟨rfl, rfl⟩
      have he : endOf L 3 = 3 := by simp [endOf]
      rw [he]
      clear he
      go_wp2_with fail
      refine (Left_any rd).mono ?_
      rintro r w4 ⟨rfl, rfl⟩
      rw [HLL.out]
      have hcast : (((s.length + 2 : Nat)) : Int) = (s.length : Int) + 2 := by omega
      rw [hcast]
      clear hcast HLL rd
      go_wp2
      go_ret
      exact ⟨rfl, bel⟩

theorem own : ownKnob Try.prog.godebug = none := by kernel_rfl
theorem laidOut : laidOutB Try.prog = true := by kernel_rfl

set_option maxRecDepth 100000 in
theorem lifted (os : Os) (started : os.Started) (H : Type) (enc : TypeId × Value → H) :
    ReturnsInHanded {} Try.checked os 4 .any (Rows.wireStaysSpec.pre6 enc Try.prog Try.f4 Rows.wireStaysRow.domain false) (Rows.wireStaysSpec.post enc Try.prog Try.f4 false true false false) := by
  refine returnsInHanded_of_change_sized (C := Try.checked) own started (by kernel_rfl) Try.func4
    (ChangeSpec.witness6 (enc := enc) (C := Try.checked) false ⟨#[], #[.string .empty, .slice none 0 0], []⟩ 8 (by kernel_rfl) (by kernel_rfl) (by kernel_rfl) (by kernel_rfl)) ?_
  intro W base args ds gs before hval0 hW hcnd hsz0 _
  have hval : ∀ (j : Nat) t v, Try.f4.params[j]? = some t → args[j]? = some v → Value.okWide Try.prog W .any base t v := hval0
  have hsz : (DataW.weightsEach Try.prog (Try.f4.params.toList ++ Rows.wireStaysSpec.plain.varTypes Try.prog) (ds ++ gs)).all (· ≤ reachBytes) = true := hsz0
  have hW' := hW
  obtain ⟨p, q, hA0, hV, rfl, hfz, hnd⟩ := hW
  have hA : DataW.TrodAll enc Try.prog W 0 (fun _ => true) true Try.f4.params.toList args.toList ds p := hA0
  rw [Try.params4] at hA hval hsz
  obtain ⟨v0, vs0, d0, ds0, p0, q0, hargs, rfl, rfl, h0, r0⟩ := trodAll_cons hA
  obtain ⟨v1, vs1, d1, ds1, p1, q1, rfl, rfl, rfl, h1, r1⟩ := trodAll_cons r0
  obtain ⟨rfl, rfl, rfl⟩ := trodAll_nil r1
  obtain rfl : args = #[v0, v1] := by cases args; simp_all
  obtain ⟨rfl, rfl⟩ := trodVars_none hV
  obtain ⟨a0, rfl, rfl, rfl, w0⟩ := open_string Try.underlying9 (hval 0 9 v0 rfl rfl) h0
  have hlen := sized_string hsz (j := 0) (t := 9) rfl rfl
  simp only [reachBytes] at hlen
  have k1 := h1
  have lt1 : ∀ x ∈ p1, x.block < W.heap.size := by obtain ⟨m, hm⟩ := k1; exact DataW.trod_lt m _ _ _ hm
  obtain ⟨qs, hqs, _, hql, _⟩ := openAsks (hval 1 28 v1 rfl rfl) h1
  unfold maxLen at hql
  clear hA0 hval0
  have hwk := walk a0.data.toList (by omega) v1 qs (by omega) W hqs
  rw [S_of] at hwk
  refine hwk.mono fun e W' ⟨he, bel⟩ => ?_
  subst he
  exact ⟨_, rfl, _, _, _, [], _, [], hW', trodAll_mk1 (shut_bool Try.underlying4 _), (trodAll_cons_mk (shut_string Try.underlying9 w0) (trodAll_cons_mk (Below.trod laidOut (by kernel_rfl) (of_decide_eq_true (by kernel_rfl)) k1 bel lt1) trodAll_mk0)), rfl, bel.frame _, fun h => by cases h⟩

theorem proved : Rows.WireStaysSaid :=
  OpenClaim.holds_of_wide 4 Try.f4 rfl rfl rfl rfl rfl rfl rfl ⟨rfl, rfl, rfl, rfl, rfl⟩ rfl rfl rfl rfl rfl (by kernel_rfl) Try.func4 (by kernel_rfl)
    (of_decide_eq_true (by kernel_rfl)) (by unfold Func.isWrapper; first | (rw [if_pos (by decide +kernel)]; kernel_rfl) | (rw [if_neg (by decide +kernel)]; exact ⟨rfl, rfl⟩))
    (fun os started H enc _ => lifted os started H enc)
end Go.Proofs.Ytdfkcadnfoidaab.wireStays

/-
  BookMost holds of every state, every kind of job and every number, whatever they are.
-/
import Derived.Test.YtajnjeipcbmlhaaGreatGMst
import Derived.Test.YtajnjeipcbmlhaaGreatF13Arg
namespace Go.Proofs.YtajnjeipcbmlhaaGreat.f13
open Go.RowKit Go.Shelf Go.Sort
open Go.Lib hiding intOf

set_option maxHeartbeats 2000000 in
set_option maxRecDepth 100000 in
theorem most_lo {w : World} {s : St} {kind : List UInt8} {mo : Int} (hs : Sv w s) (h1 : mo < 1) :
    Calls Tryz.prog 4 #[.agg s.c.toArray, .string (S kind), .int .i64 mo] w fun e w' => e = .returned (.bool true) ∧ Below w.heap.size w w' := by
  have hsl := Sv.slices hs
  clear hs
  obtain ⟨⟨saDe, snDe, scDe, shDe⟩, ⟨saIn, snIn, scIn, shIn⟩, ⟨saTk, snTk, scTk, shTk⟩, ⟨saJb, snJb, scJb, shJb⟩, ⟨saTm, snTm, scTm, shTm⟩, ⟨saSb, snSb, scSb, shSb⟩, ⟨saKp, snKp, scKp, shKp⟩, ⟨saLs, snLs, scLs, shLs⟩, ⟨saMs, snMs, scMs, shMs⟩⟩ := hsl
  obtain ⟨spos, sdone, smade, svDe, slDe, svIn, slIn, svTk, slTk, svJb, slJb, svTm, slTm, svSb, slSb, svKp, slKp, svLs, slLs, svMs, slMs⟩ := s
  simp only at shDe shIn shTk shJb shTm shSb shKp shLs shMs
  subst shDe shIn shTk shJb shTm shSb shKp shLs shMs
  simp only [St.c]
  go_enter Tryz.func4, Tryz.ntmps4
  go_wp2_with (go_at_call 5; refine (shown_any _).mono ?_; rintro e w1 ⟨rfl, hb1⟩; (have B1 : Hid (Below w.heap.size w w1) := ((Below.refl _ w).alloc (Nat.le_refl _) _).trans (hb1.mono (by simp))); clear hb1)
  go_ret
  exact ⟨rfl, B1.out⟩
set_option maxHeartbeats 2000000 in
set_option maxRecDepth 100000 in
theorem most_hi {w : World} {s : St} {kind : List UInt8} {mo : Int} (hs : Sv w s) (h1 : ¬ mo < 1) (h2 : 32 < mo) :
    Calls Tryz.prog 4 #[.agg s.c.toArray, .string (S kind), .int .i64 mo] w fun e w' => e = .returned (.bool true) ∧ Below w.heap.size w w' := by
  have hsl := Sv.slices hs
  clear hs
  obtain ⟨⟨saDe, snDe, scDe, shDe⟩, ⟨saIn, snIn, scIn, shIn⟩, ⟨saTk, snTk, scTk, shTk⟩, ⟨saJb, snJb, scJb, shJb⟩, ⟨saTm, snTm, scTm, shTm⟩, ⟨saSb, snSb, scSb, shSb⟩, ⟨saKp, snKp, scKp, shKp⟩, ⟨saLs, snLs, scLs, shLs⟩, ⟨saMs, snMs, scMs, shMs⟩⟩ := hsl
  obtain ⟨spos, sdone, smade, svDe, slDe, svIn, slIn, svTk, slTk, svJb, slJb, svTm, slTm, svSb, slSb, svKp, slKp, svLs, slLs, svMs, slMs⟩ := s
  simp only at shDe shIn shTk shJb shTm shSb shKp shLs shMs
  subst shDe shIn shTk shJb shTm shSb shKp shLs shMs
  simp only [St.c]
  go_enter Tryz.func4, Tryz.ntmps4
  go_wp2_with (go_at_call 5; refine (shown_any _).mono ?_; rintro e w1 ⟨rfl, hb1⟩; (have B1 : Hid (Below w.heap.size w w1) := ((Below.refl _ w).alloc (Nat.le_refl _) _).trans (hb1.mono (by simp))); clear hb1)
  go_ret
  exact ⟨rfl, B1.out⟩
theorem most_any {w : World} {s : St} (hs : Sv w s) (hz : Sz s) (kind : List UInt8) (hl : kind.length ≤ 4611686018427387904) (mo : Int) :
    Calls Tryz.prog 4 #[.agg s.c.toArray, .string (S kind), .int .i64 mo] w fun e w' => e = .returned (.bool true) ∧ Below w.heap.size w w' := by
  by_cases h1 : mo < 1
  · exact most_lo hs h1
  · by_cases h2 : 32 < mo
    · exact most_hi hs h1 h2
    · cases hk : namV kind with
      | false => exact most_bad hs hz hk hl (by omega) (by omega)
      | true => exact most_main hs hz hk (by omega) (by omega)
end Go.Proofs.YtajnjeipcbmlhaaGreat.f13

namespace Go.Proofs.YtajnjeipcbmlhaaGreat.bookMost
open Go.ChangeShapes Go.WideShapes Go.ChangeAt Go.WideMaps Go.WideElems Go.RowKit Go.Proofs.YtajnjeipcbmlhaaGreat.f13
open Go.Lib hiding intOf

set_option maxRecDepth 100000 in
theorem lifted (os : Os) (started : os.Started) (H : Type) (enc : TypeId × Value → H) :
    ReturnsInHanded {} Tryz.checked os 4 .any (Rows.bookMostSpec.pre6 enc Tryz.prog Tryz.f4 Rows.bookMostRow.domain false) (Rows.bookMostSpec.post enc Tryz.prog Tryz.f4 false true false false) := by
  refine returnsInHanded_of_change_sized (C := Tryz.checked) own13 started (by kernel_rfl) Tryz.func4
    (ChangeSpec.witness6 (enc := enc) (C := Tryz.checked) false ⟨#[], #[.agg #[.int .u64 0, .int .u64 0, .int .u64 0, .slice none 0 0, .slice none 0 0, .slice none 0 0, .slice none 0 0, .slice none 0 0, .slice none 0 0, .slice none 0 0, .slice none 0 0, .slice none 0 0], .string .empty, .int .i64 0], []⟩ 8 (by kernel_rfl) (by kernel_rfl) (by kernel_rfl) (by kernel_rfl)) ?_
  intro W base args ds gs before hval0 hW hcnd hsz0 _
  have hval : ∀ (j : Nat) t v, Tryz.f4.params[j]? = some t → args[j]? = some v → Value.okWide Tryz.prog W .any base t v := hval0
  have hsz : (DataW.weightsEach Tryz.prog (Tryz.f4.params.toList ++ Rows.bookMostSpec.plain.varTypes Tryz.prog) (ds ++ gs)).all (· ≤ reachBytes) = true := hsz0
  have hW' := hW
  obtain ⟨p, q, hA0, hV, rfl, hfz, hnd⟩ := hW
  have hA : DataW.TrodAll enc Tryz.prog W 0 (fun _ => true) true Tryz.f4.params.toList args.toList ds p := hA0
  rw [Tryz.params4] at hA hval hsz
  obtain ⟨v0, vs0, d0, ds0, p0, q0, hargs, rfl, rfl, h0, r0⟩ := trodAll_cons hA
  obtain ⟨v1, vs1, d1, ds1, p1, q1, rfl, rfl, rfl, h1, r1⟩ := trodAll_cons r0
  obtain ⟨v2, vs2, d2, ds2, p2, q2, rfl, rfl, rfl, h2, r2⟩ := trodAll_cons r1
  obtain ⟨rfl, rfl, rfl⟩ := trodAll_nil r2
  obtain rfl : args = #[v0, v1, v2] := by cases args; simp_all
  obtain ⟨rfl, rfl⟩ := trodVars_none hV
  have k0 := h0
  have lt0 : ∀ x ∈ p0, x.block < W.heap.size := by obtain ⟨m, hm⟩ := k0; exact DataW.trod_lt m _ _ _ hm
  have k1 := h1
  have lt1 : ∀ x ∈ p1, x.block < W.heap.size := by obtain ⟨m, hm⟩ := k1; exact DataW.trod_lt m _ _ _ hm
  obtain ⟨s, rfl, hsv, -, hzz⟩ := openState (hval 0 33 v0 rfl rfl) h0
  have hz := hzz (sized_at hsz (i := 0) (t := 33) (d := d0) rfl rfl)
  obtain ⟨s1, rfl, rfl, rfl, w1⟩ := Go.ChangeMaps.open_string Tryz.underlying9 (hval 1 9 v1 rfl rfl) h1
  have z1 := sized_at hsz (i := 1) (t := 9) rfl rfl
  have z2 : s1.data.toList.length ≤ 4611686018427387904 := by
    have := of_decide_eq_true (List.all_eq_true.1 z1 _ (show s1.data.toList.length ∈ _ by simp [DataW.weights]))
    simp only [reachBytes] at this
    omega
  obtain ⟨a2, rfl, rfl, rfl, w2⟩ := open_int Tryz.underlying2 (hval 2 2 v2 rfl rfl) h2
  clear hA0 hval0
  have HC := most_any hsv hz s1.data.toList z2 a2
  rw [S_of] at HC
  refine HC.mono fun e W' ⟨he, bel⟩ => ?_
  subst he
  exact ⟨_, rfl, _, _, _, [], _, [], hW', trodAll_mk1 (shut_bool Tryz.underlying4 _), (trodAll_cons_mk (Below.trod laidOut13 (by kernel_rfl) (of_decide_eq_true (by kernel_rfl)) k0 bel lt0) (trodAll_cons_mk (Below.trod laidOut13 (by kernel_rfl) (of_decide_eq_true (by kernel_rfl)) k1 bel lt1) (trodAll_cons_mk (shut_int Tryz.underlying2 w2) trodAll_mk0))), rfl, bel.frame _, fun h => by cases h⟩

theorem proved : Rows.BookMostSaid :=
  OpenClaim.holds_of_wide 4 Tryz.f4 rfl rfl rfl rfl rfl rfl rfl ⟨rfl, rfl, rfl, rfl, rfl⟩ rfl rfl rfl rfl rfl (by kernel_rfl) Tryz.func4 (by kernel_rfl)
    (of_decide_eq_true (by kernel_rfl)) (by unfold Func.isWrapper; first | (rw [if_pos (by decide +kernel)]; kernel_rfl) | (rw [if_neg (by decide +kernel)]; exact ⟨rfl, rfl⟩))
    (fun os started H enc _ => lifted os started H enc)
end Go.Proofs.YtajnjeipcbmlhaaGreat.bookMost

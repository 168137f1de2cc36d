/-
  Proved: SortedForgets answers true, and changes nothing that was there before the call, for every input: what was put and taken away again leaves the map as it was.
-/
import Derived.Test.YtkohcdefhaokiabSForget
import Derived.Test.YtkohcdefhaokiabSActs
import Derived.ProofKit
import Derived.OpenShut
import Derived.ShutString
import Derived.SizedLaws
namespace Go.Proofs.Ytkohcdefhaokiab.sortedForgets
open Go.ChangeShapes Go.WideShapes Go.ChangeAt Go.RowKit Go.Shelf Go.Lib Go.Sort
open Go.ChangeMaps (open_string shut_string)

set_option maxHeartbeats 4000000 in
set_option maxRecDepth 100000 in
theorem walk (va : Value) (q : List (Int × ByteArray × Int)) (k0 : ByteArray) (v0 : Int) (hql : q.length ≤ 4398046510976) (hqs : ∀ (j : Nat) (t : Int × ByteArray × Int), q[j]? = some t → t.2.1.size < 4611686018427387904) (w : World) (hs : Acts w va q) :
    Calls Try.prog 3 #[va, .string k0, .int .i64 v0] w fun r w' => r = .returned (.bool true) ∧ Below w.heap.size w w' := by
  obtain ⟨a, cap, rfl, hs⟩ := hs
  have HS : Hid (∀ (j : Nat) (t : Int × ByteArray × Int), q[j]? = some t → t.2.1.size < 4611686018427387904) := hqs
  clear hqs
  go_enter Try.func3, Try.ntmps3
  go_wp2_with fail
  refine (shown_any _).mono ?_
  rintro r w1 ⟨rfl, b1⟩
  go_wp2_with fail
  refine (New_any _).mono ?_
  rintro r w2 ⟨rfl, hM2, b2⟩
  have hs1 := b1.size
  have P0 := Pl.start hM2 (b1.trans (b2.mono hs1)) hs1
  have hl12 : w1.heap.size < w2.heap.size := hM2.lt
  clear hM2 b1 b2
  go_wp2_with fail
  go_loopw [10] (fun vi wr => ∃ (i : Nat) (es : List Ent), vi = .int .i64 i ∧ i ≤ q.length ∧ es.length ≤ i ∧ Pl w w1.heap.size w2.heap.size es wr) (fun vi _ => q.length - (intOf vi).toNat)
  case atStart => exact ⟨0, [], rfl, Nat.zero_le _, Nat.le_refl _, P0⟩
  case round =>
    obtain ⟨i, es, rfl, hi, hel, P⟩ := hrel
    clear P0
    by_cases hl : i < q.length
    · have hli : (i : Int) < (q.length : Int) := by omega
      rcases hs with hs | ⟨b, off, rfl, hlt, hc⟩
      · rw [hs] at hl; simp at hl
      obtain ⟨⟨kind, k, v⟩, ht⟩ : ∃ t, q[i]? = some t := ⟨_, List.getElem?_eq_getElem hl⟩
      obtain ⟨c0, c1, c2⟩ := hc i _ ht
      have hkz := HS.out i _ ht
      have bel := P.b
      have m0 := (bel.cell (p := ⟨b, off + i * 3, none⟩) hlt).trans c0
      have m1 := (bel.cell (p := ⟨b, off + i * 3 + 1, none⟩) hlt).trans c1
      have m2 := (bel.cell (p := ⟨b, off + i * 3 + 2, none⟩) hlt).trans c2
      have PH : Hid (Pl w w1.heap.size w2.heap.size es wr) := P
      clear c0 c1 c2 hc ht P bel HS
      dsimp only at m0 m1 m2 hkz
      go_wp2_with fail
      refine (does_pl PH.out kind k v hkz (by omega)).mono ?_
      rintro r w4 ⟨rfl, P4⟩
      have hal := act_len kind k v es
      generalize act kind k v es = es4 at *
      have P4H : Hid (Pl w w1.heap.size w2.heap.size es4 w4) := P4
      clear PH m0 m1 m2 P4
      go_wp2_with fail
      go_roundw
      case rel => exact ⟨i + 1, es4, by simp, by omega, by omega, P4H.out⟩
      case measure => simp [intOf]; omega
    · have hli : ¬ (i : Int) < (q.length : Int) := by omega
      have PH : Hid (Sg w w1.heap.size es wr) := P.sg
      have hr : Hid (Rise es) := P.sg.rise
      clear P hs HS
      go_wp2_with fail
      refine (ranged_sg PH.out 4 _ (-1) (by omega)).mono ?_
      rintro r w4 ⟨kv1, vv1, rfl, K4, S4, -⟩
      rw [pick_all, most_all] at K4
      have S4H : Hid (Sg w w1.heap.size es w4) := S4
      have K4H : Hid (KV w4 w.heap.size kv1 vv1 es) := K4
      clear S4 K4 PH
      go_wp2_with fail
      refine (put_sg S4H.out k0 v0 (by omega)).mono ?_
      rintro r w5 ⟨rfl, S5, K5⟩
      have hpl := put_len es k0 v0
      have hple : (put es k0 v0).length ≤ es.length + 1 := by split at hpl <;> omega
      have hD := del_sg S5 k0 (by omega)
      rw [(has_put hr.out k0 v0).1, (has_put hr.out k0 v0).2.1, (has_put hr.out k0 v0).2.2] at hD
      have K5H : Hid (KV w5 w.heap.size kv1 vv1 es) := K5 _ _ _ _ K4H.out
      clear S5 K5 S4H K4H hpl hple
      have hB : Hid ((has es k0 = true → put (del es k0) k0 (val es k0) = es) ∧ (has es k0 = false → del es k0 = es) ∧ (del es k0).length ≤ es.length ∧ has (del es k0) k0 = false) := ⟨put_back hr.out k0, del_not, del_le es k0, has_del hr.out k0⟩
      have hdl : (del es k0).length ≤ es.length := hB.out.2.2.1
      cases hh : has es k0 with
      | true =>
        have hpb := hB.out.1 hh
        go_wp2_with fail
        refine hD.mono ?_
        rintro r w6 ⟨rfl, S6, K6⟩
        have hG := get_sg S6 k0 (by omega)
        rw [hB.out.2.2.2] at hG
        have K6H : Hid (KV w6 w.heap.size kv1 vv1 es) := K6 _ _ _ _ K5H.out
        clear S6 K6 K5H hD
        go_wp2_with fail
        refine hG.mono ?_
        rintro r w7 ⟨rfl, S7, K7⟩
        have hP := put_sg S7 k0 (val es k0) (by omega)
        rw [hpb] at hP
        have K7H : Hid (KV w7 w.heap.size kv1 vv1 es) := K7 _ _ _ _ K6H.out
        clear S7 K7 K6H hG hpb
        go_wp2_with fail
        refine hP.mono ?_
        rintro r w8 ⟨rfl, S8, K8⟩
        have K8H : Hid (KV w8 w.heap.size kv1 vv1 es) := K8 _ _ _ _ K7H.out
        have S8H : Hid (Sg w w1.heap.size es w8) := S8
        clear S8 K8 K7H hP
        go_wp2_with fail
        refine (ranged_sg S8H.out 4 _ (-1) (by omega)).mono ?_
        rintro r w9 ⟨kv2, vv2, rfl, K9, S9, KK⟩
        rw [pick_all, most_all] at K9
        have KA : Hid (KV w9 w.heap.size kv2 vv2 es ∧ KV w9 w.heap.size kv1 vv1 es ∧ Below w.heap.size w w9) := ⟨K9, KK _ _ _ _ K8H.out, S9.b⟩
        clear K9 S9 KK K8H S8H
        go_wp2_with fail
        refine (alike_any KA.out.1 KA.out.2.1 (most_all es).symm (by omega)).mono ?_
        rintro r w10 ⟨rfl, hB10⟩
        go_wp2_with fail
        go_ret
        exact ⟨rfl, KA.out.2.2.trans (hB10.mono KA.out.2.2.size)⟩
      | false =>
        have hpb := hB.out.2.1 hh
        go_wp2_with fail
        refine hD.mono ?_
        rintro r w6 ⟨rfl, S6, K6⟩
        have hG := get_sg S6 k0 (by omega)
        rw [hB.out.2.2.2, hpb] at hG
        have K6H : Hid (KV w6 w.heap.size kv1 vv1 es) := K6 _ _ _ _ K5H.out
        clear S6 K6 K5H hD hpb
        go_wp2_with fail
        refine hG.mono ?_
        rintro r w7 ⟨rfl, S7, K7⟩
        have S8H : Hid (Sg w w1.heap.size es w7) := S7
        have K7H : Hid (KV w7 w.heap.size kv1 vv1 es) := K7 _ _ _ _ K6H.out
        clear S7 K7 K6H hG
        go_wp2_with fail
        refine (ranged_sg S8H.out 4 _ (-1) (by omega)).mono ?_
        rintro r w9 ⟨kv2, vv2, rfl, K9, S9, KK⟩
        rw [pick_all, most_all] at K9
        have KA : Hid (KV w9 w.heap.size kv2 vv2 es ∧ KV w9 w.heap.size kv1 vv1 es ∧ Below w.heap.size w w9) := ⟨K9, KK _ _ _ _ K7H.out, S9.b⟩
        clear K9 S9 KK K7H S8H
        go_wp2_with fail
        refine (alike_any KA.out.1 KA.out.2.1 (most_all es).symm (by omega)).mono ?_
        rintro r w10 ⟨rfl, hB10⟩
        go_wp2_with fail
        go_ret
        exact ⟨rfl, KA.out.2.2.trans (hB10.mono KA.out.2.2.size)⟩

set_option maxRecDepth 100000 in
theorem lifted (os : Os) (started : os.Started) (H : Type) (enc : TypeId × Value → H) :
    ReturnsInHanded {} Try.checked os 3 .any (Rows.sortedForgetsSpec.pre6 enc Try.prog Try.f3 Rows.sortedForgetsRow.domain false) (Rows.sortedForgetsSpec.post enc Try.prog Try.f3 false true false false) := by
  refine returnsInHanded_of_change_sized (C := Try.checked) own started (by kernel_rfl) Try.func3
    (ChangeSpec.witness6 (enc := enc) (C := Try.checked) false ⟨#[], #[.slice none 0 0, .string .empty, .int .i64 0], []⟩ 8 (by kernel_rfl) (by kernel_rfl) (by kernel_rfl) (by kernel_rfl)) ?_
  intro W base args ds gs before hval0 hW hcnd hsz0 _
  have hval : ∀ (j : Nat) t v, Try.f3.params[j]? = some t → args[j]? = some v → Value.okWide Try.prog W .any base t v := hval0
  have hsz : (DataW.weightsEach Try.prog (Try.f3.params.toList ++ Rows.sortedForgetsSpec.plain.varTypes Try.prog) (ds ++ gs)).all (· ≤ reachBytes) = true := hsz0
  have hW' := hW
  obtain ⟨p, q, hA0, hV, rfl, hfz, hnd⟩ := hW
  have hA : DataW.TrodAll enc Try.prog W 0 (fun _ => true) true Try.f3.params.toList args.toList ds p := hA0
  rw [Try.params3] at hA hval hsz
  obtain ⟨v0, vs0, d0, ds0, p0, q0, hargs, rfl, rfl, h0, r0⟩ := trodAll_cons hA
  obtain ⟨v1, vs1, d1, ds1, p1, q1, rfl, rfl, rfl, h1, r1⟩ := trodAll_cons r0
  obtain ⟨v2, vs2, d2, ds2, p2, q2, rfl, rfl, rfl, h2, r2⟩ := trodAll_cons r1
  obtain ⟨rfl, rfl, rfl⟩ := trodAll_nil r2
  obtain rfl : args = #[v0, v1, v2] := by cases args; simp_all
  obtain ⟨rfl, rfl⟩ := trodVars_none hV
  obtain ⟨a1, rfl, rfl, rfl, w1⟩ := open_string Try.underlying9 (hval 1 9 v1 rfl rfl) h1
  obtain ⟨a2, rfl, rfl, rfl, w2⟩ := open_int Try.underlying3 (hval 2 3 v2 rfl rfl) h2
  have k0 := h0
  have lt0 : ∀ x ∈ p0, x.block < W.heap.size := by obtain ⟨m, hm⟩ := k0; exact DataW.trod_lt m _ _ _ hm
  obtain ⟨qs, hqs, hq⟩ := openActs (hval 0 22 v0 rfl rfl) h0
  obtain ⟨hql, hqk⟩ := hq (by
    have h := hsz
    simp only [List.cons_append, DataW.weightsEach, List.all_append, Bool.and_eq_true] at h
    exact h.1)
  clear hA0 hval0
  refine (walk v0 qs a1 a2 hql hqk W hqs).mono fun e W' ⟨he, bel⟩ => ?_
  subst he
  exact ⟨_, rfl, _, _, _, [], _, [], hW', trodAll_mk1 (shut_bool Try.underlying4 _), (trodAll_cons_mk (Below.trod laidOut (by kernel_rfl) (of_decide_eq_true (by kernel_rfl)) k0 bel lt0) (trodAll_cons_mk (shut_string Try.underlying9 w1) (trodAll_cons_mk (shut_int Try.underlying3 w2) trodAll_mk0))), rfl, bel.frame _, fun h => by cases h⟩

theorem proved : Rows.SortedForgetsSaid :=
  OpenClaim.holds_of_wide 3 Try.f3 rfl rfl rfl rfl rfl rfl rfl ⟨rfl, rfl, rfl, rfl, rfl⟩ rfl rfl rfl rfl rfl (by kernel_rfl) Try.func3 (by kernel_rfl)
    (of_decide_eq_true (by kernel_rfl)) (by unfold Func.isWrapper; first | (rw [if_pos (by decide +kernel)]; kernel_rfl) | (rw [if_neg (by decide +kernel)]; exact ⟨rfl, rfl⟩))
    (fun os started H enc _ => lifted os started H enc)
end Go.Proofs.Ytkohcdefhaokiab.sortedForgets

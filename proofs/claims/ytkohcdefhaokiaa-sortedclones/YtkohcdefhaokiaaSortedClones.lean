/-
  Proved: SortedClones answers true, and changes nothing that was there before the call, for every input: a map and its clone have the same, and neither sees what becomes of the other.
-/
import Derived.Test.YtkohcdefhaokiaaSClone
import Derived.Test.YtkohcdefhaokiaaSActs
import Derived.ProofKit
import Derived.OpenShut
import Derived.ShutString
import Derived.SizedLaws
namespace Go.Proofs.Ytkohcdefhaokiaa.sortedClones
open Go.ChangeShapes Go.WideShapes Go.ChangeAt Go.RowKit Go.Shelf Go.Lib Go.Sort
open Go.ChangeMaps (open_string shut_string)

theorem kz : (⟨#[]⟩ : ByteArray).size < 4611686018427387904 := by decide

set_option maxHeartbeats 8000000 in
set_option maxRecDepth 100000 in
theorem walk (va vb : Value) (q p : List (Int × ByteArray × Int)) (hql : q.length ≤ 4398046510976) (hqs : ∀ (j : Nat) (t : Int × ByteArray × Int), q[j]? = some t → t.2.1.size < 4611686018427387904) (hpl : p.length ≤ 4398046510976) (hps : ∀ (j : Nat) (t : Int × ByteArray × Int), p[j]? = some t → t.2.1.size < 4611686018427387904) (w : World) (hs : Acts w va q) (ht : Acts w vb p) :
    Calls Try.prog 5 #[va, vb] w fun r w' => r = .returned (.bool true) ∧ Below w.heap.size w w' := by
  obtain ⟨a, cap, rfl, hs⟩ := hs
  obtain ⟨a2, cap2, rfl, ht⟩ := ht
  have HS : Hid (∀ (j : Nat) (t : Int × ByteArray × Int), q[j]? = some t → t.2.1.size < 4611686018427387904) := hqs
  have HT : Hid (∀ (j : Nat) (t : Int × ByteArray × Int), p[j]? = some t → t.2.1.size < 4611686018427387904) := hps
  have HH : Hid (p = [] ∨ ∃ b off, a2 = some ⟨b, off, none⟩ ∧ b < w.heap.size ∧ ∀ (j : Nat) (t : Int × ByteArray × Int), p[j]? = some t →
    w.cell? ⟨b, off + j * 3, none⟩ = some (.int .i64 t.1) ∧ w.cell? ⟨b, off + j * 3 + 1, none⟩ = some (.string t.2.1) ∧ w.cell? ⟨b, off + j * 3 + 2, none⟩ = some (.int .i64 t.2.2)) := ht
  clear hqs hps ht
  go_enter Try.func5, Try.ntmps5
  go_wp2_with fail
  refine (shown_any _).mono ?_
  rintro r w1 ⟨rfl, b1⟩
  go_wp2_with fail
  refine (New_any _).mono ?_
  rintro r w2 ⟨rfl, hM2, b2⟩
  have hs1 := b1.size
  have P0 := Pl.start hM2 (b1.trans (b2.mono hs1)) hs1
  have hl12 : w1.heap.size < w2.heap.size := hM2.lt
  clear hM2 b1 b2
  go_wp2_with fail
  go_loopw [8] (fun vi wr => ∃ (i : Nat) (es : List Ent), vi = .int .i64 i ∧ i ≤ q.length ∧ es.length ≤ i ∧ Pl w w1.heap.size w2.heap.size es wr) (fun vi _ => q.length - (intOf vi).toNat)
  case atStart => exact ⟨0, [], rfl, Nat.zero_le _, Nat.le_refl _, P0⟩
  case round =>
    obtain ⟨i, es, rfl, hi, hel, P⟩ := hrel
    clear P0
    by_cases hl : i < q.length
    · have hli : (i : Int) < (q.length : Int) := by omega
      rcases hs with hs | ⟨b, off, rfl, hlt, hc⟩
      · rw [hs] at hl; simp at hl
      obtain ⟨⟨kind, k, v⟩, ht⟩ : ∃ t, q[i]? = some t := ⟨_, List.getElem?_eq_getElem hl⟩
      obtain ⟨c0, c1, c2⟩ := hc i _ ht
      have hkz := HS.out i _ ht
      have bel := P.b
      have m0 := (bel.cell (p := ⟨b, off + i * 3, none⟩) hlt).trans c0
      have m1 := (bel.cell (p := ⟨b, off + i * 3 + 1, none⟩) hlt).trans c1
      have m2 := (bel.cell (p := ⟨b, off + i * 3 + 2, none⟩) hlt).trans c2
      have PH : Hid (Pl w w1.heap.size w2.heap.size es wr) := P
      clear c0 c1 c2 hc ht P bel HS
      dsimp only at m0 m1 m2 hkz
      go_wp2_with fail
      refine (does_pl PH.out kind k v (by omega) (by omega)).mono ?_
      rintro r w4 ⟨rfl, P4⟩
      have hal := act_len kind k v es
      generalize act kind k v es = es4 at *
      have P4H : Hid (Pl w w1.heap.size w2.heap.size es4 w4) := P4
      clear PH m0 m1 m2 P4
      go_wp2_with fail
      go_roundw
      case rel => exact ⟨i + 1, es4, by simp, by omega, by omega, P4H.out⟩
      case measure => simp [intOf]; omega
    · have hli : ¬ (i : Int) < (q.length : Int) := by omega
      have PH : Hid (Pl w w1.heap.size w2.heap.size es wr) := P
      clear P hs HS
      go_wp2_with fail
      refine (rAll_pl PH.out _ kz (by omega)).mono ?_
      rintro r w3 ⟨ka, va, rfl, K3, P3⟩
      have P3H : Hid (Pl w w1.heap.size w2.heap.size es w3) := P3
      have K3H : Hid (KV w3 w.heap.size ka va es) := K3
      clear P3 K3 PH
      go_wp2_with fail
      refine (clone_tw P3H.out (by omega)).mono ?_
      rintro r w4 ⟨nb, rfl, T4, K4⟩
      have T4H : Hid (Tw w w1.heap.size w2.heap.size nb es es w4 ∧ KV w4 w.heap.size ka va es) := ⟨T4, K4 _ _ _ _ K3H.out⟩
      clear T4 K4 K3H P3H
      go_wp2_with fail
      refine (rangedN T4H.out.1 4 _ (-1) (by omega)).mono ?_
      rintro r w5 ⟨kc, vc, rfl, K5, T5, KK⟩
      rw [pick_all, most_all] at K5
      have T5H : Hid (Tw w w1.heap.size w2.heap.size nb es es w5 ∧ KV w5 w.heap.size ka va es ∧ KV w5 w.heap.size kc vc es) := ⟨T5, KK _ _ _ _ T4H.out.2, K5⟩
      clear T5 K5 KK T4H
      go_wp2_with fail
      refine (alike_any T5H.out.2.2 T5H.out.2.1 (most_all es).symm (by omega)).mono ?_
      rintro r w6 ⟨rfl, B6⟩
      have T6 : Tw w w1.heap.size w2.heap.size nb es es w6 ∧ KV w6 w.heap.size ka va es := ⟨T5H.out.1.below B6, T5H.out.2.1.below B6⟩
      clear T5H B6
      go_wp2_with fail
      go_loopw [15] (fun vi wr => ∃ (i : Nat) (es2 : List Ent), vi = .int .i64 i ∧ i ≤ p.length ∧ es2.length ≤ q.length + i ∧ Tw w w1.heap.size w2.heap.size nb es2 es wr ∧ KV wr w.heap.size ka va es) (fun vi _ => p.length - (intOf vi).toNat)
      case atStart => exact ⟨0, es, rfl, Nat.zero_le _, by omega, T6.1, T6.2⟩
      case round =>
        obtain ⟨j, es2, rfl, hj, hel2, T, K⟩ := hrel
        clear T6
        by_cases hl2 : j < p.length
        · have hlj : (j : Int) < (p.length : Int) := by omega
          rcases HH.out with hs | ⟨b, off, rfl, hlt, hc⟩
          · rw [hs] at hl2; simp at hl2
          obtain ⟨⟨kind, k, v⟩, ht⟩ : ∃ t, p[j]? = some t := ⟨_, List.getElem?_eq_getElem hl2⟩
          obtain ⟨c0, c1, c2⟩ := hc j _ ht
          have hkz := HT.out j _ ht
          have bel := T.b
          have m0 := (bel.cell (p := ⟨b, off + j * 3, none⟩) hlt).trans c0
          have m1 := (bel.cell (p := ⟨b, off + j * 3 + 1, none⟩) hlt).trans c1
          have m2 := (bel.cell (p := ⟨b, off + j * 3 + 2, none⟩) hlt).trans c2
          have TH : Hid (Tw w w1.heap.size w2.heap.size nb es2 es wr ∧ KV wr w.heap.size ka va es) := ⟨T, K⟩
          clear c0 c1 c2 hc ht T K bel HT HH
          dsimp only at m0 m1 m2 hkz
          go_wp2_with fail
          refine (does_tw TH.out.1 kind k v (by omega) (by omega)).mono ?_
          rintro r w7 ⟨rfl, T7, K7⟩
          have hal := act_len kind k v es2
          generalize act kind k v es2 = es4 at *
          have T7H : Hid (Tw w w1.heap.size w2.heap.size nb es4 es w7 ∧ KV w7 w.heap.size ka va es) := ⟨T7, K7 _ _ _ _ TH.out.2⟩
          clear TH m0 m1 m2 T7 K7
          go_wp2_with fail
          go_roundw
          case rel => exact ⟨j + 1, es4, by simp, by omega, by omega, T7H.out.1, T7H.out.2⟩
          case measure => simp [intOf]; omega
        · have hlj : ¬ (j : Int) < (p.length : Int) := by omega
          have TH : Hid (Tw w w1.heap.size w2.heap.size nb es2 es wr ∧ KV wr w.heap.size ka va es) := ⟨T, K⟩
          clear T K HT HH
          go_wp2_with fail
          refine (rangedN TH.out.1 4 _ (-1) (by omega)).mono ?_
          rintro r w5 ⟨kc2, vc2, rfl, K5, T5, KK⟩
          rw [pick_all, most_all] at K5
          have T5H : Hid (Tw w w1.heap.size w2.heap.size nb es2 es w5 ∧ KV w5 w.heap.size ka va es ∧ KV w5 w.heap.size kc2 vc2 es) := ⟨T5, KK _ _ _ _ TH.out.2, K5⟩
          clear T5 K5 KK TH
          go_wp2_with fail
          refine (alike_any T5H.out.2.2 T5H.out.2.1 (most_all es).symm (by omega)).mono ?_
          rintro r w6 ⟨rfl, B6⟩
          have T6H : Hid (Tw w w1.heap.size w2.heap.size nb es2 es w6) := T5H.out.1.below B6
          clear T5H B6
          go_wp2_with fail
          refine (putN T6H.out _ 77 (by omega)).mono ?_
          rintro r w7 ⟨rfl, T7, -⟩
          have hpl2 := put_len es ⟨#[]⟩ (77 : Int)
          have hple : (put es ⟨#[]⟩ 77).length ≤ es.length + 1 := by split at hpl2 <;> omega
          generalize put es ⟨#[]⟩ 77 = es7 at *
          have T7H : Hid (Tw w w1.heap.size w2.heap.size nb es2 es7 w7) := T7
          clear T7 T6H hpl2
          generalize val es ⟨#[]⟩ = v7
          generalize has es ⟨#[]⟩ = h7
          go_wp2_with fail
          refine (delN T7H.out _ (by omega)).mono ?_
          rintro r w8 ⟨rfl, T8, -⟩
          have T8H : Hid (Tw w w1.heap.size w2.heap.size nb es2 (del es7 ⟨#[97]⟩) w8) := T8
          clear T8 T7H
          go_wp2_with fail
          refine (rAll_tw T8H.out _ kz (by omega)).mono ?_
          rintro r w9 ⟨ke, ve, rfl, K9, T9, -⟩
          have T9H : Hid (Tw w w1.heap.size w2.heap.size nb es2 (del es7 ⟨#[97]⟩) w9 ∧ KV w9 w.heap.size ke ve es2) := ⟨T9, K9⟩
          clear K9 T9 T8H
          go_wp2_with fail
          refine (rangedM T9H.out.1 4 _ (-1) (by omega)).mono ?_
          rintro r w10 ⟨kf, vf, rfl, K10, B10, KK⟩
          rw [pick_all, most_all] at K10
          have KA : Hid (KV w10 w.heap.size kf vf es2 ∧ KV w10 w.heap.size ke ve es2 ∧ Below w.heap.size w w10) := ⟨K10, KK _ _ _ _ T9H.out.2, B10⟩
          clear K10 B10 KK T9H
          go_wp2_with fail
          refine (alike_any KA.out.1 KA.out.2.1 (most_all es2).symm (by omega)).mono ?_
          rintro r w11 ⟨rfl, B11⟩
          go_wp2_with fail
          go_ret
          exact ⟨rfl, KA.out.2.2.trans (B11.mono KA.out.2.2.size)⟩

set_option maxRecDepth 100000 in
theorem lifted (os : Os) (started : os.Started) (H : Type) (enc : TypeId × Value → H) :
    ReturnsInHanded {} Try.checked os 5 .any (Rows.sortedClonesSpec.pre6 enc Try.prog Try.f5 Rows.sortedClonesRow.domain false) (Rows.sortedClonesSpec.post enc Try.prog Try.f5 false true false false) := by
  refine returnsInHanded_of_change_sized (C := Try.checked) own started (by kernel_rfl) Try.func5
    (ChangeSpec.witness6 (enc := enc) (C := Try.checked) false ⟨#[], #[.slice none 0 0, .slice none 0 0], []⟩ 8 (by kernel_rfl) (by kernel_rfl) (by kernel_rfl) (by kernel_rfl)) ?_
  intro W base args ds gs before hval0 hW hcnd hsz0 _
  have hval : ∀ (j : Nat) t v, Try.f5.params[j]? = some t → args[j]? = some v → Value.okWide Try.prog W .any base t v := hval0
  have hsz : (DataW.weightsEach Try.prog (Try.f5.params.toList ++ Rows.sortedClonesSpec.plain.varTypes Try.prog) (ds ++ gs)).all (· ≤ reachBytes) = true := hsz0
  have hW' := hW
  obtain ⟨p, q, hA0, hV, rfl, hfz, hnd⟩ := hW
  have hA : DataW.TrodAll enc Try.prog W 0 (fun _ => true) true Try.f5.params.toList args.toList ds p := hA0
  rw [Try.params5] at hA hval hsz
  obtain ⟨v0, vs0, d0, ds0, p0, q0, hargs, rfl, rfl, h0, r0⟩ := trodAll_cons hA
  obtain ⟨v1, vs1, d1, ds1, p1, q1, rfl, rfl, rfl, h1, r1⟩ := trodAll_cons r0
  obtain ⟨rfl, rfl, rfl⟩ := trodAll_nil r1
  obtain rfl : args = #[v0, v1] := by cases args; simp_all
  obtain ⟨rfl, rfl⟩ := trodVars_none hV
  have k0 := h0
  have k1 := h1
  have lt0 : ∀ x ∈ p0, x.block < W.heap.size := by obtain ⟨m, hm⟩ := k0; exact DataW.trod_lt m _ _ _ hm
  have lt1 : ∀ x ∈ p1, x.block < W.heap.size := by obtain ⟨m, hm⟩ := k1; exact DataW.trod_lt m _ _ _ hm
  obtain ⟨qs, hqs, hq⟩ := openActs (hval 0 22 v0 rfl rfl) h0
  obtain ⟨ps, hps, hp⟩ := openActs (hval 1 22 v1 rfl rfl) h1
  have hsz2 := hsz
  simp only [List.cons_append, DataW.weightsEach, List.all_append, Bool.and_eq_true] at hsz2
  obtain ⟨hql, hqk⟩ := hq hsz2.1
  obtain ⟨hpl, hpk⟩ := hp hsz2.2.1
  clear hA0 hval0
  refine (walk v0 v1 qs ps hql hqk hpl hpk W hqs hps).mono fun e W' ⟨he, bel⟩ => ?_
  subst he
  exact ⟨_, rfl, _, _, _, [], _, [], hW', trodAll_mk1 (shut_bool Try.underlying4 _), (trodAll_cons_mk (Below.trod laidOut (by kernel_rfl) (of_decide_eq_true (by kernel_rfl)) k0 bel lt0) (trodAll_cons_mk (Below.trod laidOut (by kernel_rfl) (of_decide_eq_true (by kernel_rfl)) k1 bel lt1) trodAll_mk0)), rfl, bel.frame _, fun h => by cases h⟩

theorem proved : Rows.SortedClonesSaid :=
  OpenClaim.holds_of_wide 5 Try.f5 rfl rfl rfl rfl rfl rfl rfl ⟨rfl, rfl, rfl, rfl, rfl⟩ rfl rfl rfl rfl rfl (by kernel_rfl) Try.func5 (by kernel_rfl)
    (of_decide_eq_true (by kernel_rfl)) (by unfold Func.isWrapper; first | (rw [if_pos (by decide +kernel)]; kernel_rfl) | (rw [if_neg (by decide +kernel)]; exact ⟨rfl, rfl⟩))
    (fun os started H enc _ => lifted os started H enc)
end Go.Proofs.Ytkohcdefhaokiaa.sortedClones

/-
  Proved: SortedRanges answers true, and changes nothing that was there before the call, for every input: the ranges over a map fit one another.
-/
import Derived.Test.YtkohcdefhaokiaaSFit
import Derived.Test.YtkohcdefhaokiaaSActs
import Derived.ProofKit
import Derived.OpenShut
import Derived.ShutString
import Derived.SizedLaws
namespace Go.Proofs.Ytkohcdefhaokiaa.sortedRanges
open Go.ChangeShapes Go.WideShapes Go.ChangeAt Go.RowKit Go.Shelf Go.Lib Go.Sort
open Go.ChangeMaps (open_string shut_string)

set_option maxHeartbeats 8000000 in
set_option maxRecDepth 100000 in
theorem walk (va : Value) (q : List (Int × ByteArray × Int)) (k0 : ByteArray) (hk0 : k0.size < 4611686018427387904) (hql : q.length ≤ 4398046510976) (hqs : ∀ (j : Nat) (t : Int × ByteArray × Int), q[j]? = some t → t.2.1.size < 4611686018427387904) (w : World) (hs : Acts w va q) :
    Calls Try.prog 8 #[va, .string k0] w fun r w' => r = .returned (.bool true) ∧ Below w.heap.size w w' := by
  obtain ⟨a, cap, rfl, hs⟩ := hs
  have HS : Hid (∀ (j : Nat) (t : Int × ByteArray × Int), q[j]? = some t → t.2.1.size < 4611686018427387904) := hqs
  clear hqs
  go_enter Try.func8, Try.ntmps8
  go_wp2_with fail
  refine (shown_any _).mono ?_
  rintro r w1 ⟨rfl, b1⟩
  go_wp2_with fail
  refine (New_any _).mono ?_
  rintro r w2 ⟨rfl, hM2, b2⟩
  have hs1 := b1.size
  have P0 := Pl.start hM2 (b1.trans (b2.mono hs1)) hs1
  have hl12 : w1.heap.size < w2.heap.size := hM2.lt
  clear hM2 b1 b2
  go_wp2_with fail
  go_loopw [8] (fun vi wr => ∃ (i : Nat) (es : List Ent), vi = .int .i64 i ∧ i ≤ q.length ∧ es.length ≤ i ∧ Pl w w1.heap.size w2.heap.size es wr) (fun vi _ => q.length - (intOf vi).toNat)
  case atStart => exact ⟨0, [], rfl, Nat.zero_le _, Nat.le_refl _, P0⟩
  case round =>
    obtain ⟨i, es, rfl, hi, hel, P⟩ := hrel
    clear P0
    by_cases hl : i < q.length
    · have hli : (i : Int) < (q.length : Int) := by omega
      rcases hs with hs | ⟨b, off, rfl, hlt, hc⟩
      · rw [hs] at hl; simp at hl
      obtain ⟨⟨kind, k, v⟩, ht⟩ : ∃ t, q[i]? = some t := ⟨_, List.getElem?_eq_getElem hl⟩
      obtain ⟨c0, c1, c2⟩ := hc i _ ht
      have hkz := HS.out i _ ht
      have bel := P.b
      have m0 := (bel.cell (p := ⟨b, off + i * 3, none⟩) hlt).trans c0
      have m1 := (bel.cell (p := ⟨b, off + i * 3 + 1, none⟩) hlt).trans c1
      have m2 := (bel.cell (p := ⟨b, off + i * 3 + 2, none⟩) hlt).trans c2
      have PH : Hid (Pl w w1.heap.size w2.heap.size es wr) := P
      clear c0 c1 c2 hc ht P bel HS
      dsimp only at m0 m1 m2 hkz
      go_wp2_with fail
      refine (does_pl PH.out kind k v (by omega) (by omega)).mono ?_
      rintro r w4 ⟨rfl, P4⟩
      have hal := act_len kind k v es
      generalize act kind k v es = es4 at *
      have P4H : Hid (Pl w w1.heap.size w2.heap.size es4 w4) := P4
      clear PH m0 m1 m2 P4
      go_wp2_with fail
      go_roundw
      case rel => exact ⟨i + 1, es4, by simp, by omega, by omega, P4H.out⟩
      case measure => simp [intOf]; omega
    · have hli : ¬ (i : Int) < (q.length : Int) := by omega
      have PH : Hid (Pl w w1.heap.size w2.heap.size es wr) := P
      clear P hs HS
      have heq : es.length ≤ 4398046510976 := by omega
      go_wp2_with fail
      clear hli hl hi hel
      refine (ranged_pl PH.out 4 _ (-1) (by omega)).mono ?_
      rintro r w4 ⟨kv1, vv1, rfl, K4, P4, -, -⟩
      rw [pick_all, most_all] at K4
      have P4H : Hid (Pl w w1.heap.size w2.heap.size es w4 ∧ KV w4 w.heap.size kv1 vv1 es) := ⟨P4, K4⟩
      clear P4 K4 PH
      go_wp2_with fail
      refine (ranged_pl P4H.out.1 6 _ (-1) (by omega)).mono ?_
      rintro r w5 ⟨kv2, vv2, rfl, K5, P5, KK, -⟩
      rw [pick_rev, most_all] at K5
      have K5' := KK _ _ _ _ P4H.out.2
      obtain ⟨aa, ac, rfl, -⟩ := row_slice K5'.1
      obtain ⟨ba, bc, rfl, -⟩ := row_slice K5'.2
      obtain ⟨ca, cc, rfl, -⟩ := row_slice K5.1
      obtain ⟨da, dc, rfl, -⟩ := row_slice K5.2
      rw [List.length_reverse] at K5 ⊢
      have P5H : Hid (Pl w w1.heap.size w2.heap.size es w5 ∧ KV w5 w.heap.size (.slice aa es.length ac) (.slice ba es.length bc) es ∧ KV w5 w.heap.size (.slice ca es.length cc) (.slice da es.length dc) es.reverse) := ⟨P5, K5', K5⟩
      obtain ⟨sv, sq, kr, vr, J5, -⟩ := P5
      have hLen := Len_any J5.m
      have hsr := P5H.out.1.short
      have HSR : Hid (Short es ∧ Rise es) := hsr
      obtain ⟨i0, hi0, hz0, hz1, hz2⟩ := info_parts infoStr
      clear K5 K5' KK P4H J5 hsr
      go_wp2_with fail
      refine hLen.mono ?_
      rintro r w6 ⟨rfl, rfl⟩
      clear hLen
      go_wp2_with fail
      go_loopw [13, 14, 15] (fun v13 v14 vi wr => ∃ (i : Nat) (pk pu : List Ent), vi = .int .i64 i ∧ i ≤ es.length ∧ Hid (pk = (es.take i).filter (fun e => !lt e.1 k0) ∧ pu = (es.take i).filter (fun e => bg e.1 k0)) ∧ N2 w6 v13 v14 pk pu wr) (fun _ _ vi _ => es.length - (intOf vi).toNat)
      case atStart => exact ⟨0, [], [], rfl, Nat.zero_le _, ⟨by simp, by simp⟩, N2.start _⟩
      case round =>
        obtain ⟨i, pk, pu, rfl, hi, hpre, N0⟩ := hrel
        obtain ⟨a1, d1, rfl, -⟩ := row_slice N0.k
        obtain ⟨a2, d2, rfl, -⟩ := row_slice N0.u
        by_cases hl : i < es.length
        · have hli : (i : Int) < (es.length : Int) := by omega
          have hpl : pk.length ≤ i ∧ pu.length ≤ i := by
            rw [hpre.out.1, hpre.out.2]
            exact ⟨Nat.le_trans (List.length_filter_le ..) (by rw [List.length_take]; omega), Nat.le_trans (List.length_filter_le ..) (by rw [List.length_take]; omega)⟩
          obtain ⟨hpl1, hpl2⟩ := hpl
          obtain ⟨j, hj⟩ : ∃ j, j = es.length - 1 - i := ⟨_, rfl⟩
          have hji : (es.length : Int) - 1 - (i : Int) = (j : Int) := by omega
          have hjl : (j : Int) < (es.length : Int) := by omega
          obtain ⟨g1, g2, g3, g4, rfl, rfl, rfl, rfl, c1, c2, c3, c4⟩ := fit_cells P5H.out.2.1 P5H.out.2.2 N0.b hl hj
          have hsy := HSR.out.1 _ (List.getElem_mem hl)
          have ST : Hid ((es.take (i + 1)).filter (fun e => !lt e.1 k0) = pk ++ (if (!lt es[i].1 k0) = true then [es[i]] else []) ∧ (es.take (i + 1)).filter (fun e => bg e.1 k0) = pu ++ (if bg es[i].1 k0 = true then [es[i]] else [])) := by
            rw [hpre.out.1, hpre.out.2]; exact ⟨take_filter _ hl, take_filter _ hl⟩
          have CC : Hid (∀ W, Below w6.heap.size w6 W → W.cell? ⟨g1, i, none⟩ = some (.string es[i].1)) := fun W hW => by
            obtain ⟨x1, x2, x3, x4, e1, -, -, -, f1, -⟩ := fit_cells P5H.out.2.1 P5H.out.2.2 hW hl hj
            cases e1; exact f1
          have N : Hid _ := N0
          clear hpre hj N0 P5H HSR
          generalize es[i] = x at *
          obtain ⟨y, z⟩ := x
          dsimp only at c1 c2 c3 c4 hsy
          go_wp2_with fail
          go_quiet (fail)
          have hL := Less_any y k0 hsy hk0
          have hBg := Begins_any y k0
          clear c2 c3 c4
          have N1 : Hid (N2 w6 (.slice a1 pk.length d1) (.slice a2 pu.length d2) pk pu (wr.drewN nq)) := N.out.drewN nq
          clear N
          have c1 := CC.out _ N1.out.b
          cases hlt : lt y k0 with
          | true =>
            rw [hlt] at hL
            cases hbg : bg y k0 with
            | true =>
              rw [hbg] at hBg
              go_wp2_with (first
                | (go_at_call 23; refine (hL _).mono ?_; rintro e w7 ⟨rfl, hB7⟩; have N3 : Hid (N2 w6 (.slice a1 pk.length d1) (.slice a2 pu.length d2) pk pu w7) := N1.out.below hB7; clear c1; have c1 := CC.out _ N3.out.b)
                | (go_at_call 29; refine (hBg _).mono ?_; rintro e w8 ⟨rfl, rfl⟩)
                | (at_builtin; refine wpList_append_own_at _ rfl _ _ 27 rfl w6.heap.size 9 i0 _ 1 16 Try.underlying27 hi0 hz0 hz1 hz2 rfl (by decide) _ pu.length (kcells pu) rfl (N3.out.alloc _).u ⟨w8.heap.size, 0, none⟩ 1 1 [.string y] rfl rfl (new_one _ _ rfl _ _) (by simp [Value.oneCell']) (by unfold maxLen; omega) (by omega) ((N3.out.alloc _).b.size) ?_; intro v6 wA ho6 hg6 hn6 hat6; clear hn6; have ho6' := ho6; obtain ⟨a6, c6, rfl, -⟩ := row_slice ho6'; have N5 : Hid (N2 w6 (.slice a1 pk.length d1) (.slice a6 (pu.length + 1) c6) pk (pu ++ [(y, z)]) wA) := (N3.out.alloc _).appU (y, z) ho6 hg6 hat6; clear ho6 hg6 ho6' hat6))
              go_roundw
              case rel => exact ⟨i + 1, _, _, by simp, by omega, by have := ST.out; simp [hlt, hbg] at this; exact ⟨this.1.symm, this.2.symm⟩, N5.out⟩
              case measure => simp [intOf]; omega
            | false =>
              rw [hbg] at hBg
              go_wp2_with (first
                | (go_at_call 23; refine (hL _).mono ?_; rintro e w7 ⟨rfl, hB7⟩; have N3 : Hid (N2 w6 (.slice a1 pk.length d1) (.slice a2 pu.length d2) pk pu w7) := N1.out.below hB7; clear c1; have c1 := CC.out _ N3.out.b)
                | (go_at_call 29; refine (hBg _).mono ?_; rintro e w8 ⟨rfl, rfl⟩))
              go_roundw
              case rel => exact ⟨i + 1, _, _, by simp, by omega, by have := ST.out; simp [hlt, hbg] at this; exact ⟨this.1.symm, this.2.symm⟩, N3.out⟩
              case measure => simp [intOf]; omega
          | false =>
            rw [hlt] at hL
            cases hbg : bg y k0 with
            | true =>
              rw [hbg] at hBg
              go_wp2_with (first
                | (go_at_call 23; refine (hL _).mono ?_; rintro e w7 ⟨rfl, hB7⟩; have N3 : Hid (N2 w6 (.slice a1 pk.length d1) (.slice a2 pu.length d2) pk pu w7) := N1.out.below hB7; clear c1; have c1 := CC.out _ N3.out.b)
                | (go_at_call 29; refine (hBg _).mono ?_; rintro e w8 ⟨rfl, rfl⟩)
                | (at_builtin; refine wpList_append_own_at _ rfl _ _ 27 rfl w6.heap.size 9 i0 _ 1 16 Try.underlying27 hi0 hz0 hz1 hz2 rfl (by decide) _ pk.length (kcells pk) rfl (N3.out.alloc _).k ⟨w8.heap.size, 0, none⟩ 1 1 [.string y] rfl rfl (new_one _ _ rfl _ _) (by simp [Value.oneCell']) (by unfold maxLen; omega) (by omega) ((N3.out.alloc _).b.size) ?_; intro v5 w9 ho5 hg5 hn5 hat5; clear hn5; have ho5' := ho5; obtain ⟨a5, c5, rfl, -⟩ := row_slice ho5'; have N4 : Hid (N2 w6 (.slice a5 (pk.length + 1) c5) (.slice a2 pu.length d2) (pk ++ [(y, z)]) pu w9) := (N3.out.alloc _).appK (y, z) ho5 hg5 hat5; clear ho5 hg5 ho5' hat5 c1; have c1 := CC.out _ N4.out.b)
                | (at_builtin; refine wpList_append_own_at _ rfl _ _ 27 rfl w6.heap.size 9 i0 _ 1 16 Try.underlying27 hi0 hz0 hz1 hz2 rfl (by decide) _ pu.length (kcells pu) rfl (N4.out.alloc _).u ⟨w9.heap.size, 0, none⟩ 1 1 [.string y] rfl rfl (new_one _ _ rfl _ _) (by simp [Value.oneCell']) (by unfold maxLen; omega) (by omega) ((N4.out.alloc _).b.size) ?_; intro v6 wA ho6 hg6 hn6 hat6; clear hn6; have ho6' := ho6; obtain ⟨a6, c6, rfl, -⟩ := row_slice ho6'; have N5 : Hid (N2 w6 (.slice a5 (pk.length + 1) c5) (.slice a6 (pu.length + 1) c6) (pk ++ [(y, z)]) (pu ++ [(y, z)]) wA) := (N4.out.alloc _).appU (y, z) ho6 hg6 hat6; clear ho6 hg6 ho6' hat6))
              go_roundw
              case rel => exact ⟨i + 1, _, _, by simp, by omega, by have := ST.out; simp [hlt, hbg] at this; exact ⟨this.1.symm, this.2.symm⟩, N5.out⟩
              case measure => simp [intOf]; omega
            | false =>
              rw [hbg] at hBg
              go_wp2_with (first
                | (go_at_call 23; refine (hL _).mono ?_; rintro e w7 ⟨rfl, hB7⟩; have N3 : Hid (N2 w6 (.slice a1 pk.length d1) (.slice a2 pu.length d2) pk pu w7) := N1.out.below hB7; clear c1; have c1 := CC.out _ N3.out.b)
                | (go_at_call 29; refine (hBg _).mono ?_; rintro e w8 ⟨rfl, rfl⟩)
                | (at_builtin; refine wpList_append_own_at _ rfl _ _ 27 rfl w6.heap.size 9 i0 _ 1 16 Try.underlying27 hi0 hz0 hz1 hz2 rfl (by decide) _ pk.length (kcells pk) rfl (N3.out.alloc _).k ⟨w8.heap.size, 0, none⟩ 1 1 [.string y] rfl rfl (new_one _ _ rfl _ _) (by simp [Value.oneCell']) (by unfold maxLen; omega) (by omega) ((N3.out.alloc _).b.size) ?_; intro v5 w9 ho5 hg5 hn5 hat5; clear hn5; have ho5' := ho5; obtain ⟨a5, c5, rfl, -⟩ := row_slice ho5'; have N4 : Hid (N2 w6 (.slice a5 (pk.length + 1) c5) (.slice a2 pu.length d2) (pk ++ [(y, z)]) pu w9) := (N3.out.alloc _).appK (y, z) ho5 hg5 hat5; clear ho5 hg5 ho5' hat5 c1; have c1 := CC.out _ N4.out.b))
              go_roundw
              case rel => exact ⟨i + 1, _, _, by simp, by omega, by have := ST.out; simp [hlt, hbg] at this; exact ⟨this.1.symm, this.2.symm⟩, N4.out⟩
              case measure => simp [intOf]; omega
        · have hli : ¬ (i : Int) < (es.length : Int) := by omega
          have hp : pk = es.filter (fun e => !lt e.1 k0) ∧ pu = es.filter (fun e => bg e.1 k0) := by rw [hpre.out.1, hpre.out.2, List.take_of_length_le (by omega)]; exact ⟨rfl, rfl⟩
          have N : Hid (N2 w6 (.slice a1 pk.length d1) (.slice a2 pu.length d2) pk pu wr ∧ pk = pick 5 k0 es ∧ pu = pick 7 k0 es ∧ Pl w w1.heap.size w2.heap.size es wr) := ⟨N0, by rw [pick_from k0 HSR.out.2]; exact hp.1, by rw [pick_under k0 HSR.out.2]; exact hp.2, P5H.out.1.below N0.b⟩
          have hsz : w.heap.size ≤ w6.heap.size := P5H.out.1.b.size
          clear N0 hp hpre P5H HSR
          go_wp2_with fail
          refine (ranged_pl N.out.2.2.2 5 _ (-1) (by omega)).mono ?_
          rintro r w7 ⟨kv7, vv7, rfl, K7, P7, -, C7⟩
          rw [most_all] at K7
          have P7H : Hid (Pl w w1.heap.size w2.heap.size es w7 ∧ KV w7 w.heap.size kv7 vv7 (pick 5 k0 es) ∧ w7.ownsRow w.heap.size 9 1 (.slice a1 pk.length d1) pk.length (kcells pk) ∧ w7.ownsRow w.heap.size 9 1 (.slice a2 pu.length d2) pu.length (kcells pu)) := ⟨P7, K7, row_pl N.out.2.2.2 C7 (row_low N.out.1.k hsz), row_pl N.out.2.2.2 C7 (row_low N.out.1.u hsz)⟩
          have NE : Hid (pk = pick 5 k0 es ∧ pu = pick 7 k0 es) := ⟨N.out.2.1, N.out.2.2.1⟩
          clear P7 K7 C7 N
          go_wp2_with fail
          refine (ranged_pl P7H.out.1 7 _ (-1) (by omega)).mono ?_
          rintro r w8 ⟨kv8, vv8, rfl, K8, P8, KK, C8⟩
          rw [most_all] at K8
          have K8H : Hid (Pl w w1.heap.size w2.heap.size es w8 ∧ KV w8 w.heap.size kv7 vv7 (pick 5 k0 es) ∧ KV w8 w.heap.size (.slice a1 pk.length d1) vv7 (pick 5 k0 es) ∧ KV w8 w.heap.size kv8 vv8 (pick 7 k0 es) ∧ KV w8 w.heap.size (.slice a2 pu.length d2) vv8 (pick 7 k0 es)) := by
            have e7 := KK _ _ _ _ P7H.out.2.1
            have ef := row_pl P7H.out.1 C8 P7H.out.2.2.1
            have eu := row_pl P7H.out.1 C8 P7H.out.2.2.2
            rw [← NE.out.1, ← NE.out.2] at *
            exact ⟨P8, e7, ⟨ef, e7.2⟩, K8, ⟨eu, K8.2⟩⟩
          have hp5 := pick_len 5 k0 es
          have hp7 := pick_len 7 k0 es
          clear P8 K8 C8 KK P7H NE
          go_wp2_with fail
          refine (alike_any K8H.out.2.1 K8H.out.2.2.1 (most_all _).symm (by omega)).mono ?_
          rintro r w9 ⟨rfl, B9⟩
          have K9H : Hid (Below w.heap.size w w9 ∧ KV w9 w.heap.size kv8 vv8 (pick 7 k0 es) ∧ KV w9 w.heap.size (.slice a2 pu.length d2) vv8 (pick 7 k0 es)) := ⟨(K8H.out.1.below B9).b, K8H.out.2.2.2.1.below B9, K8H.out.2.2.2.2.below B9⟩
          clear K8H B9
          go_wp2_with fail
          refine (alike_any K9H.out.2.1 K9H.out.2.2 (most_all _).symm (by omega)).mono ?_
          rintro r w10 ⟨rfl, B10⟩
          go_wp2_with fail
          go_ret
          exact ⟨rfl, K9H.out.1.trans (B10.mono K9H.out.1.size)⟩

set_option maxRecDepth 100000 in
theorem lifted (os : Os) (started : os.Started) (H : Type) (enc : TypeId × Value → H) :
    ReturnsInHanded {} Try.checked os 8 .any (Rows.sortedRangesSpec.pre6 enc Try.prog Try.f8 Rows.sortedRangesRow.domain false) (Rows.sortedRangesSpec.post enc Try.prog Try.f8 false true false false) := by
  refine returnsInHanded_of_change_sized (C := Try.checked) own started (by kernel_rfl) Try.func8
    (ChangeSpec.witness6 (enc := enc) (C := Try.checked) false ⟨#[], #[.slice none 0 0, .string .empty], []⟩ 8 (by kernel_rfl) (by kernel_rfl) (by kernel_rfl) (by kernel_rfl)) ?_
  intro W base args ds gs before hval0 hW hcnd hsz0 _
  have hval : ∀ (j : Nat) t v, Try.f8.params[j]? = some t → args[j]? = some v → Value.okWide Try.prog W .any base t v := hval0
  have hsz : (DataW.weightsEach Try.prog (Try.f8.params.toList ++ Rows.sortedRangesSpec.plain.varTypes Try.prog) (ds ++ gs)).all (· ≤ reachBytes) = true := hsz0
  have hW' := hW
  obtain ⟨p, q, hA0, hV, rfl, hfz, hnd⟩ := hW
  have hA : DataW.TrodAll enc Try.prog W 0 (fun _ => true) true Try.f8.params.toList args.toList ds p := hA0
  rw [Try.params8] at hA hval hsz
  obtain ⟨v0, vs0, d0, ds0, p0, q0, hargs, rfl, rfl, h0, r0⟩ := trodAll_cons hA
  obtain ⟨v1, vs1, d1, ds1, p1, q1, rfl, rfl, rfl, h1, r1⟩ := trodAll_cons r0
  obtain ⟨rfl, rfl, rfl⟩ := trodAll_nil r1
  obtain rfl : args = #[v0, v1] := by cases args; simp_all
  obtain ⟨rfl, rfl⟩ := trodVars_none hV
  obtain ⟨a1, rfl, rfl, rfl, w1⟩ := open_string Try.underlying9 (hval 1 9 v1 rfl rfl) h1
  have k0 := h0
  have lt0 : ∀ x ∈ p0, x.block < W.heap.size := by obtain ⟨m, hm⟩ := k0; exact DataW.trod_lt m _ _ _ hm
  obtain ⟨qs, hqs, hq⟩ := openActs (hval 0 22 v0 rfl rfl) h0
  have hsz2 := hsz
  simp only [List.cons_append, DataW.weightsEach, List.all_append, Bool.and_eq_true] at hsz2
  obtain ⟨hql, hqk⟩ := hq hsz2.1
  have hk0 : a1.size < 4611686018427387904 := by
    have h := hsz2.2.1
    have e : a1.data.toList.length = a1.size := by simp
    have hr : reachBytes = 140737488351232 := rfl
    simp [DataW.weights, hr] at h
    omega
  clear hA0 hval0
  refine (walk v0 qs a1 hk0 hql hqk W hqs).mono fun e W' ⟨he, bel⟩ => ?_
  subst he
  exact ⟨_, rfl, _, _, _, [], _, [], hW', trodAll_mk1 (shut_bool Try.underlying4 _), (trodAll_cons_mk (Below.trod laidOut (by kernel_rfl) (of_decide_eq_true (by kernel_rfl)) k0 bel lt0) (trodAll_cons_mk (shut_string Try.underlying9 w1) trodAll_mk0)), rfl, bel.frame _, fun h => by cases h⟩

theorem proved : Rows.SortedRangesSaid :=
  OpenClaim.holds_of_wide 8 Try.f8 rfl rfl rfl rfl rfl rfl rfl ⟨rfl, rfl, rfl, rfl, rfl⟩ rfl rfl rfl rfl rfl (by kernel_rfl) Try.func8 (by kernel_rfl)
    (of_decide_eq_true (by kernel_rfl)) (by unfold Func.isWrapper; first | (rw [if_pos (by decide +kernel)]; kernel_rfl) | (rw [if_neg (by decide +kernel)]; exact ⟨rfl, rfl⟩))
    (fun os started H enc _ => lifted os started H enc)
end Go.Proofs.Ytkohcdefhaokiaa.sortedRanges

/-
  What is proved: whatever rows, n and most are, those of a range that are kept, and its first ones, are told in their order, and none besides (MergeKeeps answers true, and no argument is changed), for every input.
-/
import Derived.Test.YtlhijbgdccejbaaM3ArgW
import Derived.Test.YtlhijbgdccejbaaM3Shown
namespace Go.Proofs.Ytlhijbgdccejbaa.mergeKeeps
open Go.ChangeShapes Go.WideShapes Go.ChangeAt Go.RowKit
open Go.Shelf Go.Sort
open Go.Lib hiding intOf

theorem rw_nil (w : World) : Rw w (.slice none 0 0) [] := ⟨none, 0, rfl, .inl rfl⟩
theorem rw_take {w : World} {a : Option Addr} {l : List Ent} {cap : Nat} (h : Rw w (.slice a l.length cap) l) {n : Nat} (hn : n ≤ l.length) : Rw w (.slice a n cap) (l.take n) := by
  obtain ⟨a', cap', e, h⟩ := h
  cases e
  refine ⟨a, cap, by simp; omega, ?_⟩
  rcases h with h | ⟨b, off, e, hlt, hc⟩
  · left; rw [h]; simp
  · right
    refine ⟨b, off, e, hlt, fun j hj => ?_⟩
    simp at hj
    simpa using hc j (by omega)
theorem filter_take1 {l : List Ent} {i : Nat} (h : i < l.length) : (l.take (i + 1)).filter evn = if evn l[i] then (l.take i).filter evn ++ [l[i]] else (l.take i).filter evn := by
  rw [List.take_succ_eq_append_getElem h, List.filter_append]
  cases hb : evn l[i] <;> simp [hb]
theorem filter_len (l : List Ent) (i : Nat) : ((l.take i).filter evn).length ≤ i := by
  have := List.length_filter_le evn (l.take i)
  rw [List.length_take] at this
  omega

set_option maxRecDepth 100000 in
set_option maxHeartbeats 16000000 in
theorem walk (v0 : Value) (l : List Ent) (n m : Int) (hl24 : l.length * 24 ≤ 140737488351232) (hn : n ≤ 9223372036854775807) (w : World) (h0 : Rw w v0 l) (hcap : ∃ a cap, v0 = .slice a l.length cap ∧ l.length ≤ cap ∧ (a = none → cap = 0)) :
    Calls Try.prog 4 #[v0, .int .i64 n, .int .i64 m] w fun e w' => e = .returned (.bool true) ∧ Below w.heap.size w w' := by
  obtain ⟨i0, hi0, hz0, hz1, hz2⟩ := info_parts infoLRow
  have R0 : Hid (Rw w v0 l) := h0
  clear h0
  obtain ⟨a0, c0, rfl, hlc, -⟩ := hcap
  go_enter Try.func4, Try.ntmps4
  go_wp2_with fail
  refine (shown_any _).mono ?_
  rintro e w1 ⟨rfl, B1⟩
  have K1 : Hid (Below w.heap.size w w1) := B1
  clear B1
  go_wp2_with fail
  go_loopw [8, 9] (fun vk vi wr => ∃ i : Nat, vi = .int .i64 i ∧ i ≤ l.length ∧ wr.ownsRow w1.heap.size 32 2 vk ((l.take i).filter evn).length (flat ((l.take i).filter evn)) ∧ Below w1.heap.size w1 wr) (fun _ vi _ => l.length - (intOf vi).toNat)
  case atStart => exact ⟨0, rfl, Nat.zero_le _, World.ownsRow_nil _ _ _ _, Below.refl _ _⟩
  case round =>
    obtain ⟨i, rfl, hi, hO, hB⟩ := hrel
    obtain ⟨ka, kc, rfl, -, hkl, hkm⟩ := row_slice hO
    by_cases hl : i < l.length
    · have hli : (i : Int) < (l.length : Int) := by omega
      obtain ⟨b, off, rfl, hlt, hc⟩ : ∃ b off, a0 = some ⟨b, off, none⟩ ∧ b < w.heap.size ∧ ∀ (j : Nat) (h : j < l.length), w.cell? ⟨b, off + j * 2, none⟩ = some (.string l[j].1) ∧ w.cell? ⟨b, off + j * 2 + 1, none⟩ = some (.int .i64 l[j].2) := by
        obtain ⟨a', cap', e, h⟩ := R0.out
        cases e
        rcases h with h | h
        · rw [h] at hl; simp at hl
        · exact h
      have hBw := btr K1.out hB
      have m0 := (hBw.cell (p := ⟨b, off + i * 2, none⟩) hlt).trans (hc i hl).1
      have m1 := (hBw.cell (p := ⟨b, off + i * 2 + 1, none⟩) hlt).trans (hc i hl).2
      have hfl := filter_len l i
      have HF : Hid _ := filter_take1 hl
      have hsz := hB.size
      have HO : Hid (wr.ownsRow w1.heap.size 32 2 (.slice ka ((l.take i).filter evn).length kc) ((l.take i).filter evn).length (flat ((l.take i).filter evn)) ∧ Below w1.heap.size w1 wr) := ⟨hO, hB⟩
      clear hO hB hBw hc
      generalize l[i] = x at *
      generalize hke : (l.take i).filter evn = ks at *
      clear hke
      cases hev : evn x with
      | true =>
        have hev' : (x.2.tmod 2 == 0) = true := hev
        have hev2 : x.2.tmod 2 = 0 := by simpa using hev'
        go_wp2_with (first
          | (at_builtin; refine wpList_append_own _ rfl _ _ 29 rfl w1.heap.size 32 i0 _ 2 24 Try.underlying29 hi0 hz0 hz1 hz2 rfl (by decide) _ ks.length (flat ks) rfl (HO.out.1.alloc _) ⟨wr.heap.size, 0, none⟩ 1 1 [.string x.1, .int .i64 x.2] rfl rfl (fun j u hj => by rw [Addr.add_lit]; exact two_cells (heap_alloc_new wr _) j u hj) (by simp [Value.oneCell']) (by unfold maxLen; omega) (by omega) (by simp; omega) ?_; intro v5 w5 ho5 hg5 _; have H5 : Hid _ := And.intro ho5 hg5; obtain ⟨a5, c5, rfl, -⟩ := row_slice ho5; clear ho5 hg5))
        go_roundw
        case rel =>
          refine ⟨i + 1, by simp, by omega, ?_, (HO.out.2.alloc HO.out.2.size _).grown H5.out.2 (by simp; omega) (fun k hk => (HO.out.1.lt k hk).1)⟩
          rw [HF.out, hev, if_pos rfl, flat_append, List.length_append]
          exact H5.out.1
        case measure => simp [intOf]; omega
      | false =>
        have hev' : (x.2.tmod 2 == 0) = false := hev
        have hev2 : ¬ x.2.tmod 2 = 0 := by simpa using hev'
        go_wp2_with fail
        go_roundw
        case rel =>
          refine ⟨i + 1, by simp, by omega, ?_, HO.out.2⟩
          rw [HF.out, hev]
          simpa using HO.out.1
        case measure => simp [intOf]; omega
    · have hli : ¬ (i : Int) < (l.length : Int) := by omega
      obtain rfl : i = l.length := by omega
      rw [List.take_length] at hO hkl ⊢
      have hfl : (l.filter evn).length ≤ l.length := List.length_filter_le _ _
      have KK : Hid (Below w.heap.size w wr ∧ Rw wr (.slice ka (l.filter evn).length kc) (l.filter evn)) := ⟨btr K1.out hB, rw_of_row hO⟩
      clear hO hB K1
      have hnc : n < 1 ∨ (1 ≤ n ∧ n < (l.length : Int)) ∨ (1 ≤ n ∧ (l.length : Int) ≤ n) := by omega
      have hmc : m < 0 ∨ (0 ≤ m ∧ m < ((l.filter evn).length : Int)) ∨ (0 ≤ m ∧ ((l.filter evn).length : Int) ≤ m) := by omega
      obtain ⟨q, hq⟩ : ∃ q, q = l.take n.toNat := ⟨_, rfl⟩
      have hql : q.length ≤ l.length := by rw [hq, List.length_take]; omega
      have HQ : Hid _ := hq
      clear hq
      rcases hnc with hn1 | ⟨hn1, hn2⟩ | ⟨hn1, hn2⟩
      · have HH : Hid (Rw w (.slice none 0 0) q) := by rw [HQ.out, show n.toNat = 0 by omega]; exact rw_nil w
        go_wp2_with fail
        refine (over_f (R0.out.b KK.out.1) (by omega)).mono ?_
        rintro e w2 ⟨g2, b2, X2, rfl, S2, B2, -⟩
        have K2 : Hid (Below w.heap.size w w2 ∧ Rw w2 (.slice ka (l.filter evn).length kc) (l.filter evn) ∧ Sn w2 (.func (.func g2) #[] b2) l X2) := ⟨btr KK.out.1 B2, KK.out.2.b B2, S2⟩
        clear B2 S2
        go_wp2_with fail
        refine (Keep_f K2.out.2.2).mono ?_
        rintro e w3 ⟨g3, b3, X3, rfl, S3, B3⟩
        have K3 : Hid (Below w.heap.size w w3 ∧ Rw w3 (.slice ka (l.filter evn).length kc) (l.filter evn) ∧ Sn w3 (.func (.func g3) #[] b3) (l.filter evn) X3) := ⟨btr K2.out.1 B3, K2.out.2.1.b B3, S3⟩
        clear B3 S3 K2
        go_wp2_with fail
        refine (all_f K3.out.2.2 (by omega)).mono ?_
        rintro e w4 ⟨a4, c4, rfl, R4, B4⟩
        have K4 : Hid (Below w.heap.size w w4 ∧ Rw w4 (.slice ka (l.filter evn).length kc) (l.filter evn) ∧ Rw w4 (.slice a4 (l.filter evn).length c4) (l.filter evn)) := ⟨btr K3.out.1 B4, K3.out.2.1.b B4, R4⟩
        clear B4 R4 K3
        go_wp2_with fail
        refine (over_f (R0.out.b K4.out.1) (by omega)).mono ?_
        rintro e w5 ⟨g5, b5, X5, rfl, S5, B5, -⟩
        have K5 : Hid (Below w.heap.size w w5 ∧ Rw w5 (.slice ka (l.filter evn).length kc) (l.filter evn) ∧ Rw w5 (.slice a4 (l.filter evn).length c4) (l.filter evn) ∧ Sn w5 (.func (.func g5) #[] b5) l X5) := ⟨btr K4.out.1 B5, K4.out.2.1.b B5, K4.out.2.2.b B5, S5⟩
        clear B5 S5 K4
        go_wp2_with fail
        refine (Take_f K5.out.2.2.2 hn).mono ?_
        rintro e w6 ⟨g6, b6, X6, rfl, S6, B6⟩
        rw [← HQ.out] at S6
        have K6 : Hid (Below w.heap.size w w6 ∧ Rw w6 (.slice ka (l.filter evn).length kc) (l.filter evn) ∧ Rw w6 (.slice a4 (l.filter evn).length c4) (l.filter evn) ∧ Sn w6 (.func (.func g6) #[] b6) q X6) := ⟨btr K5.out.1 B6, K5.out.2.1.b B6, K5.out.2.2.1.b B6, S6⟩
        clear B6 S6 K5
        go_wp2_with fail
        refine (all_f K6.out.2.2.2 (by omega)).mono ?_
        rintro e w7 ⟨a7, c7, rfl, R7, B7⟩
        have K7 : Hid (Below w.heap.size w w7 ∧ Rw w7 (.slice ka (l.filter evn).length kc) (l.filter evn) ∧ Rw w7 (.slice a4 (l.filter evn).length c4) (l.filter evn) ∧ Rw w7 (.slice a7 q.length c7) q) := ⟨btr K6.out.1 B7, K6.out.2.1.b B7, K6.out.2.2.1.b B7, R7⟩
        clear B7 R7 K6
        go_wp2_with fail
        refine (over_f (R0.out.b K7.out.1) (by omega)).mono ?_
        rintro e w8 ⟨g8, b8, X8, rfl, S8, B8, -⟩
        have K8 : Hid (Below w.heap.size w w8 ∧ Rw w8 (.slice ka (l.filter evn).length kc) (l.filter evn) ∧ Rw w8 (.slice a4 (l.filter evn).length c4) (l.filter evn) ∧ Rw w8 (.slice a7 q.length c7) q ∧ Sn w8 (.func (.func g8) #[] b8) l X8) := ⟨btr K7.out.1 B8, K7.out.2.1.b B8, K7.out.2.2.1.b B8, K7.out.2.2.2.b B8, S8⟩
        clear B8 S8 K7
        go_wp2_with fail
        refine (KeepNil_f K8.out.2.2.2.2).mono ?_
        rintro e w9 ⟨g9, b9, X9, rfl, S9, B9⟩
        have K9 : Hid (Below w.heap.size w w9 ∧ Rw w9 (.slice ka (l.filter evn).length kc) (l.filter evn) ∧ Rw w9 (.slice a4 (l.filter evn).length c4) (l.filter evn) ∧ Rw w9 (.slice a7 q.length c7) q ∧ Sn w9 (.func (.func g9) #[] b9) l X9) := ⟨btr K8.out.1 B9, K8.out.2.1.b B9, K8.out.2.2.1.b B9, K8.out.2.2.2.1.b B9, S9⟩
        clear B9 S9 K8
        go_wp2_with fail
        refine (all_f K9.out.2.2.2.2 (by omega)).mono ?_
        rintro e w10 ⟨a10, c10, rfl, R10, B10⟩
        have K10 : Hid (Below w.heap.size w w10 ∧ Rw w10 (.slice ka (l.filter evn).length kc) (l.filter evn) ∧ Rw w10 (.slice a4 (l.filter evn).length c4) (l.filter evn) ∧ Rw w10 (.slice a7 q.length c7) q ∧ Rw w10 (.slice a10 l.length c10) l) := ⟨btr K9.out.1 B10, K9.out.2.1.b B10, K9.out.2.2.1.b B10, K9.out.2.2.2.1.b B10, R10⟩
        clear B10 R10 K9
        rcases hmc with hm1 | ⟨hm1, hm2⟩ | ⟨hm1, hm2⟩
        · have hm3 : ¬ 0 ≤ m := by omega
          have hmost : most m (l.filter evn) = l.filter evn := by unfold most; rw [if_pos hm1]
          have HC : Hid (Rw w10 (.slice ka (l.filter evn).length kc) (most m (l.filter evn))) := by rw [hmost]; exact K10.out.2.1
          have HM : Hid _ := hmost
          clear hmost
          go_wp2_with fail
          refine (over_f (R0.out.b K10.out.1) (by omega)).mono ?_
          rintro e w11 ⟨g11, b11, X11, rfl, S11, B11, -⟩
          have K11 : Hid (Below w10.heap.size w10 w11 ∧ Sn w11 (.func (.func g11) #[] b11) l X11) := ⟨B11, S11⟩
          clear B11 S11
          go_wp2_with fail
          refine (Keep_f K11.out.2).mono ?_
          rintro e w12 ⟨g12, b12, X12, rfl, S12, B12⟩
          have K12 : Hid (Below w10.heap.size w10 w12 ∧ Sn w12 (.func (.func g12) #[] b12) (l.filter evn) X12) := ⟨btr K11.out.1 B12, S12⟩
          clear B12 S12 K11
          go_wp2_with fail
          refine (told_f K12.out.2 m (by omega)).mono ?_
          rintro e w13 ⟨a13, c13, rfl, R13, B13⟩
          have K13 : Hid (Below w10.heap.size w10 w13 ∧ Rw w13 (.slice a13 (most m (l.filter evn)).length c13) (most m (l.filter evn))) := ⟨btr K12.out.1 B13, R13⟩
          clear B13 R13 K12
          go_wp2_with fail
          refine (same_any (K10.out.2.2.1.b K13.out.1) (K10.out.2.1.b K13.out.1) (by omega)).mono ?_
          rintro e w14 ⟨rfl, B14⟩
          have K14 : Hid (Below w10.heap.size w10 w14 ∧ Rw w14 (.slice a13 (most m (l.filter evn)).length c13) (most m (l.filter evn))) := ⟨btr K13.out.1 B14, K13.out.2.b B14⟩
          clear B14 K13
          go_wp2_with fail
          refine (same_any (K10.out.2.2.2.1.b K14.out.1) (HH.out.b (btr K10.out.1 K14.out.1)) (by omega)).mono ?_
          rintro e w15 ⟨rfl, B15⟩
          have K15 : Hid (Below w10.heap.size w10 w15 ∧ Rw w15 (.slice a13 (most m (l.filter evn)).length c13) (most m (l.filter evn))) := ⟨btr K14.out.1 B15, K14.out.2.b B15⟩
          clear B15 K14
          go_wp2_with fail
          refine (same_any (K10.out.2.2.2.2.b K15.out.1) (R0.out.b (btr K10.out.1 K15.out.1)) (by omega)).mono ?_
          rintro e w16 ⟨rfl, B16⟩
          have K16 : Hid (Below w10.heap.size w10 w16 ∧ Rw w16 (.slice a13 (most m (l.filter evn)).length c13) (most m (l.filter evn))) := ⟨btr K15.out.1 B16, K15.out.2.b B16⟩
          clear B16 K15
          go_wp2_with fail
          refine (same_any K16.out.2 (HC.out.b K16.out.1) (by have := HM.out; rw [HM.out]; first | omega | (rw [List.length_take]; omega))).mono ?_
          rintro e w17 ⟨rfl, B17⟩
          have K17 : Hid (Below w.heap.size w w17) := btr K10.out.1 (btr K16.out.1 B17)
          clear B17 K16
          go_wp2
          go_ret
          exact ⟨rfl, K17.out⟩
        · have hm4 : m ≤ (kc : Int) := by omega
          have hmost : most m (l.filter evn) = (l.filter evn).take m.toNat := by unfold most; rw [if_neg (by omega)]
          have HC : Hid (Rw w10 (.slice ka m.toNat kc) (most m (l.filter evn))) := by rw [hmost]; exact rw_take K10.out.2.1 (by omega)
          have HM : Hid _ := hmost
          clear hmost
          go_wp2_with fail
          refine (over_f (R0.out.b K10.out.1) (by omega)).mono ?_
          rintro e w11 ⟨g11, b11, X11, rfl, S11, B11, -⟩
          have K11 : Hid (Below w10.heap.size w10 w11 ∧ Sn w11 (.func (.func g11) #[] b11) l X11) := ⟨B11, S11⟩
          clear B11 S11
          go_wp2_with fail
          refine (Keep_f K11.out.2).mono ?_
          rintro e w12 ⟨g12, b12, X12, rfl, S12, B12⟩
          have K12 : Hid (Below w10.heap.size w10 w12 ∧ Sn w12 (.func (.func g12) #[] b12) (l.filter evn) X12) := ⟨btr K11.out.1 B12, S12⟩
          clear B12 S12 K11
          go_wp2_with fail
          refine (told_f K12.out.2 m (by omega)).mono ?_
          rintro e w13 ⟨a13, c13, rfl, R13, B13⟩
          have K13 : Hid (Below w10.heap.size w10 w13 ∧ Rw w13 (.slice a13 (most m (l.filter evn)).length c13) (most m (l.filter evn))) := ⟨btr K12.out.1 B13, R13⟩
          clear B13 R13 K12
          go_wp2_with fail
          refine (same_any (K10.out.2.2.1.b K13.out.1) (K10.out.2.1.b K13.out.1) (by omega)).mono ?_
          rintro e w14 ⟨rfl, B14⟩
          have K14 : Hid (Below w10.heap.size w10 w14 ∧ Rw w14 (.slice a13 (most m (l.filter evn)).length c13) (most m (l.filter evn))) := ⟨btr K13.out.1 B14, K13.out.2.b B14⟩
          clear B14 K13
          go_wp2_with fail
          refine (same_any (K10.out.2.2.2.1.b K14.out.1) (HH.out.b (btr K10.out.1 K14.out.1)) (by omega)).mono ?_
          rintro e w15 ⟨rfl, B15⟩
          have K15 : Hid (Below w10.heap.size w10 w15 ∧ Rw w15 (.slice a13 (most m (l.filter evn)).length c13) (most m (l.filter evn))) := ⟨btr K14.out.1 B15, K14.out.2.b B15⟩
          clear B15 K14
          go_wp2_with fail
          refine (same_any (K10.out.2.2.2.2.b K15.out.1) (R0.out.b (btr K10.out.1 K15.out.1)) (by omega)).mono ?_
          rintro e w16 ⟨rfl, B16⟩
          have K16 : Hid (Below w10.heap.size w10 w16 ∧ Rw w16 (.slice a13 (most m (l.filter evn)).length c13) (most m (l.filter evn))) := ⟨btr K15.out.1 B16, K15.out.2.b B16⟩
          clear B16 K15
          go_wp2_with fail
          refine (same_any K16.out.2 (HC.out.b K16.out.1) (by have := HM.out; rw [HM.out]; first | omega | (rw [List.length_take]; omega))).mono ?_
          rintro e w17 ⟨rfl, B17⟩
          have K17 : Hid (Below w.heap.size w w17) := btr K10.out.1 (btr K16.out.1 B17)
          clear B17 K16
          go_wp2
          go_ret
          exact ⟨rfl, K17.out⟩
        · have hm4 : ¬ m < ((l.filter evn).length : Int) := by omega
          have hmost : most m (l.filter evn) = l.filter evn := by unfold most; rw [if_neg (by omega), List.take_of_length_le (by omega)]
          have HC : Hid (Rw w10 (.slice ka (l.filter evn).length kc) (most m (l.filter evn))) := by rw [hmost]; exact K10.out.2.1
          have HM : Hid _ := hmost
          clear hmost
          go_wp2_with fail
          refine (over_f (R0.out.b K10.out.1) (by omega)).mono ?_
          rintro e w11 ⟨g11, b11, X11, rfl, S11, B11, -⟩
          have K11 : Hid (Below w10.heap.size w10 w11 ∧ Sn w11 (.func (.func g11) #[] b11) l X11) := ⟨B11, S11⟩
          clear B11 S11
          go_wp2_with fail
          refine (Keep_f K11.out.2).mono ?_
          rintro e w12 ⟨g12, b12, X12, rfl, S12, B12⟩
          have K12 : Hid (Below w10.heap.size w10 w12 ∧ Sn w12 (.func (.func g12) #[] b12) (l.filter evn) X12) := ⟨btr K11.out.1 B12, S12⟩
          clear B12 S12 K11
          go_wp2_with fail
          refine (told_f K12.out.2 m (by omega)).mono ?_
          rintro e w13 ⟨a13, c13, rfl, R13, B13⟩
          have K13 : Hid (Below w10.heap.size w10 w13 ∧ Rw w13 (.slice a13 (most m (l.filter evn)).length c13) (most m (l.filter evn))) := ⟨btr K12.out.1 B13, R13⟩
          clear B13 R13 K12
          go_wp2_with fail
          refine (same_any (K10.out.2.2.1.b K13.out.1) (K10.out.2.1.b K13.out.1) (by omega)).mono ?_
          rintro e w14 ⟨rfl, B14⟩
          have K14 : Hid (Below w10.heap.size w10 w14 ∧ Rw w14 (.slice a13 (most m (l.filter evn)).length c13) (most m (l.filter evn))) := ⟨btr K13.out.1 B14, K13.out.2.b B14⟩
          clear B14 K13
          go_wp2_with fail
          refine (same_any (K10.out.2.2.2.1.b K14.out.1) (HH.out.b (btr K10.out.1 K14.out.1)) (by omega)).mono ?_
          rintro e w15 ⟨rfl, B15⟩
          have K15 : Hid (Below w10.heap.size w10 w15 ∧ Rw w15 (.slice a13 (most m (l.filter evn)).length c13) (most m (l.filter evn))) := ⟨btr K14.out.1 B15, K14.out.2.b B15⟩
          clear B15 K14
          go_wp2_with fail
          refine (same_any (K10.out.2.2.2.2.b K15.out.1) (R0.out.b (btr K10.out.1 K15.out.1)) (by omega)).mono ?_
          rintro e w16 ⟨rfl, B16⟩
          have K16 : Hid (Below w10.heap.size w10 w16 ∧ Rw w16 (.slice a13 (most m (l.filter evn)).length c13) (most m (l.filter evn))) := ⟨btr K15.out.1 B16, K15.out.2.b B16⟩
          clear B16 K15
          go_wp2_with fail
          refine (same_any K16.out.2 (HC.out.b K16.out.1) (by have := HM.out; rw [HM.out]; first | omega | (rw [List.length_take]; omega))).mono ?_
          rintro e w17 ⟨rfl, B17⟩
          have K17 : Hid (Below w.heap.size w w17) := btr K10.out.1 (btr K16.out.1 B17)
          clear B17 K16
          go_wp2
          go_ret
          exact ⟨rfl, K17.out⟩
      · have hn3 : ¬ n < 1 := by omega
        have hn4 : n ≤ (c0 : Int) := by omega
        have hn5 : 0 ≤ n := by omega
        have HH : Hid (Rw w (.slice a0 n.toNat c0) q) := by rw [HQ.out]; exact rw_take R0.out (by omega)
        go_wp2_with fail
        refine (over_f (R0.out.b KK.out.1) (by omega)).mono ?_
        rintro e w2 ⟨g2, b2, X2, rfl, S2, B2, -⟩
        have K2 : Hid (Below w.heap.size w w2 ∧ Rw w2 (.slice ka (l.filter evn).length kc) (l.filter evn) ∧ Sn w2 (.func (.func g2) #[] b2) l X2) := ⟨btr KK.out.1 B2, KK.out.2.b B2, S2⟩
        clear B2 S2
        go_wp2_with fail
        refine (Keep_f K2.out.2.2).mono ?_
        rintro e w3 ⟨g3, b3, X3, rfl, S3, B3⟩
        have K3 : Hid (Below w.heap.size w w3 ∧ Rw w3 (.slice ka (l.filter evn).length kc) (l.filter evn) ∧ Sn w3 (.func (.func g3) #[] b3) (l.filter evn) X3) := ⟨btr K2.out.1 B3, K2.out.2.1.b B3, S3⟩
        clear B3 S3 K2
        go_wp2_with fail
        refine (all_f K3.out.2.2 (by omega)).mono ?_
        rintro e w4 ⟨a4, c4, rfl, R4, B4⟩
        have K4 : Hid (Below w.heap.size w w4 ∧ Rw w4 (.slice ka (l.filter evn).length kc) (l.filter evn) ∧ Rw w4 (.slice a4 (l.filter evn).length c4) (l.filter evn)) := ⟨btr K3.out.1 B4, K3.out.2.1.b B4, R4⟩
        clear B4 R4 K3
        go_wp2_with fail
        refine (over_f (R0.out.b K4.out.1) (by omega)).mono ?_
        rintro e w5 ⟨g5, b5, X5, rfl, S5, B5, -⟩
        have K5 : Hid (Below w.heap.size w w5 ∧ Rw w5 (.slice ka (l.filter evn).length kc) (l.filter evn) ∧ Rw w5 (.slice a4 (l.filter evn).length c4) (l.filter evn) ∧ Sn w5 (.func (.func g5) #[] b5) l X5) := ⟨btr K4.out.1 B5, K4.out.2.1.b B5, K4.out.2.2.b B5, S5⟩
        clear B5 S5 K4
        go_wp2_with fail
        refine (Take_f K5.out.2.2.2 hn).mono ?_
        rintro e w6 ⟨g6, b6, X6, rfl, S6, B6⟩
        rw [← HQ.out] at S6
        have K6 : Hid (Below w.heap.size w w6 ∧ Rw w6 (.slice ka (l.filter evn).length kc) (l.filter evn) ∧ Rw w6 (.slice a4 (l.filter evn).length c4) (l.filter evn) ∧ Sn w6 (.func (.func g6) #[] b6) q X6) := ⟨btr K5.out.1 B6, K5.out.2.1.b B6, K5.out.2.2.1.b B6, S6⟩
        clear B6 S6 K5
        go_wp2_with fail
        refine (all_f K6.out.2.2.2 (by omega)).mono ?_
        rintro e w7 ⟨a7, c7, rfl, R7, B7⟩
        have K7 : Hid (Below w.heap.size w w7 ∧ Rw w7 (.slice ka (l.filter evn).length kc) (l.filter evn) ∧ Rw w7 (.slice a4 (l.filter evn).length c4) (l.filter evn) ∧ Rw w7 (.slice a7 q.length c7) q) := ⟨btr K6.out.1 B7, K6.out.2.1.b B7, K6.out.2.2.1.b B7, R7⟩
        clear B7 R7 K6
        go_wp2_with fail
        refine (over_f (R0.out.b K7.out.1) (by omega)).mono ?_
        rintro e w8 ⟨g8, b8, X8, rfl, S8, B8, -⟩
        have K8 : Hid (Below w.heap.size w w8 ∧ Rw w8 (.slice ka (l.filter evn).length kc) (l.filter evn) ∧ Rw w8 (.slice a4 (l.filter evn).length c4) (l.filter evn) ∧ Rw w8 (.slice a7 q.length c7) q ∧ Sn w8 (.func (.func g8) #[] b8) l X8) := ⟨btr K7.out.1 B8, K7.out.2.1.b B8, K7.out.2.2.1.b B8, K7.out.2.2.2.b B8, S8⟩
        clear B8 S8 K7
        go_wp2_with fail
        refine (KeepNil_f K8.out.2.2.2.2).mono ?_
        rintro e w9 ⟨g9, b9, X9, rfl, S9, B9⟩
        have K9 : Hid (Below w.heap.size w w9 ∧ Rw w9 (.slice ka (l.filter evn).length kc) (l.filter evn) ∧ Rw w9 (.slice a4 (l.filter evn).length c4) (l.filter evn) ∧ Rw w9 (.slice a7 q.length c7) q ∧ Sn w9 (.func (.func g9) #[] b9) l X9) := ⟨btr K8.out.1 B9, K8.out.2.1.b B9, K8.out.2.2.1.b B9, K8.out.2.2.2.1.b B9, S9⟩
        clear B9 S9 K8
        go_wp2_with fail
        refine (all_f K9.out.2.2.2.2 (by omega)).mono ?_
        rintro e w10 ⟨a10, c10, rfl, R10, B10⟩
        have K10 : Hid (Below w.heap.size w w10 ∧ Rw w10 (.slice ka (l.filter evn).length kc) (l.filter evn) ∧ Rw w10 (.slice a4 (l.filter evn).length c4) (l.filter evn) ∧ Rw w10 (.slice a7 q.length c7) q ∧ Rw w10 (.slice a10 l.length c10) l) := ⟨btr K9.out.1 B10, K9.out.2.1.b B10, K9.out.2.2.1.b B10, K9.out.2.2.2.1.b B10, R10⟩
        clear B10 R10 K9
        rcases hmc with hm1 | ⟨hm1, hm2⟩ | ⟨hm1, hm2⟩
        · have hm3 : ¬ 0 ≤ m := by omega
          have hmost : most m (l.filter evn) = l.filter evn := by unfold most; rw [if_pos hm1]
          have HC : Hid (Rw w10 (.slice ka (l.filter evn).length kc) (most m (l.filter evn))) := by rw [hmost]; exact K10.out.2.1
          have HM : Hid _ := hmost
          clear hmost
          go_wp2_with fail
          refine (over_f (R0.out.b K10.out.1) (by omega)).mono ?_
          rintro e w11 ⟨g11, b11, X11, rfl, S11, B11, -⟩
          have K11 : Hid (Below w10.heap.size w10 w11 ∧ Sn w11 (.func (.func g11) #[] b11) l X11) := ⟨B11, S11⟩
          clear B11 S11
          go_wp2_with fail
          refine (Keep_f K11.out.2).mono ?_
          rintro e w12 ⟨g12, b12, X12, rfl, S12, B12⟩
          have K12 : Hid (Below w10.heap.size w10 w12 ∧ Sn w12 (.func (.func g12) #[] b12) (l.filter evn) X12) := ⟨btr K11.out.1 B12, S12⟩
          clear B12 S12 K11
          go_wp2_with fail
          refine (told_f K12.out.2 m (by omega)).mono ?_
          rintro e w13 ⟨a13, c13, rfl, R13, B13⟩
          have K13 : Hid (Below w10.heap.size w10 w13 ∧ Rw w13 (.slice a13 (most m (l.filter evn)).length c13) (most m (l.filter evn))) := ⟨btr K12.out.1 B13, R13⟩
          clear B13 R13 K12
          go_wp2_with fail
          refine (same_any (K10.out.2.2.1.b K13.out.1) (K10.out.2.1.b K13.out.1) (by omega)).mono ?_
          rintro e w14 ⟨rfl, B14⟩
          have K14 : Hid (Below w10.heap.size w10 w14 ∧ Rw w14 (.slice a13 (most m (l.filter evn)).length c13) (most m (l.filter evn))) := ⟨btr K13.out.1 B14, K13.out.2.b B14⟩
          clear B14 K13
          go_wp2_with fail
          refine (same_any (K10.out.2.2.2.1.b K14.out.1) (HH.out.b (btr K10.out.1 K14.out.1)) (by omega)).mono ?_
          rintro e w15 ⟨rfl, B15⟩
          have K15 : Hid (Below w10.heap.size w10 w15 ∧ Rw w15 (.slice a13 (most m (l.filter evn)).length c13) (most m (l.filter evn))) := ⟨btr K14.out.1 B15, K14.out.2.b B15⟩
          clear B15 K14
          go_wp2_with fail
          refine (same_any (K10.out.2.2.2.2.b K15.out.1) (R0.out.b (btr K10.out.1 K15.out.1)) (by omega)).mono ?_
          rintro e w16 ⟨rfl, B16⟩
          have K16 : Hid (Below w10.heap.size w10 w16 ∧ Rw w16 (.slice a13 (most m (l.filter evn)).length c13) (most m (l.filter evn))) := ⟨btr K15.out.1 B16, K15.out.2.b B16⟩
          clear B16 K15
          go_wp2_with fail
          refine (same_any K16.out.2 (HC.out.b K16.out.1) (by have := HM.out; rw [HM.out]; first | omega | (rw [List.length_take]; omega))).mono ?_
          rintro e w17 ⟨rfl, B17⟩
          have K17 : Hid (Below w.heap.size w w17) := btr K10.out.1 (btr K16.out.1 B17)
          clear B17 K16
          go_wp2
          go_ret
          exact ⟨rfl, K17.out⟩
        · have hm4 : m ≤ (kc : Int) := by omega
          have hmost : most m (l.filter evn) = (l.filter evn).take m.toNat := by unfold most; rw [if_neg (by omega)]
          have HC : Hid (Rw w10 (.slice ka m.toNat kc) (most m (l.filter evn))) := by rw [hmost]; exact rw_take K10.out.2.1 (by omega)
          have HM : Hid _ := hmost
          clear hmost
          go_wp2_with fail
          refine (over_f (R0.out.b K10.out.1) (by omega)).mono ?_
          rintro e w11 ⟨g11, b11, X11, rfl, S11, B11, -⟩
          have K11 : Hid (Below w10.heap.size w10 w11 ∧ Sn w11 (.func (.func g11) #[] b11) l X11) := ⟨B11, S11⟩
          clear B11 S11
          go_wp2_with fail
          refine (Keep_f K11.out.2).mono ?_
          rintro e w12 ⟨g12, b12, X12, rfl, S12, B12⟩
          have K12 : Hid (Below w10.heap.size w10 w12 ∧ Sn w12 (.func (.func g12) #[] b12) (l.filter evn) X12) := ⟨btr K11.out.1 B12, S12⟩
          clear B12 S12 K11
          go_wp2_with fail
          refine (told_f K12.out.2 m (by omega)).mono ?_
          rintro e w13 ⟨a13, c13, rfl, R13, B13⟩
          have K13 : Hid (Below w10.heap.size w10 w13 ∧ Rw w13 (.slice a13 (most m (l.filter evn)).length c13) (most m (l.filter evn))) := ⟨btr K12.out.1 B13, R13⟩
          clear B13 R13 K12
          go_wp2_with fail
          refine (same_any (K10.out.2.2.1.b K13.out.1) (K10.out.2.1.b K13.out.1) (by omega)).mono ?_
          rintro e w14 ⟨rfl, B14⟩
          have K14 : Hid (Below w10.heap.size w10 w14 ∧ Rw w14 (.slice a13 (most m (l.filter evn)).length c13) (most m (l.filter evn))) := ⟨btr K13.out.1 B14, K13.out.2.b B14⟩
          clear B14 K13
          go_wp2_with fail
          refine (same_any (K10.out.2.2.2.1.b K14.out.1) (HH.out.b (btr K10.out.1 K14.out.1)) (by omega)).mono ?_
          rintro e w15 ⟨rfl, B15⟩
          have K15 : Hid (Below w10.heap.size w10 w15 ∧ Rw w15 (.slice a13 (most m (l.filter evn)).length c13) (most m (l.filter evn))) := ⟨btr K14.out.1 B15, K14.out.2.b B15⟩
          clear B15 K14
          go_wp2_with fail
          refine (same_any (K10.out.2.2.2.2.b K15.out.1) (R0.out.b (btr K10.out.1 K15.out.1)) (by omega)).mono ?_
          rintro e w16 ⟨rfl, B16⟩
          have K16 : Hid (Below w10.heap.size w10 w16 ∧ Rw w16 (.slice a13 (most m (l.filter evn)).length c13) (most m (l.filter evn))) := ⟨btr K15.out.1 B16, K15.out.2.b B16⟩
          clear B16 K15
          go_wp2_with fail
          refine (same_any K16.out.2 (HC.out.b K16.out.1) (by have := HM.out; rw [HM.out]; first | omega | (rw [List.length_take]; omega))).mono ?_
          rintro e w17 ⟨rfl, B17⟩
          have K17 : Hid (Below w.heap.size w w17) := btr K10.out.1 (btr K16.out.1 B17)
          clear B17 K16
          go_wp2
          go_ret
          exact ⟨rfl, K17.out⟩
        · have hm4 : ¬ m < ((l.filter evn).length : Int) := by omega
          have hmost : most m (l.filter evn) = l.filter evn := by unfold most; rw [if_neg (by omega), List.take_of_length_le (by omega)]
          have HC : Hid (Rw w10 (.slice ka (l.filter evn).length kc) (most m (l.filter evn))) := by rw [hmost]; exact K10.out.2.1
          have HM : Hid _ := hmost
          clear hmost
          go_wp2_with fail
          refine (over_f (R0.out.b K10.out.1) (by omega)).mono ?_
          rintro e w11 ⟨g11, b11, X11, rfl, S11, B11, -⟩
          have K11 : Hid (Below w10.heap.size w10 w11 ∧ Sn w11 (.func (.func g11) #[] b11) l X11) := ⟨B11, S11⟩
          clear B11 S11
          go_wp2_with fail
          refine (Keep_f K11.out.2).mono ?_
          rintro e w12 ⟨g12, b12, X12, rfl, S12, B12⟩
          have K12 : Hid (Below w10.heap.size w10 w12 ∧ Sn w12 (.func (.func g12) #[] b12) (l.filter evn) X12) := ⟨btr K11.out.1 B12, S12⟩
          clear B12 S12 K11
          go_wp2_with fail
          refine (told_f K12.out.2 m (by omega)).mono ?_
          rintro e w13 ⟨a13, c13, rfl, R13, B13⟩
          have K13 : Hid (Below w10.heap.size w10 w13 ∧ Rw w13 (.slice a13 (most m (l.filter evn)).length c13) (most m (l.filter evn))) := ⟨btr K12.out.1 B13, R13⟩
          clear B13 R13 K12
          go_wp2_with fail
          refine (same_any (K10.out.2.2.1.b K13.out.1) (K10.out.2.1.b K13.out.1) (by omega)).mono ?_
          rintro e w14 ⟨rfl, B14⟩
          have K14 : Hid (Below w10.heap.size w10 w14 ∧ Rw w14 (.slice a13 (most m (l.filter evn)).length c13) (most m (l.filter evn))) := ⟨btr K13.out.1 B14, K13.out.2.b B14⟩
          clear B14 K13
          go_wp2_with fail
          refine (same_any (K10.out.2.2.2.1.b K14.out.1) (HH.out.b (btr K10.out.1 K14.out.1)) (by omega)).mono ?_
          rintro e w15 ⟨rfl, B15⟩
          have K15 : Hid (Below w10.heap.size w10 w15 ∧ Rw w15 (.slice a13 (most m (l.filter evn)).length c13) (most m (l.filter evn))) := ⟨btr K14.out.1 B15, K14.out.2.b B15⟩
          clear B15 K14
          go_wp2_with fail
          refine (same_any (K10.out.2.2.2.2.b K15.out.1) (R0.out.b (btr K10.out.1 K15.out.1)) (by omega)).mono ?_
          rintro e w16 ⟨rfl, B16⟩
          have K16 : Hid (Below w10.heap.size w10 w16 ∧ Rw w16 (.slice a13 (most m (l.filter evn)).length c13) (most m (l.filter evn))) := ⟨btr K15.out.1 B16, K15.out.2.b B16⟩
          clear B16 K15
          go_wp2_with fail
          refine (same_any K16.out.2 (HC.out.b K16.out.1) (by have := HM.out; rw [HM.out]; first | omega | (rw [List.length_take]; omega))).mono ?_
          rintro e w17 ⟨rfl, B17⟩
          have K17 : Hid (Below w.heap.size w w17) := btr K10.out.1 (btr K16.out.1 B17)
          clear B17 K16
          go_wp2
          go_ret
          exact ⟨rfl, K17.out⟩
      · have hn3 : ¬ n < 1 := by omega
        have hn4 : ¬ n < (l.length : Int) := by omega
        have HH : Hid (Rw w (.slice a0 l.length c0) q) := by rw [HQ.out, List.take_of_length_le (by omega)]; exact R0.out
        go_wp2_with fail
        refine (over_f (R0.out.b KK.out.1) (by omega)).mono ?_
        rintro e w2 ⟨g2, b2, X2, rfl, S2, B2, -⟩
        have K2 : Hid (Below w.heap.size w w2 ∧ Rw w2 (.slice ka (l.filter evn).length kc) (l.filter evn) ∧ Sn w2 (.func (.func g2) #[] b2) l X2) := ⟨btr KK.out.1 B2, KK.out.2.b B2, S2⟩
        clear B2 S2
        go_wp2_with fail
        refine (Keep_f K2.out.2.2).mono ?_
        rintro e w3 ⟨g3, b3, X3, rfl, S3, B3⟩
        have K3 : Hid (Below w.heap.size w w3 ∧ Rw w3 (.slice ka (l.filter evn).length kc) (l.filter evn) ∧ Sn w3 (.func (.func g3) #[] b3) (l.filter evn) X3) := ⟨btr K2.out.1 B3, K2.out.2.1.b B3, S3⟩
        clear B3 S3 K2
        go_wp2_with fail
        refine (all_f K3.out.2.2 (by omega)).mono ?_
        rintro e w4 ⟨a4, c4, rfl, R4, B4⟩
        have K4 : Hid (Below w.heap.size w w4 ∧ Rw w4 (.slice ka (l.filter evn).length kc) (l.filter evn) ∧ Rw w4 (.slice a4 (l.filter evn).length c4) (l.filter evn)) := ⟨btr K3.out.1 B4, K3.out.2.1.b B4, R4⟩
        clear B4 R4 K3
        go_wp2_with fail
        refine (over_f (R0.out.b K4.out.1) (by omega)).mono ?_
        rintro e w5 ⟨g5, b5, X5, rfl, S5, B5, -⟩
        have K5 : Hid (Below w.heap.size w w5 ∧ Rw w5 (.slice ka (l.filter evn).length kc) (l.filter evn) ∧ Rw w5 (.slice a4 (l.filter evn).length c4) (l.filter evn) ∧ Sn w5 (.func (.func g5) #[] b5) l X5) := ⟨btr K4.out.1 B5, K4.out.2.1.b B5, K4.out.2.2.b B5, S5⟩
        clear B5 S5 K4
        go_wp2_with fail
        refine (Take_f K5.out.2.2.2 hn).mono ?_
        rintro e w6 ⟨g6, b6, X6, rfl, S6, B6⟩
        rw [← HQ.out] at S6
        have K6 : Hid (Below w.heap.size w w6 ∧ Rw w6 (.slice ka (l.filter evn).length kc) (l.filter evn) ∧ Rw w6 (.slice a4 (l.filter evn).length c4) (l.filter evn) ∧ Sn w6 (.func (.func g6) #[] b6) q X6) := ⟨btr K5.out.1 B6, K5.out.2.1.b B6, K5.out.2.2.1.b B6, S6⟩
        clear B6 S6 K5
        go_wp2_with fail
        refine (all_f K6.out.2.2.2 (by omega)).mono ?_
        rintro e w7 ⟨a7, c7, rfl, R7, B7⟩
        have K7 : Hid (Below w.heap.size w w7 ∧ Rw w7 (.slice ka (l.filter evn).length kc) (l.filter evn) ∧ Rw w7 (.slice a4 (l.filter evn).length c4) (l.filter evn) ∧ Rw w7 (.slice a7 q.length c7) q) := ⟨btr K6.out.1 B7, K6.out.2.1.b B7, K6.out.2.2.1.b B7, R7⟩
        clear B7 R7 K6
        go_wp2_with fail
        refine (over_f (R0.out.b K7.out.1) (by omega)).mono ?_
        rintro e w8 ⟨g8, b8, X8, rfl, S8, B8, -⟩
        have K8 : Hid (Below w.heap.size w w8 ∧ Rw w8 (.slice ka (l.filter evn).length kc) (l.filter evn) ∧ Rw w8 (.slice a4 (l.filter evn).length c4) (l.filter evn) ∧ Rw w8 (.slice a7 q.length c7) q ∧ Sn w8 (.func (.func g8) #[] b8) l X8) := ⟨btr K7.out.1 B8, K7.out.2.1.b B8, K7.out.2.2.1.b B8, K7.out.2.2.2.b B8, S8⟩
        clear B8 S8 K7
        go_wp2_with fail
        refine (KeepNil_f K8.out.2.2.2.2).mono ?_
        rintro e w9 ⟨g9, b9, X9, rfl, S9, B9⟩
        have K9 : Hid (Below w.heap.size w w9 ∧ Rw w9 (.slice ka (l.filter evn).length kc) (l.filter evn) ∧ Rw w9 (.slice a4 (l.filter evn).length c4) (l.filter evn) ∧ Rw w9 (.slice a7 q.length c7) q ∧ Sn w9 (.func (.func g9) #[] b9) l X9) := ⟨btr K8.out.1 B9, K8.out.2.1.b B9, K8.out.2.2.1.b B9, K8.out.2.2.2.1.b B9, S9⟩
        clear B9 S9 K8
        go_wp2_with fail
        refine (all_f K9.out.2.2.2.2 (by omega)).mono ?_
        rintro e w10 ⟨a10, c10, rfl, R10, B10⟩
        have K10 : Hid (Below w.heap.size w w10 ∧ Rw w10 (.slice ka (l.filter evn).length kc) (l.filter evn) ∧ Rw w10 (.slice a4 (l.filter evn).length c4) (l.filter evn) ∧ Rw w10 (.slice a7 q.length c7) q ∧ Rw w10 (.slice a10 l.length c10) l) := ⟨btr K9.out.1 B10, K9.out.2.1.b B10, K9.out.2.2.1.b B10, K9.out.2.2.2.1.b B10, R10⟩
        clear B10 R10 K9
        rcases hmc with hm1 | ⟨hm1, hm2⟩ | ⟨hm1, hm2⟩
        · have hm3 : ¬ 0 ≤ m := by omega
          have hmost : most m (l.filter evn) = l.filter evn := by unfold most; rw [if_pos hm1]
          have HC : Hid (Rw w10 (.slice ka (l.filter evn).length kc) (most m (l.filter evn))) := by rw [hmost]; exact K10.out.2.1
          have HM : Hid _ := hmost
          clear hmost
          go_wp2_with fail
          refine (over_f (R0.out.b K10.out.1) (by omega)).mono ?_
          rintro e w11 ⟨g11, b11, X11, rfl, S11, B11, -⟩
          have K11 : Hid (Below w10.heap.size w10 w11 ∧ Sn w11 (.func (.func g11) #[] b11) l X11) := ⟨B11, S11⟩
          clear B11 S11
          go_wp2_with fail
          refine (Keep_f K11.out.2).mono ?_
          rintro e w12 ⟨g12, b12, X12, rfl, S12, B12⟩
          have K12 : Hid (Below w10.heap.size w10 w12 ∧ Sn w12 (.func (.func g12) #[] b12) (l.filter evn) X12) := ⟨btr K11.out.1 B12, S12⟩
          clear B12 S12 K11
          go_wp2_with fail
          refine (told_f K12.out.2 m (by omega)).mono ?_
          rintro e w13 ⟨a13, c13, rfl, R13, B13⟩
          have K13 : Hid (Below w10.heap.size w10 w13 ∧ Rw w13 (.slice a13 (most m (l.filter evn)).length c13) (most m (l.filter evn))) := ⟨btr K12.out.1 B13, R13⟩
          clear B13 R13 K12
          go_wp2_with fail
          refine (same_any (K10.out.2.2.1.b K13.out.1) (K10.out.2.1.b K13.out.1) (by omega)).mono ?_
          rintro e w14 ⟨rfl, B14⟩
          have K14 : Hid (Below w10.heap.size w10 w14 ∧ Rw w14 (.slice a13 (most m (l.filter evn)).length c13) (most m (l.filter evn))) := ⟨btr K13.out.1 B14, K13.out.2.b B14⟩
          clear B14 K13
          go_wp2_with fail
          refine (same_any (K10.out.2.2.2.1.b K14.out.1) (HH.out.b (btr K10.out.1 K14.out.1)) (by omega)).mono ?_
          rintro e w15 ⟨rfl, B15⟩
          have K15 : Hid (Below w10.heap.size w10 w15 ∧ Rw w15 (.slice a13 (most m (l.filter evn)).length c13) (most m (l.filter evn))) := ⟨btr K14.out.1 B15, K14.out.2.b B15⟩
          clear B15 K14
          go_wp2_with fail
          refine (same_any (K10.out.2.2.2.2.b K15.out.1) (R0.out.b (btr K10.out.1 K15.out.1)) (by omega)).mono ?_
          rintro e w16 ⟨rfl, B16⟩
          have K16 : Hid (Below w10.heap.size w10 w16 ∧ Rw w16 (.slice a13 (most m (l.filter evn)).length c13) (most m (l.filter evn))) := ⟨btr K15.out.1 B16, K15.out.2.b B16⟩
          clear B16 K15
          go_wp2_with fail
          refine (same_any K16.out.2 (HC.out.b K16.out.1) (by have := HM.out; rw [HM.out]; first | omega | (rw [List.length_take]; omega))).mono ?_
          rintro e w17 ⟨rfl, B17⟩
          have K17 : Hid (Below w.heap.size w w17) := btr K10.out.1 (btr K16.out.1 B17)
          clear B17 K16
          go_wp2
          go_ret
          exact ⟨rfl, K17.out⟩
        · have hm4 : m ≤ (kc : Int) := by omega
          have hmost : most m (l.filter evn) = (l.filter evn).take m.toNat := by unfold most; rw [if_neg (by omega)]
          have HC : Hid (Rw w10 (.slice ka m.toNat kc) (most m (l.filter evn))) := by rw [hmost]; exact rw_take K10.out.2.1 (by omega)
          have HM : Hid _ := hmost
          clear hmost
          go_wp2_with fail
          refine (over_f (R0.out.b K10.out.1) (by omega)).mono ?_
          rintro e w11 ⟨g11, b11, X11, rfl, S11, B11, -⟩
          have K11 : Hid (Below w10.heap.size w10 w11 ∧ Sn w11 (.func (.func g11) #[] b11) l X11) := ⟨B11, S11⟩
          clear B11 S11
          go_wp2_with fail
          refine (Keep_f K11.out.2).mono ?_
          rintro e w12 ⟨g12, b12, X12, rfl, S12, B12⟩
          have K12 : Hid (Below w10.heap.size w10 w12 ∧ Sn w12 (.func (.func g12) #[] b12) (l.filter evn) X12) := ⟨btr K11.out.1 B12, S12⟩
          clear B12 S12 K11
          go_wp2_with fail
          refine (told_f K12.out.2 m (by omega)).mono ?_
          rintro e w13 ⟨a13, c13, rfl, R13, B13⟩
          have K13 : Hid (Below w10.heap.size w10 w13 ∧ Rw w13 (.slice a13 (most m (l.filter evn)).length c13) (most m (l.filter evn))) := ⟨btr K12.out.1 B13, R13⟩
          clear B13 R13 K12
          go_wp2_with fail
          refine (same_any (K10.out.2.2.1.b K13.out.1) (K10.out.2.1.b K13.out.1) (by omega)).mono ?_
          rintro e w14 ⟨rfl, B14⟩
          have K14 : Hid (Below w10.heap.size w10 w14 ∧ Rw w14 (.slice a13 (most m (l.filter evn)).length c13) (most m (l.filter evn))) := ⟨btr K13.out.1 B14, K13.out.2.b B14⟩
          clear B14 K13
          go_wp2_with fail
          refine (same_any (K10.out.2.2.2.1.b K14.out.1) (HH.out.b (btr K10.out.1 K14.out.1)) (by omega)).mono ?_
          rintro e w15 ⟨rfl, B15⟩
          have K15 : Hid (Below w10.heap.size w10 w15 ∧ Rw w15 (.slice a13 (most m (l.filter evn)).length c13) (most m (l.filter evn))) := ⟨btr K14.out.1 B15, K14.out.2.b B15⟩
          clear B15 K14
          go_wp2_with fail
          refine (same_any (K10.out.2.2.2.2.b K15.out.1) (R0.out.b (btr K10.out.1 K15.out.1)) (by omega)).mono ?_
          rintro e w16 ⟨rfl, B16⟩
          have K16 : Hid (Below w10.heap.size w10 w16 ∧ Rw w16 (.slice a13 (most m (l.filter evn)).length c13) (most m (l.filter evn))) := ⟨btr K15.out.1 B16, K15.out.2.b B16⟩
          clear B16 K15
          go_wp2_with fail
          refine (same_any K16.out.2 (HC.out.b K16.out.1) (by have := HM.out; rw [HM.out]; first | omega | (rw [List.length_take]; omega))).mono ?_
          rintro e w17 ⟨rfl, B17⟩
          have K17 : Hid (Below w.heap.size w w17) := btr K10.out.1 (btr K16.out.1 B17)
          clear B17 K16
          go_wp2
          go_ret
          exact ⟨rfl, K17.out⟩
        · have hm4 : ¬ m < ((l.filter evn).length : Int) := by omega
          have hmost : most m (l.filter evn) = l.filter evn := by unfold most; rw [if_neg (by omega), List.take_of_length_le (by omega)]
          have HC : Hid (Rw w10 (.slice ka (l.filter evn).length kc) (most m (l.filter evn))) := by rw [hmost]; exact K10.out.2.1
          have HM : Hid _ := hmost
          clear hmost
          go_wp2_with fail
          refine (over_f (R0.out.b K10.out.1) (by omega)).mono ?_
          rintro e w11 ⟨g11, b11, X11, rfl, S11, B11, -⟩
          have K11 : Hid (Below w10.heap.size w10 w11 ∧ Sn w11 (.func (.func g11) #[] b11) l X11) := ⟨B11, S11⟩
          clear B11 S11
          go_wp2_with fail
          refine (Keep_f K11.out.2).mono ?_
          rintro e w12 ⟨g12, b12, X12, rfl, S12, B12⟩
          have K12 : Hid (Below w10.heap.size w10 w12 ∧ Sn w12 (.func (.func g12) #[] b12) (l.filter evn) X12) := ⟨btr K11.out.1 B12, S12⟩
          clear B12 S12 K11
          go_wp2_with fail
          refine (told_f K12.out.2 m (by omega)).mono ?_
          rintro e w13 ⟨a13, c13, rfl, R13, B13⟩
          have K13 : Hid (Below w10.heap.size w10 w13 ∧ Rw w13 (.slice a13 (most m (l.filter evn)).length c13) (most m (l.filter evn))) := ⟨btr K12.out.1 B13, R13⟩
          clear B13 R13 K12
          go_wp2_with fail
          refine (same_any (K10.out.2.2.1.b K13.out.1) (K10.out.2.1.b K13.out.1) (by omega)).mono ?_
          rintro e w14 ⟨rfl, B14⟩
          have K14 : Hid (Below w10.heap.size w10 w14 ∧ Rw w14 (.slice a13 (most m (l.filter evn)).length c13) (most m (l.filter evn))) := ⟨btr K13.out.1 B14, K13.out.2.b B14⟩
          clear B14 K13
          go_wp2_with fail
          refine (same_any (K10.out.2.2.2.1.b K14.out.1) (HH.out.b (btr K10.out.1 K14.out.1)) (by omega)).mono ?_
          rintro e w15 ⟨rfl, B15⟩
          have K15 : Hid (Below w10.heap.size w10 w15 ∧ Rw w15 (.slice a13 (most m (l.filter evn)).length c13) (most m (l.filter evn))) := ⟨btr K14.out.1 B15, K14.out.2.b B15⟩
          clear B15 K14
          go_wp2_with fail
          refine (same_any (K10.out.2.2.2.2.b K15.out.1) (R0.out.b (btr K10.out.1 K15.out.1)) (by omega)).mono ?_
          rintro e w16 ⟨rfl, B16⟩
          have K16 : Hid (Below w10.heap.size w10 w16 ∧ Rw w16 (.slice a13 (most m (l.filter evn)).length c13) (most m (l.filter evn))) := ⟨btr K15.out.1 B16, K15.out.2.b B16⟩
          clear B16 K15
          go_wp2_with fail
          refine (same_any K16.out.2 (HC.out.b K16.out.1) (by have := HM.out; rw [HM.out]; first | omega | (rw [List.length_take]; omega))).mono ?_
          rintro e w17 ⟨rfl, B17⟩
          have K17 : Hid (Below w.heap.size w w17) := btr K10.out.1 (btr K16.out.1 B17)
          clear B17 K16
          go_wp2
          go_ret
          exact ⟨rfl, K17.out⟩

set_option maxRecDepth 100000 in
theorem lifted (os : Os) (started : os.Started) (H : Type) (enc : TypeId × Value → H) :
    ReturnsInHanded {} Try.checked os 4 .any (Rows.mergeKeepsSpec.pre6 enc Try.prog Try.f4 Rows.mergeKeepsRow.domain false) (Rows.mergeKeepsSpec.post enc Try.prog Try.f4 false true false false) := by
  refine returnsInHanded_of_change_sized (C := Try.checked) own started (by kernel_rfl) Try.func4
    (ChangeSpec.witness6 (enc := enc) (C := Try.checked) false ⟨#[], #[.slice none 0 0, .int .i64 0, .int .i64 0], []⟩ 8 (by kernel_rfl) (by kernel_rfl) (by kernel_rfl) (by kernel_rfl)) ?_
  intro W base args ds gs before hval0 hW hcnd hsz0 _
  have hval : ∀ (j : Nat) t v, Try.f4.params[j]? = some t → args[j]? = some v → Value.okWide Try.prog W .any base t v := hval0
  have hsz : (DataW.weightsEach Try.prog (Try.f4.params.toList ++ Rows.mergeKeepsSpec.plain.varTypes Try.prog) (ds ++ gs)).all (· ≤ reachBytes) = true := hsz0
  have hW' := hW
  obtain ⟨p, q, hA0, hV, rfl, hfz, hnd⟩ := hW
  have hA : DataW.TrodAll enc Try.prog W 0 (fun _ => true) true Try.f4.params.toList args.toList ds p := hA0
  rw [Try.params4] at hA hval hsz
  obtain ⟨v0, vs0, d0, ds0, p0, q0, hargs, rfl, rfl, h0, r0⟩ := trodAll_cons hA
  obtain ⟨v1, vs1, d1, ds1, p1, q1, rfl, rfl, rfl, h1, r1⟩ := trodAll_cons r0
  obtain ⟨v2, vs2, d2, ds2, p2, q2, rfl, rfl, rfl, h2, r2⟩ := trodAll_cons r1
  obtain ⟨rfl, rfl, rfl⟩ := trodAll_nil r2
  obtain rfl : args = #[v0, v1, v2] := by cases args; simp_all
  obtain ⟨rfl, rfl⟩ := trodVars_none hV
  have k0 := h0
  have lt0 : ∀ x ∈ p0, x.block < W.heap.size := by obtain ⟨m, hm⟩ := k0; exact DataW.trod_lt m _ _ _ hm
  obtain ⟨l, hl, hcap, hq⟩ := openRowsW (hval 0 29 v0 rfl rfl) h0
  have hql := hq (by
    have h := hsz
    simp only [List.cons_append, DataW.weightsEach, List.all_append, Bool.and_eq_true] at h
    exact h.1)
  obtain ⟨a1, rfl, rfl, rfl, w1⟩ := open_int Try.underlying3 (hval 1 3 v1 rfl rfl) h1
  obtain ⟨a2, rfl, rfl, rfl, w2⟩ := open_int Try.underlying3 (hval 2 3 v2 rfl rfl) h2
  have hb1 := bounds_i64 w1
  clear hA0 hval0
  refine (walk v0 l a1 a2 hql (by omega) W hl hcap).mono fun e W' ⟨he, bel⟩ => ?_
  subst he
  exact ⟨_, rfl, _, _, _, [], _, [], hW', trodAll_mk1 (shut_bool Try.underlying4 _), (trodAll_cons_mk (Below.trod laidOut (by kernel_rfl) (of_decide_eq_true (by kernel_rfl)) k0 bel lt0) (trodAll_cons_mk (shut_int Try.underlying3 w1) (trodAll_cons_mk (shut_int Try.underlying3 w2) trodAll_mk0))), rfl, bel.frame _, fun h => by cases h⟩

theorem proved : Rows.MergeKeepsSaid :=
  OpenClaim.holds_of_wide 4 Try.f4 rfl rfl rfl rfl rfl rfl rfl ⟨rfl, rfl, rfl, rfl, rfl⟩ rfl rfl rfl rfl rfl (by kernel_rfl) Try.func4 (by kernel_rfl)
    (of_decide_eq_true (by kernel_rfl)) (by unfold Func.isWrapper; first | (rw [if_pos (by decide +kernel)]; kernel_rfl) | (rw [if_neg (by decide +kernel)]; exact ⟨rfl, rfl⟩))
    (fun os started H enc _ => lifted os started H enc)
end Go.Proofs.Ytlhijbgdccejbaa.mergeKeeps

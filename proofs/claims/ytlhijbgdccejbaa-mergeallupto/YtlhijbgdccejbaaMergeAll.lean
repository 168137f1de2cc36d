/-
  What is proved: whatever lists of rows there are, rising or not, and whatever most is, they are put together as the document says, and so again when they are ranged over again, or left (MergeAll answers true, and no argument is changed), where the arguments are of bounded bulk.
-/
import Derived.Test.YtlhijbgdccejbaaM3All
namespace Go.Proofs.Ytlhijbgdccejbaa.mergeAll
open Go.ChangeShapes Go.WideShapes Go.ChangeAt Go.RowKit
open Go.Shelf Go.Sort
open Go.Lib hiding intOf

theorem rw_take {w : World} {a : Option Addr} {l : List Ent} {cap : Nat} (h : Rw w (.slice a l.length cap) l) {n : Nat} (hn : n ≤ l.length) : Rw w (.slice a n cap) (l.take n) := by
  obtain ⟨a', cap', e, h⟩ := h
  cases e
  refine ⟨a, cap, by simp; omega, ?_⟩
  rcases h with h | ⟨b, off, e, hlt, hc⟩
  · left; rw [h]; simp
  · right
    refine ⟨b, off, e, hlt, fun j hj => ?_⟩
    simp at hj
    simpa using hc j (by omega)
theorem sum_drop (ls : List (List Ent)) (i : Nat) : ((ls.drop i).map (·.length)).sum ≤ (ls.map (·.length)).sum := by
  induction ls generalizing i with
  | nil => simp
  | cons l ls ih =>
    cases i with
    | zero => simp
    | succ i =>
      have := ih i
      simp only [List.drop_succ_cons, List.map_cons, List.sum_cons]
      omega
theorem rws_at {w : World} {a : Option Addr} {c : Nat} {ls : List (List Ent)} (h : Rws w (.slice a ls.length c) ls) {i : Nat} (hi : i < ls.length) : ∃ b off ua uc, a = some ⟨b, off, none⟩ ∧ b < w.heap.size ∧ w.cell? ⟨b, off + i, none⟩ = some (.slice ua ls[i].length uc) ∧ Rw w (.slice ua ls[i].length uc) ls[i] := by
  obtain ⟨a', c', e, h⟩ := h
  cases e
  rcases h with h | ⟨b, off, rfl, hlt, hc⟩
  · subst h; simp at hi
  · obtain ⟨u, h1, h2⟩ := hc i hi
    have h2' := h2
    obtain ⟨ua, uc, rfl, -⟩ := h2
    exact ⟨b, off, ua, uc, rfl, hlt, h1, h2'⟩
theorem rw_cells {w : World} {a : Option Addr} {c : Nat} {l : List Ent} (h : Rw w (.slice a l.length c) l) {k : Nat} (hk : k < l.length) : ∃ b off, a = some ⟨b, off, none⟩ ∧ b < w.heap.size ∧ w.cell? ⟨b, off + k * 2, none⟩ = some (.string l[k].1) ∧ w.cell? ⟨b, off + k * 2 + 1, none⟩ = some (.int .i64 l[k].2) := by
  obtain ⟨a', c', e, h⟩ := h
  cases e
  rcases h with h | ⟨b, off, rfl, hlt, hc⟩
  · subst h; simp at hk
  · exact ⟨b, off, rfl, hlt, (hc k hk).1, (hc k hk).2⟩

set_option maxRecDepth 100000 in
set_option maxHeartbeats 16000000 in
theorem walk (v0 : Value) (ls : List (List Ent)) (m : Int) (hn : ls.length ≤ 1048576) (hsum : (ls.map (·.length)).sum ≤ 1048576) (hL : ∀ l ∈ ls, l.length ≤ 1048576 ∧ Short l) (w : World) (h0 : Rws w v0 ls) :
    Calls Try.prog 3 #[v0, .int .i64 m] w fun e w' => e = .returned (.bool true) ∧ Below w.heap.size w w' := by
  obtain ⟨i0, hi0, hz0, hz1, hz2⟩ := info_parts infoSeq
  obtain ⟨i1, hi1, hy0, hy1, hy2⟩ := info_parts infoSl
  obtain ⟨i2, hi2, hx0, hx1, hx2⟩ := info_parts infoRow
  obtain ⟨i3, hi3, ht0, ht1, ht2⟩ := info_parts infoLRow
  have R0 : Hid (Rws w v0 ls ∧ ∀ l ∈ ls, l.length ≤ 1048576 ∧ Short l) := ⟨h0, hL⟩
  have hML : (merged ls).length ≤ 1048576 := by have := merged_len ls; omega
  have HN : Hid (∀ i, (merged (ls.drop i)).length ≤ 1048576) := fun i => by have := merged_len (ls.drop i); have := sum_drop ls i; omega
  obtain ⟨a0, c0, rfl, -⟩ := h0
  clear hL
  go_enter Try.func3, Try.ntmps3
  go_wp2_with fail
  refine (shown_any _).mono ?_
  rintro e w1 ⟨rfl, B1⟩
  have K1 : Hid (Below w.heap.size w w1) := B1
  clear B1
  go_wp2_with fail
  go_loopw [6, 7, 8] (fun vr vw vi wr => ∃ (i : Nat) (X : Nat → Prop) (us rs : List Value), vi = .int .i64 i ∧ i ≤ ls.length ∧ Ga w1 ls i i X vr vw us rs wr) (fun _ _ vi _ => ls.length - (intOf vi).toNat)
  case atStart => exact ⟨0, _, _, _, rfl, Nat.zero_le _, Ga.start w1 ls⟩
  case round =>
    obtain ⟨i, X, us, rs, rfl, hi, hG⟩ := hrel
    obtain ⟨ra, rc, rfl, -⟩ := row_slice hG.rr
    obtain ⟨wa, wc, rfl, -⟩ := row_slice hG.rw
    by_cases hl : i < ls.length
    · have hli : (i : Int) < (ls.length : Int) := by omega
      obtain ⟨b, off, ua, uc, rfl, hbl, hcell, hRl⟩ := rws_at R0.out.1 hl
      have hlm := (R0.out.2 _ (List.getElem_mem hl)).1
      have hget : ls[i]? = some ls[i] := List.getElem?_eq_getElem hl
      generalize hle : ls[i] = l at *
      have HBw : Hid (Below w.heap.size w wr) := btr K1.out hG.b
      have HRl : Hid (Rw w (.slice ua l.length uc) l ∧ w.cell? ⟨b, off + i, none⟩ = some (.slice ua l.length uc) ∧ ls[i]? = some l) := ⟨hRl, hcell, hget⟩
      have c1 := (HBw.out.cell (p := ⟨b, off + i, none⟩) hbl).trans hcell
      have HG : Hid (Ga w1 ls i i X (.slice ra i rc) (.slice wa i wc) us rs wr) := hG
      clear hG hRl hcell hget hle
      go_wp2_with fail
      refine (over_f (HRl.out.1.b HBw.out) (by omega)).mono ?_
      rintro e w2 ⟨g2, b2, Xn, rfl, S2, B2, hXn⟩
      have H2 : Hid (Sn w2 (.func (.func g2) #[] b2) l Xn ∧ Below wr.heap.size wr w2 ∧ (∀ k, Xn k → wr.heap.size ≤ k) ∧ Ga w1 ls i i X (.slice ra i rc) (.slice wa i wc) us rs w2) := ⟨S2, B2, hXn, HG.out.below B2⟩
      have hsz2 := H2.out.2.2.2.b.size
      have hszr := HG.out.b.size
      clear S2 B2 hXn
      go_wp2_with (first
        | (at_builtin; refine wpList_append_own_at _ rfl _ _ 24 rfl w1.heap.size 27 i0 _ 1 8 Try.underlying24 hi0 hz0 hz1 hz2 rfl (by decide) (.slice ra i rc) i us rfl (H2.out.2.2.2.rr.alloc _) ⟨w2.heap.size, 0, none⟩ 1 1 [.func (.func g2) #[] b2] rfl rfl (cell_one_new _ _ _) (by simp [Value.oneCell']) (by unfold maxLen; omega) (by omega) (by simp; omega) ?_; intro v3 w3 ho3 hg3 _ hat3; have H3 : Hid (Ga w1 ls (i + 1) i (fun k => X k ∨ Xn k) v3 (.slice wa i wc) (us ++ [.func (.func g2) #[] b2]) rs w3) := H2.out.2.2.2.appR (n0 := wr.heap.size) HRl.out.2.2 H2.out.1 H2.out.2.2.1 hszr (fun g e => (HG.out.rr.lt g e).2) (fun g e => (HG.out.rw.lt g e).2) ho3 hg3 (by rw [World.size_alloc] at hat3; exact hat3); obtain ⟨a3, k3, rfl, -⟩ := row_slice ho3; clear ho3 hg3 hat3))
      go_loopw [9, 10] (fun vo vk wz => ∃ k : Nat, vk = .int .i64 k ∧ k ≤ l.length ∧ wz.ownsRow w3.heap.size 33 2 vo k (flat (l.take k)) ∧ Below w3.heap.size w3 wz) (fun _ vk _ => l.length - (intOf vk).toNat)
      case atStart => exact ⟨0, rfl, Nat.zero_le _, World.ownsRow_nil _ _ _ _, Below.refl _ _⟩
      case round =>
        obtain ⟨k, rfl, hk, hO, hB⟩ := hrel
        obtain ⟨ao, co, rfl, -⟩ := row_slice hO
        have hBz := btr K1.out (btr H3.out.b hB)
        have d1 := (hBz.cell (p := ⟨b, off + i, none⟩) hbl).trans HRl.out.2.1
        by_cases hkl : k < l.length
        · have hki : (k : Int) < (l.length : Int) := by omega
          have hk0 : (0 : Int) ≤ (k : Int) := Int.natCast_nonneg _
          have hi0' : (0 : Int) ≤ (i : Int) := Int.natCast_nonneg _
          obtain ⟨g, o, rfl, hgl, m1, m2⟩ := rw_cells HRl.out.1 hkl
          have n1 := (hBz.cell (p := ⟨g, o + k * 2, none⟩) hgl).trans m1
          have n2 := (hBz.cell (p := ⟨g, o + k * 2 + 1, none⟩) hgl).trans m2
          have hzz := hB.size
          have hz3 := (btr K1.out H3.out.b).size
          have hb3 : b < w3.heap.size := by omega
          have hg3 : g < w3.heap.size := by omega
          have far : ∀ j, j < w3.heap.size → some j ≠ (Value.slice ao k co).ownBlock := fun j hj e => by have := (hO.lt j e.symm).1; omega
          have hft : flat (l.take (k + 1)) = flat (l.take k) ++ [.string l[k].1, .int .i64 l[k].2] := by rw [List.take_succ_eq_append_getElem hkl, flat_append]; rfl
          have HO : Hid (wr.ownsRow w3.heap.size 33 2 (.slice ao k co) k (flat (l.take k)) ∧ Below w3.heap.size w3 wr ∧ flat (l.take (k + 1)) = flat (l.take k) ++ [.string l[k].1, .int .i64 l[k].2]) := ⟨hO, hB, hft⟩
          clear hO hB hft hBz m1 m2
          generalize l[k].1 = y at *
          generalize l[k].2 = z at *
          go_wp2_with fail
          go_region_held3 (fun w' => w'.cell? ⟨b, off + i, none⟩ = some (.slice (some ⟨g, o, none⟩) l.length uc) ∧ w'.cell? ⟨g, o + k * 2, none⟩ = some (.string y) ∧ w'.cell? ⟨g, o + k * 2 + 1, none⟩ = some (.int .i64 z))
            (first
              | go_keep
              | (go_split_ands
                 refine ⟨?_, ?_, ?_⟩
                 · (rw [hgrow.cell_far _ (by simp; omega) (far _ hb3)]; assumption)
                 · (rw [hgrow.cell_far _ (by simp; omega) (far _ hg3)]; assumption)
                 · (rw [hgrow.cell_far _ (by simp; omega) (far _ hg3)]; assumption)))
            ((refine step_append_lies _ (by rfl) _ _ _ (by rfl) w3.heap.size 33 i2 _ 2 24 Try.underlying30 hi2 hx0 hx1 hx2 rfl (by omega) (.slice ao k co) k (flat (l.take k)) (by rfl) ((HO.out.1.alloc _).drew) ⟨wr.heap.size, 0, none⟩ 1 1 [.string y, .int .i64 z] (by rfl) (by rfl) (World.news_of_block (cs := #[.string y, .int .i64 z]) (t := 33) (fr := (0, 0)) (heap_alloc_new wr _)) (by simp [Value.oneCell']) (by omega) (by unfold maxLen; omega) (by omega) (by simp; omega) (wr.heap.size + 1) (by simp) ?_; intro gg cap w4 hown1 hgrow hat hlt))
          all_goals
            go_wp2
            refine ⟨⟨k + 1, by go_num, by omega, by rw [HO.out.2.2]; exact hown1, ((HO.out.2.1.alloc hzz _).drew).grown hgrow (by simp; omega) (fun k hk => (HO.out.1.lt k hk).1)⟩, by simp [intOf]; omega⟩
        · have hki : ¬ (k : Int) < (l.length : Int) := by omega
          obtain rfl : k = l.length := by omega
          rw [List.take_length] at hO
          have HO : Hid (wr.ownsRow w3.heap.size 33 2 (.slice ao l.length co) l.length (flat l) ∧ Ga w1 ls (i + 1) i (fun k => X k ∨ Xn k) (.slice a3 (i + 1) k3) (.slice wa i wc) (us ++ [.func (.func g2) #[] b2]) rs wr) := ⟨hO, H3.out.below hB⟩
          have hszz := HO.out.2.b.size
          clear hO hB hBz
          go_wp2_with (first
            | (at_builtin; refine wpList_append_own_at _ rfl _ _ 25 rfl w1.heap.size 30 i1 _ 1 24 Try.underlying25 hi1 hy0 hy1 hy2 rfl (by decide) (.slice wa i wc) i rs rfl (HO.out.2.rw.alloc _) ⟨wr.heap.size, 0, none⟩ 1 1 [.slice ao l.length co] rfl rfl (cell_one_new _ _ _) (by simp [Value.oneCell']) (by unfold maxLen; omega) (by omega) (by simp; omega) ?_; intro v5 w5 ho5 hg5 _ hat5; have H5 : Hid (Ga w1 ls (i + 1) (i + 1) (fun k => X k ∨ Xn k) (.slice a3 (i + 1) k3) v5 (us ++ [.func (.func g2) #[] b2]) (rs ++ [.slice ao l.length co]) w5) := HO.out.2.appW HRl.out.2.2 (row_low HO.out.1 (Nat.zero_le _)) ho5 hg5 (by rw [World.size_alloc] at hat5; exact hat5); obtain ⟨a5, k5, rfl, -⟩ := row_slice ho5; clear ho5 hg5 hat5))
          go_roundw
          case rel => exact ⟨i + 1, _, _, _, by simp, by omega, H5.out⟩
          case measure => simp [intOf]; omega
    · have hli : ¬ (i : Int) < (ls.length : Int) := by omega
      obtain rfl : i = ls.length := by omega
      obtain ⟨⟨Y, hRg⟩, hRw⟩ := hG.fin
      have HG : Hid (Below w.heap.size w wr ∧ Rgs wr (.slice ra ls.length rc) ls Y ∧ Rws wr (.slice wa ls.length wc) ls) := ⟨btr K1.out hG.b, hRg, hRw⟩
      clear hG hRg hRw
      obtain ⟨M, hM⟩ : ∃ M, M = merged ls := ⟨_, rfl⟩
      rw [← hM] at hML
      have HM : Hid (M = merged ls) := hM
      clear hM
      go_wp2_with fail
      refine (Merge_f HG.out.2.1 (by unfold sumLen; omega) (by omega)).mono ?_
      rintro e w2 ⟨g2, b2, X2, rfl, S2, B2, -⟩
      rw [← HM.out] at S2
      have K2 : Hid (Below w.heap.size w w2 ∧ Sn w2 (.func (.func g2) #[] b2) M X2 ∧ Below wr.heap.size wr w2) := ⟨btr HG.out.1 B2, S2, B2⟩
      clear S2 B2
      go_wp2_with fail
      refine (rMerge_any (ls := ls) (by { obtain ⟨a', c', e, h⟩ := HG.out.2.2; cases e; exact ⟨_, _, rfl, h.imp id (fun ⟨b, off, e, hlt, hc⟩ => ⟨b, off, e, Nat.lt_of_lt_of_le hlt K2.out.2.2.size, fun j hj => by { obtain ⟨u, h1, h2⟩ := hc j hj; exact ⟨u, (K2.out.2.2.cell (p := ⟨b, off + j, none⟩) hlt).trans h1, h2.b K2.out.2.2⟩ }⟩)⟩ }) hn HN.out R0.out.2).mono ?_
      rintro e w3 ⟨v3, rfl, hO3, B3⟩
      rw [← HM.out] at hO3
      have K3 : Hid (Below w.heap.size w w3 ∧ Sn w3 (.func (.func g2) #[] b2) M X2 ∧ Rw w3 v3 M) := ⟨btr K2.out.1 B3, K2.out.2.1.below B3, rw_of_row hO3⟩
      obtain ⟨a3, k3, rfl, -⟩ := row_slice hO3
      clear hO3 B3 K2 HG
      go_wp2_with fail
      go_loopw [13, 14] (fun vo vk wz => ∃ k : Nat, vk = .int .i64 k ∧ k ≤ M.length ∧ wz.ownsRow w3.heap.size 32 2 vo k (flat (M.take k)) ∧ Below w3.heap.size w3 wz) (fun _ vk _ => M.length - (intOf vk).toNat)
      case atStart => exact ⟨0, rfl, Nat.zero_le _, World.ownsRow_nil _ _ _ _, Below.refl _ _⟩
      case round =>
        obtain ⟨k, rfl, hk, hO, hB⟩ := hrel
        obtain ⟨ao, co, rfl, -, hco, -⟩ := row_slice hO
        by_cases hkl : k < M.length
        · have hki : (k : Int) < (M.length : Int) := by omega
          have hk0 : (0 : Int) ≤ (k : Int) := Int.natCast_nonneg _
          obtain ⟨g, o, rfl, hgl, m1, m2⟩ := rw_cells K3.out.2.2 hkl
          have n1 := (hB.cell (p := ⟨g, o + k * 2, none⟩) hgl).trans m1
          have n2 := (hB.cell (p := ⟨g, o + k * 2 + 1, none⟩) hgl).trans m2
          have hzz := hB.size
          have far : ∀ j, j < w3.heap.size → some j ≠ (Value.slice ao k co).ownBlock := fun j hj e => by have := (hO.lt j e.symm).1; omega
          have hft : flat (M.take (k + 1)) = flat (M.take k) ++ [.string M[k].1, .int .i64 M[k].2] := by rw [List.take_succ_eq_append_getElem hkl, flat_append]; rfl
          have HO : Hid (wr.ownsRow w3.heap.size 32 2 (.slice ao k co) k (flat (M.take k)) ∧ Below w3.heap.size w3 wr ∧ flat (M.take (k + 1)) = flat (M.take k) ++ [.string M[k].1, .int .i64 M[k].2]) := ⟨hO, hB, hft⟩
          clear hO hB hft m1 m2
          generalize M[k].1 = y at *
          generalize M[k].2 = z at *
          go_wp2_with fail
          go_region_held3 (fun w' => w'.cell? ⟨g, o + k * 2, none⟩ = some (.string y) ∧ w'.cell? ⟨g, o + k * 2 + 1, none⟩ = some (.int .i64 z))
            (first
              | go_keep
              | (go_split_ands
                 refine ⟨?_, ?_⟩
                 · (rw [hgrow.cell_far _ (by simp; omega) (far _ hgl)]; assumption)
                 · (rw [hgrow.cell_far _ (by simp; omega) (far _ hgl)]; assumption)))
            ((refine step_append_lies _ (by rfl) _ _ _ (by rfl) w3.heap.size 32 i3 _ 2 24 Try.underlying29 hi3 ht0 ht1 ht2 rfl (by omega) (.slice ao k co) k (flat (M.take k)) (by rfl) ((HO.out.1.alloc _).drew) ⟨wr.heap.size, 0, none⟩ 1 1 [.string y, .int .i64 z] (by rfl) (by rfl) (World.news_of_block (cs := #[.string y, .int .i64 z]) (t := 32) (fr := (0, 0)) (heap_alloc_new wr _)) (by simp [Value.oneCell']) (by omega) (by unfold maxLen; omega) (by omega) (by simp; omega) (wr.heap.size + 1) (by simp) ?_; intro gg cap w4 hown1 hgrow hat hlt))
          all_goals
            go_wp2
            refine ⟨⟨k + 1, by go_num, by omega, by rw [HO.out.2.2]; exact hown1, ((HO.out.2.1.alloc hzz _).drew).grown hgrow (by simp; omega) (fun k hk => (HO.out.1.lt k hk).1)⟩, by simp [intOf]; omega⟩
        · have hki : ¬ (k : Int) < (M.length : Int) := by omega
          obtain rfl : k = M.length := by omega
          rw [List.take_length] at hO
          have K4 : Hid (Below w.heap.size w wr ∧ Sn wr (.func (.func g2) #[] b2) M X2 ∧ Rw wr (.slice ao M.length co) M) := ⟨btr K3.out.1 hB, K3.out.2.1.below hB, rw_of_row hO⟩
          clear hO hB K3
          go_wp2_with fail
          refine (all_f K4.out.2.1 (by omega)).mono ?_
          rintro e w5 ⟨a5, k5, rfl, R5, B5⟩
          have K5 : Hid (Below w.heap.size w w5 ∧ Sn w5 (.func (.func g2) #[] b2) M X2 ∧ Rw w5 (.slice ao M.length co) M ∧ Rw w5 (.slice a5 M.length k5) M) := ⟨btr K4.out.1 B5, K4.out.2.1.below B5, K4.out.2.2.b B5, R5⟩
          clear R5 B5 K4
          go_wp2_with fail
          refine (told_f K5.out.2.1 m (by omega)).mono ?_
          rintro e w6 ⟨a6, k6, rfl, R6, B6⟩
          have K6 : Hid (Below w.heap.size w w6 ∧ Sn w6 (.func (.func g2) #[] b2) M X2 ∧ Rw w6 (.slice ao M.length co) M ∧ Rw w6 (.slice a5 M.length k5) M ∧ Rw w6 (.slice a6 (most m M).length k6) (most m M)) := ⟨btr K5.out.1 B6, K5.out.2.1.below B6, K5.out.2.2.1.b B6, K5.out.2.2.2.b B6, R6⟩
          clear R6 B6 K5
          go_wp2_with fail
          refine (all_f K6.out.2.1 (by omega)).mono ?_
          rintro e w7 ⟨a7, k7, rfl, R7, B7⟩
          have K7 : Hid (Below w.heap.size w w7 ∧ Rw w7 (.slice ao M.length co) M ∧ Rw w7 (.slice a5 M.length k5) M ∧ Rw w7 (.slice a6 (most m M).length k6) (most m M) ∧ Rw w7 (.slice a7 M.length k7) M) := ⟨btr K6.out.1 B7, K6.out.2.2.1.b B7, K6.out.2.2.2.1.b B7, K6.out.2.2.2.2.b B7, R7⟩
          clear R7 B7 K6
          have hmc : m < 0 ∨ (0 ≤ m ∧ m < (M.length : Int)) ∨ (0 ≤ m ∧ (M.length : Int) ≤ m) := by omega
          rcases hmc with hm1 | ⟨hm1, hm2⟩ | ⟨hm1, hm2⟩
          · have hm3 : ¬ 0 ≤ m := by omega
            have hmost : most m M = M := by unfold most; rw [if_pos hm1]
            have HC : Hid (Rw w7 (.slice ao M.length co) (most m M)) := by rw [hmost]; exact K7.out.2.1
            have hmle : (most m M).length ≤ M.length := by rw [hmost]; exact Nat.le_refl _
            clear hmost
            go_wp2_with fail
            refine (same_any K7.out.2.2.1 K7.out.2.1 (by omega)).mono ?_
            rintro e w8 ⟨rfl, B8⟩
            have K8 : Hid (Below w7.heap.size w7 w8) := B8
            clear B8
            go_wp2_with fail
            refine (same_any (K7.out.2.2.2.1.b K8.out) (HC.out.b K8.out) (by omega)).mono ?_
            rintro e w9 ⟨rfl, B9⟩
            have K9 : Hid (Below w7.heap.size w7 w9) := btr K8.out B9
            clear B9 K8
            go_wp2_with fail
            refine (same_any (K7.out.2.2.2.2.b K9.out) (K7.out.2.1.b K9.out) (by omega)).mono ?_
            rintro e w10 ⟨rfl, B10⟩
            have K10 : Hid (Below w.heap.size w w10) := btr K7.out.1 (btr K9.out B10)
            clear B10 K9
            go_wp2
            go_ret
            exact ⟨rfl, K10.out⟩
          · have hm4 : m ≤ (co : Int) := by omega
            have hmost : most m M = M.take m.toNat := by unfold most; rw [if_neg (by omega)]
            have HC : Hid (Rw w7 (.slice ao m.toNat co) (most m M)) := by rw [hmost]; exact rw_take K7.out.2.1 (by omega)
            have hmle : (most m M).length ≤ M.length := by rw [hmost, List.length_take]; omega
            clear hmost
            go_wp2_with fail
            refine (same_any K7.out.2.2.1 K7.out.2.1 (by omega)).mono ?_
            rintro e w8 ⟨rfl, B8⟩
            have K8 : Hid (Below w7.heap.size w7 w8) := B8
            clear B8
            go_wp2_with fail
            refine (same_any (K7.out.2.2.2.1.b K8.out) (HC.out.b K8.out) (by omega)).mono ?_
            rintro e w9 ⟨rfl, B9⟩
            have K9 : Hid (Below w7.heap.size w7 w9) := btr K8.out B9
            clear B9 K8
            go_wp2_with fail
            refine (same_any (K7.out.2.2.2.2.b K9.out) (K7.out.2.1.b K9.out) (by omega)).mono ?_
            rintro e w10 ⟨rfl, B10⟩
            have K10 : Hid (Below w.heap.size w w10) := btr K7.out.1 (btr K9.out B10)
            clear B10 K9
            go_wp2
            go_ret
            exact ⟨rfl, K10.out⟩
          · have hm4 : ¬ m < (M.length : Int) := by omega
            have hmost : most m M = M := by unfold most; rw [if_neg (by omega), List.take_of_length_le (by omega)]
            have HC : Hid (Rw w7 (.slice ao M.length co) (most m M)) := by rw [hmost]; exact K7.out.2.1
            have hmle : (most m M).length ≤ M.length := by rw [hmost]; exact Nat.le_refl _
            clear hmost
            go_wp2_with fail
            refine (same_any K7.out.2.2.1 K7.out.2.1 (by omega)).mono ?_
            rintro e w8 ⟨rfl, B8⟩
            have K8 : Hid (Below w7.heap.size w7 w8) := B8
            clear B8
            go_wp2_with fail
            refine (same_any (K7.out.2.2.2.1.b K8.out) (HC.out.b K8.out) (by omega)).mono ?_
            rintro e w9 ⟨rfl, B9⟩
            have K9 : Hid (Below w7.heap.size w7 w9) := btr K8.out B9
            clear B9 K8
            go_wp2_with fail
            refine (same_any (K7.out.2.2.2.2.b K9.out) (K7.out.2.1.b K9.out) (by omega)).mono ?_
            rintro e w10 ⟨rfl, B10⟩
            have K10 : Hid (Below w.heap.size w w10) := btr K7.out.1 (btr K9.out B10)
            clear B10 K9
            go_wp2
            go_ret
            exact ⟨rfl, K10.out⟩

set_option maxRecDepth 100000 in
theorem lifted (os : Os) (started : os.Started) (H : Type) (enc : TypeId × Value → H) (F : Stop.Interp) :
    ReturnsInHanded {} Try.checked os 3 .any ((Rows.OpenSpec.upto Rows.mergeAllSpec).pre6 enc Try.prog Try.f3 Rows.mergeAllUptoRow.domain false) (((Rows.OpenSpec.upto Rows.mergeAllSpec).at F).post enc Try.prog Try.f3 false true false false) := by
  refine returnsInHanded_of_cond (C := Try.checked) (s := Rows.OpenSpec.upto Rows.mergeAllSpec) (k := Rows.uptoSmall) rfl own started (by kernel_rfl) Try.func3
    (OpenSpec.witness (enc := enc) (C := Try.checked) (s := Rows.OpenSpec.upto Rows.mergeAllSpec) (k := Rows.uptoSmall) rfl false ⟨#[], #[.slice none 0 0, .int .i64 0], []⟩ 8 (by kernel_rfl) (by kernel_rfl) (by kernel_rfl)
      (x := ([.nil, .lit (.int .i64 0)], [], [])) (by kernel_rfl) rfl (by kernel_rfl)) ?_
  intro W base args ds gs before hval0 hW _ hk _
  have hval : ∀ (j : Nat) t v, Try.f3.params[j]? = some t → args[j]? = some v → Value.okWide Try.prog W .any base t v := hval0
  have hW' := hW
  obtain ⟨p, q, hA0, hV, rfl, hfz, hnd⟩ := hW
  have hA : DataW.TrodAll enc Try.prog W 0 (fun _ => true) true Try.f3.params.toList args.toList ds p := hA0
  rw [Try.params3] at hA hval
  obtain ⟨v0, vs0, d0, ds0, p0, q0, hargs, rfl, rfl, h0, r0⟩ := trodAll_cons hA
  obtain ⟨v1, vs1, d1, ds1, p1, q1, rfl, rfl, rfl, h1, r1⟩ := trodAll_cons r0
  obtain ⟨rfl, rfl, rfl⟩ := trodAll_nil r1
  obtain rfl : args = #[v0, v1] := by cases args; simp_all
  obtain ⟨rfl, rfl⟩ := trodVars_none hV
  have k0 := h0
  have lt0 : ∀ x ∈ p0, x.block < W.heap.size := by obtain ⟨m, hm⟩ := k0; exact DataW.trod_lt m _ _ _ hm
  obtain ⟨ls, hls, hll, hlsum, hlk⟩ := openRowss (hval 0 22 v0 rfl rfl) h0
  obtain ⟨a1, rfl, rfl, rfl, w1⟩ := open_int Try.underlying3 (hval 1 3 v1 rfl rfl) h1
  have hsmall : Rows.uptoBulkAll ([d0, DataW.lit (.int .i64 a1)] ++ []) ≤ 1048576 := of_decide_eq_true hk
  simp only [List.append_nil, Rows.uptoBulkAll] at hsmall
  clear hA0 hval0
  refine (walk v0 ls a1 (by omega) (by omega) (fun l hl => ⟨by have := (hlk l hl).1; omega, fun e he => by have := (hlk l hl).2 e he; omega⟩) W hls).mono fun e W' ⟨he, bel⟩ => ?_
  subst he
  exact ⟨_, rfl, _, _, _, [], _, [], hW', trodAll_mk1 (shut_bool Try.underlying4 _), (trodAll_cons_mk (Below.trod laidOut (by kernel_rfl) (of_decide_eq_true (by kernel_rfl)) k0 bel lt0) (trodAll_cons_mk (shut_int Try.underlying3 w1) trodAll_mk0)), rfl, bel.frame _, fun h => by cases h⟩

theorem proved : Rows.MergeAllUptoSaid :=
  OpenClaim.holds_of_cond 3 Try.f3 rfl rfl rfl rfl rfl rfl rfl ⟨rfl, rfl, rfl, rfl, rfl⟩ rfl rfl rfl rfl rfl (by kernel_rfl) Try.func3 (by kernel_rfl)
    (of_decide_eq_true (by kernel_rfl)) (by unfold Func.isWrapper; first | (rw [if_pos (by decide +kernel)]; kernel_rfl) | (rw [if_neg (by decide +kernel)]; exact ⟨rfl, rfl⟩))
    (fun os started H enc _ F => lifted os started H enc F)
end Go.Proofs.Ytlhijbgdccejbaa.mergeAll

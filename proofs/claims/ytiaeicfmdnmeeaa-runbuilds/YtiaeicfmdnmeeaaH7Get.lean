/-
  Package run: Get and From of a run that was opened.
-/
import Derived.Test.YtiaeicfmdnmeeaaH7Run
namespace Go.Proofs.Ytiaeicfmdnmeeaa
open Go.RowKit Go.Shelf Go.Sort
open Go.Lib hiding intOf

attribute [local go_sem] Oper.semAt_some

theorem get7_no {l : List R7} {k : ByteArray} (h : is7 l k = false) : get7 l k = (([], false), false) := by unfold get7; rw [h]; rfl
theorem is7_nil (k : ByteArray) : is7 [] k = false := rfl
theorem is7_lt {l : List R7} {k : ByteArray} (h : is7 l k = true) : ∃ hp : at7 l k < l.length, S l[at7 l k].1 = k ∧ get7 l k = (l[at7 l k].2, true) := by
  obtain ⟨h1, h2⟩ := has_lt h
  have hp : at7 l k < l.length := by rw [ks_len] at h1; exact h1
  refine ⟨hp, by rw [← ks_get hp]; exact h2, ?_⟩
  unfold get7
  rw [if_pos h]
  simp [List.getD, hp]

set_option maxHeartbeats 2000000 in
theorem Get_any {w : World} {B r n b1 b2 : Nat} {l : List R7} {v : Value} (h : Ru w B r l n v b1 b2) (k : ByteArray) :
    Calls Try.prog 11 #[.pointer (some ⟨r, 0, none⟩), .string k] w fun e w' => e = .returned (.tuple #[cv (get7 l k).1, .bool (get7 l k).2]) ∧ Below w.heap.size w w' := by
  obtain ⟨va, vc, rfl, -⟩ := row_slice h.row
  obtain ⟨W, hW⟩ : ∃ W, W = w.alloc (.cells #[.string ⟨#[]⟩, .bool false] 37) := ⟨_, rfl⟩
  have hB : Below w.heap.size w W := by rw [hW]; exact (Below.refl _ _).alloc (Nat.le_refl _) _
  have hx : W.heap[w.heap.size]? = some (.cells #[.string ⟨#[]⟩, .bool false] 37) := by rw [hW]; exact heap_alloc_new w _
  have hsz : w.heap.size < W.heap.size := (Array.getElem?_eq_some_iff.1 hx).1
  have hu := h.below hB
  have HL := Len_any hu
  have HF := find_any hu k
  have c2 := hu.c2
  have ent : Ent0 44 := enters_of Try.func44 (by kernel_rfl) rfl
  unfold Ent0 at ent
  have hrl := hu.lt (.inl rfl)
  have HU : Hid (Ru W B r l n (.slice va l.length vc) b1 b2) := hu
  have HB : Hid (Below w.heap.size w W) := hB
  clear h hu hB
  by_cases h0 : l.length = 0
  · have hz : ((l.length : Int) == 0) = true := by rw [h0]; rfl
    have HE : Hid (get7 l k = (([], false), false)) := by
      show _ = _
      obtain rfl : l = [] := List.eq_nil_of_length_eq_zero h0
      exact get7_no (is7_nil k)
    have HG : Hid (W = w.alloc (.cells #[.string ⟨#[]⟩, .bool false] 37)) := hW
    have y0 : W.cell? ⟨w.heap.size, 0, none⟩ = some (.string ⟨#[]⟩) := by simp [World.cell?, hx]
    have y1 : W.cell? ⟨w.heap.size, 1, none⟩ = some (.bool false) := by simp [World.cell?, hx]
    have y3 : ∀ j, W.frozen? ⟨w.heap.size, j, none⟩ = false := fun j => by simp [World.frozen?, hx]
    clear hW h0
    go_enter Try.func11, Try.ntmps11
    go_wp2_with (go_at_call 12; rw [← HG.out]; refine HL.mono ?_; rintro e w2 ⟨rfl, rfl⟩)
    exact bodyPost_ret (v := .tuple #[.agg #[.string ⟨#[]⟩, .bool false], .bool false]) (by simp [results, Try.results11, go_sem, y0, y1]) rfl ⟨by rw [HE.out]; rfl, (HB.out.setCell (Nat.le_refl _) _).setCell (Nat.le_refl _) _⟩
  · have hz : ((l.length : Int) == 0) = false := beq_eq_false_iff_ne.2 (by omega)
    have HG : Hid (W = w.alloc (.cells #[.string ⟨#[]⟩, .bool false] 37)) := hW
    have hx2 : Hid (∀ w3, Below W.heap.size W w3 → w3.cell? ⟨w.heap.size, 0, none⟩ = some (.string ⟨#[]⟩) ∧ w3.cell? ⟨w.heap.size, 1, none⟩ = some (.bool false) ∧ (∀ j, w3.frozen? ⟨w.heap.size, j, none⟩ = false)) := fun w3 hb3 => by
      have hh := (hb3.block _ hsz).trans hx
      exact ⟨by simp [World.cell?, hh], by simp [World.cell?, hh], fun j => by simp [World.frozen?, hh]⟩
    clear hW h0 hx
    cases hi : is7 l k with
    | false =>
      rw [hi] at HF
      have HE : Hid (get7 l k = (([], false), false)) := get7_no hi
      clear hi
      go_enter Try.func11, Try.ntmps11
      go_wp2_with (first
        | (go_at_call 12; rw [← HG.out]; refine HL.mono ?_; rintro e w2 ⟨rfl, rfl⟩)
        | (go_at_call 44; refine HF.mono ?_; rintro e w3 ⟨rfl, hb3⟩; obtain ⟨y0, y1, y3⟩ := hx2.out w3 hb3; have HB3 : Hid (Below w2.heap.size w2 w3) := hb3; clear hb3))
      exact bodyPost_ret (v := .tuple #[.agg #[.string ⟨#[]⟩, .bool false], .bool false]) (by simp [results, Try.results11, go_sem, y0, y1]) rfl ⟨by rw [HE.out]; rfl, ((bel_of HB.out HB3.out (Nat.le_refl _)).setCell (Nat.le_refl _) _).setCell (Nat.le_refl _) _⟩
    | true =>
      rw [hi] at HF
      obtain ⟨hp, -, he⟩ := is7_lt hi
      have HE : Hid (get7 l k = (l[at7 l k].2, true)) := he
      have hp' : (at7 l k : Int) < (l.length : Int) := by omega
      have hp0 : (0 : Int) ≤ (at7 l k : Int) := by omega
      clear hi he
      generalize at7 l k = p at *
      obtain ⟨g, hg⟩ : ∃ g, va = some ⟨g, 0, none⟩ := by
        rcases HU.out.row.2 with ⟨_, h0⟩ | ⟨g, cap', cur, e, -⟩
        · omega
        · cases e; exact ⟨g, rfl⟩
      subst hg
      have HCC : Hid (∀ w3, Below W.heap.size W w3 → w3.cell? ⟨r, 0, none⟩ = some (.slice (some ⟨g, 0, none⟩) l.length vc) ∧ w3.cell? ⟨g, p * 3 + 1, none⟩ = some (.string (S l[p].2.1)) ∧ w3.cell? ⟨g, p * 3 + 2, none⟩ = some (.bool l[p].2.2)) := fun w3 hb3 =>
        ⟨(HU.out.below hb3).c0, row_cell (HU.out.below hb3).row (hcs_get hp).2.1, row_cell (HU.out.below hb3).row (hcs_get hp).2.2⟩
      obtain ⟨x, HX⟩ : ∃ x, Hid (l[p] = x) := ⟨_, show _ = _ from rfl⟩
      rw [HX.out] at HCC HE
      go_enter Try.func11, Try.ntmps11
      go_wp2_with (first
        | (go_at_call 12; rw [← HG.out]; refine HL.mono ?_; rintro e w2 ⟨rfl, rfl⟩)
        | (go_at_call 44; refine HF.mono ?_; rintro e w3 ⟨rfl, hb3⟩; obtain ⟨y0, y1, y3⟩ := hx2.out w3 hb3; obtain ⟨z0, z1, z2⟩ := HCC.out w3 hb3; have HB3 : Hid (Below w2.heap.size w2 w3) := hb3; clear hb3))
      exact bodyPost_ret (v := .tuple #[.agg #[.string (S x.2.1), .bool x.2.2], .bool true]) (by simp [results, Try.results11, go_sem, y0, y1]) rfl ⟨by rw [HE.out]; rfl, ((bel_of HB.out HB3.out (Nat.le_refl _)).setCell (Nat.le_refl _) _).setCell (Nat.le_refl _) _⟩

set_option maxRecDepth 100000 in
set_option maxHeartbeats 4000000 in
theorem from1_runs {W1 : World} {B r n b1 b2 br bk : Nat} {l : List R7} {v : Value} {k : ByteArray} (hu : Ru W1 B r l n v b1 b2) (hbr : Bx W1 br (.pointer (some ⟨r, 0, none⟩)) 30) (hbk : Bx W1 bk (.string k) 9) :
    Runs encc 48 #[.pointer (some ⟨br, 0, none⟩), .pointer (some ⟨bk, 0, none⟩)] (l.drop (at7 l k)) (fun j => ruf r b1 b2 v j ∨ j = br ∨ j = bk) W1 := by
  intro y J Jx hC
  have HL := Len_any hu
  have HF := find_any hu k
  have ent : Ent0 44 := enters_of Try.func44 (by kernel_rfl) rfl
  unfold Ent0 at ent
  obtain ⟨va, vc, rfl, -, hvc, -⟩ := row_slice hu.row
  have hle := at7_le l k
  have c0 := hu.c0
  have c2 := hu.c2
  have g1 := hbr.cell
  have g2 := hbk.cell
  have HU : Hid (Ru W1 B r l n (.slice va l.length vc) b1 b2) := hu
  obtain ⟨yf, yc, hyf⟩ := hC.yk.form
  subst hyf
  refine (callsIn_wide (n := 9)).1 ?_
  refine callsIn_of_wp Try.func48 rfl trivial ?_ rfl
  simp only [Try.ntmps48, List.size_toArray, List.length_cons, List.length_nil, Nat.reduceAdd, Nat.reduceSub, Array.replicate_succ, Array.replicate_zero, List.push_toArray, List.append_toArray, List.nil_append, List.cons_append]
  have HC : Hid _ := hC
  by_cases h0 : l.length = 0
  · have hz : ((l.length : Int) == 0) = true := by rw [h0]; rfl
    have hst := hC.start W1 (Below.refl _ _)
    have hd : l.drop (at7 l k) = [] := by rw [List.eq_nil_of_length_eq_zero h0]; simp
    have HS : Hid (J W1.heap.size (l.drop (at7 l k)) W1) := by rw [hd]; exact hst
    clear hC hst hd h0
    gi_wp2_with (refine ⟨trivial, ?_⟩; gi_at_call 12; refine (callsIn_wide.2 HL).mono ?_; rintro e w2 ⟨rfl, rfl⟩)
    refine bodyPost_ret (results_none rfl _ _ _) rfl ?_
    exact ⟨⟨_, rfl⟩, .inl ⟨_, HS.out⟩⟩
  · have hz : ((l.length : Int) == 0) = false := beq_eq_false_iff_ne.2 (by omega)
    obtain ⟨g, hg⟩ : ∃ g, va = some ⟨g, 0, none⟩ := by
      rcases HU.out.row.2 with ⟨_, h0⟩ | ⟨g, cap', cur, e, -⟩
      · omega
      · cases e; exact ⟨g, rfl⟩
    subst hg
    clear hC h0 hu hbr hbk
    gi_wp2_with (refine ⟨trivial, ?_⟩; gi_at_call 12; refine (callsIn_wide.2 HL).mono ?_; rintro e w2 ⟨rfl, rfl⟩)
    have HFq : ∀ q, Calls Try.prog 44 #[.string k, .pointer (some ⟨b1, 0, none⟩), .pointer (some ⟨b2, 0, none⟩)] (w2.drewN q) _ := fun q => find_any (HU.out.kq (w' := w2.drewN q) ⟨Nat.le_refl _, fun _ _ _ h _ => h⟩) k
    obtain ⟨p, HPP⟩ : ∃ p, Hid (at7 l k = p) := ⟨_, show _ = _ from rfl⟩
    rw [HPP.out] at HFq hle
    refine wpIn_mono (Q := Exit.then (fun a w' => a = { tmps := #[.func yf #[] yc, .pointer (some ⟨br, 0, none⟩), .pointer (some ⟨bk, 0, none⟩), undef, .int .i64 (p : Int), .bool (is7 l k), undef, undef, .pointer (some ⟨r, 0, none⟩), .int .i64 (l.length : Int), .bool false, .tuple #[.int .i64 (p : Int), .bool (is7 l k)], .pointer (some ⟨r, 0, none⟩), .pointer (some ⟨r, 0, none⟩), .pointer (some ⟨r, 2, none⟩), .func (.func 44) #[] #[.pointer (some ⟨b1, 0, none⟩), .pointer (some ⟨b2, 0, none⟩)], .string k, .tuple #[.int .i64 (p : Int), .bool (is7 l k)], .int .i64 (p : Int), .bool (is7 l k), undef, undef, undef, undef, undef, undef, undef, undef, undef, undef, undef, undef, undef, undef, undef, undef, undef, undef, undef], defers := [] } ∧ Below w2.heap.size w2 w') (fun _ _ _ => False)) ?reg ?post
    case reg =>
      gi_region_with (first | (refine ⟨trivial, ?_⟩; gi_at_call 44; refine (callsIn_wide.2 (HFq _)).mono ?_; rintro e w3 ⟨rfl, hb3⟩))
      all_goals exact ⟨rfl, ⟨hb3.os, hb3.tape, hb3.output, hb3.size, hb3.block⟩⟩
    case post =>
      rintro e a w3 he
      cases e with
      | normal =>
        obtain ⟨rfl, hb3⟩ := he
        have HU3 : Hid (Ru w3 B r l n (.slice (some ⟨g, 0, none⟩) l.length vc) b1 b2) := HU.out.below hb3
        have d0 := HU3.out.c0
        have hll := HU3.out.le
        have d1 := (hb3.cell (p := ⟨br, 0, none⟩) (World.block_lt_of_cell? _ _ g1)).trans g1
        have hst := HC.out.start w3 hb3
        have HST : Hid (J w3.heap.size [] w3) := hst
        have HB3 : Hid (Below w2.heap.size w2 w3) := hb3
        have hp0 : (0 : Int) ≤ (p : Int) := by omega
        have hpl : (p : Int) ≤ (l.length : Int) := by omega
        have hpc : (p : Int) ≤ (vc : Int) := by omega
        have hlc : (l.length : Int) ≤ (vc : Int) := by omega
        have hpl' : p ≤ l.length := hle
        have hlc' : l.length ≤ vc := hvc
        clear hst hb3 HL HF HFq c0 c2 g1 g2
        by_cases hvp : vc - p = 0
        · gi_wp2
          gi_loopw [27] (fun vi wr => ∃ i : Nat, i ≤ l.length - p ∧ vi = .int .i64 (i : Int) ∧ Hid (J w3.heap.size ((l.drop p).take i) wr ∧ Kq (fun j => ruf r b1 b2 (.slice (some ⟨g, 0, none⟩) l.length vc) j ∨ j = br ∨ j = bk) w3 wr)) (fun vi _ => l.length - p - (intOf vi).toNat)
          case atStart => exact ⟨0, Nat.zero_le _, rfl, by rw [List.take_zero]; exact HST.out, Kq.refl _ _⟩
          case round =>
            obtain ⟨i, hi, rfl, HJ⟩ := hrel
            obtain rfl : i = l.length - p := by omega
            have hlt' : ¬ ((l.length - p : Nat) : Int) < ((l.length - p : Nat) : Int) := by omega
            have HK : Hid (J w3.heap.size (l.drop (at7 l k)) wr) := by
              have := HJ.out.1
              rw [List.take_of_length_le (by rw [List.length_drop]; exact Nat.le_refl _)] at this
              rw [HPP.out]; exact this
            gi_wp2
            go_end0
            exact ⟨⟨_, rfl⟩, .inl ⟨_, HK.out⟩⟩
        · gi_wp2
          gi_loopw [27] (fun vi wr => ∃ i : Nat, i ≤ l.length - p ∧ vi = .int .i64 (i : Int) ∧ Hid (J w3.heap.size ((l.drop p).take i) wr ∧ Kq (fun j => ruf r b1 b2 (.slice (some ⟨g, 0, none⟩) l.length vc) j ∨ j = br ∨ j = bk) w3 wr)) (fun vi _ => l.length - p - (intOf vi).toNat)
          case atStart => exact ⟨0, Nat.zero_le _, rfl, by rw [List.take_zero]; exact HST.out, Kq.refl _ _⟩
          case round =>
            obtain ⟨i, hi, rfl, HJ⟩ := hrel
            by_cases hlt : i < l.length - p
            · have hlt' : (i : Int) < ((l.length - p : Nat) : Int) := by omega
              have hi0 : (0 : Int) ≤ (i : Int) := by omega
              have hpi : p + i < l.length := by omega
              have hUr : Ru wr B r l n (.slice (some ⟨g, 0, none⟩) l.length vc) b1 b2 := HU3.out.kq (HJ.out.2.sub (fun k h => .inl h))
              have m0 := row_cell hUr.row (hcs_get hpi).1
              have m1 := row_cell hUr.row (hcs_get hpi).2.1
              have m2 := row_cell hUr.row (hcs_get hpi).2.2
              rw [show (p + i) * 3 = p * 3 + i * 3 by omega] at m0 m1 m2
              have hdl : i < (l.drop p).length := by rw [List.length_drop]; omega
              have hdx : (l.drop p)[i] = l[p + i] := by simp
              have hpre : (l.drop p).take i ++ [l[p + i]] = (l.drop p).take (i + 1) := by rw [← hdx]; exact (List.take_succ_eq_append_getElem hdl).symm
              have hpf : (l.drop p).take i ++ [l[p + i]] <+: l.drop (at7 l k) := by rw [HPP.out, hpre]; exact List.take_prefix _ _
              have hY := HC.out.go w3.heap.size ((l.drop p).take i) l[p + i] wr (wr.alloc (.cells #[.string (S l[p + i].1), .string (S l[p + i].2.1), .bool l[p + i].2.2] 76)) HJ.out.1 (Sb.of_below ((Below.refl _ wr).alloc (Nat.le_refl _) _)) hpf
              rw [hpre] at hY
              obtain ⟨x, HX⟩ : ∃ x, Hid (l[p + i] = x) := ⟨_, show _ = _ from rfl⟩
              rw [HX.out] at m0 m1 m2 hY
              clear hUr hpre hpf hdx hdl HX
              rcases id HC.out.yk with ⟨ly, hly⟩ | ⟨yg, yb, hyg, eg⟩
              · cases hly
                obtain ⟨fn, tmps, assign, body, hyl, hR⟩ := hY.yield
                simp only [encc, cv] at hyl
                have HR : Hid _ := hR
                clear hR hY
                gi_wp2
                refine (HR.out _).mono ?_
                rintro e W5 ⟨k1, k2, ⟨rfl, hj⟩ | ⟨rfl, hj⟩⟩
                · have HK : Hid (J w3.heap.size ((l.drop p).take (i + 1)) W5 ∧ Kq (fun j => ruf r b1 b2 (.slice (some ⟨g, 0, none⟩) l.length vc) j ∨ j = br ∨ j = bk) w3 W5) := ⟨hj, HJ.out.2.trans (((Kq.refl _ wr).alloc _).trans (k2.sub (fun _ h => .inl h)))⟩
                  clear k1 k2 hj
                  gi_wp2
                  go_roundw
                  case rel => exact ⟨i + 1, by omega, by simp, HK⟩
                  case measure => simp [intOf]; omega
                · have HK : Hid _ := hj
                  clear k1 k2 hj
                  gi_wp2
                  refine bodyPost_ret (results_none rfl _ _ _) rfl ?_
                  exact ⟨⟨_, rfl⟩, .inr ⟨_, _, HK.out⟩⟩
              · cases hyg
                have hc := hY.func
                simp only [encc, cv] at hc
                unfold Ent0 at eg
                clear hY
                gi_wp2
                refine ⟨trivial, ?_⟩
                refine (callsIn_wide.2 hc).mono ?_
                rintro e W5 ⟨k1, k2, ⟨rfl, hj⟩ | ⟨rfl, hj⟩⟩
                · have HK : Hid (J w3.heap.size ((l.drop p).take (i + 1)) W5 ∧ Kq (fun j => ruf r b1 b2 (.slice (some ⟨g, 0, none⟩) l.length vc) j ∨ j = br ∨ j = bk) w3 W5) := ⟨hj, HJ.out.2.trans (((Kq.refl _ wr).alloc _).trans (k2.sub (fun _ h => .inl h)))⟩
                  clear k1 k2 hj
                  gi_wp2
                  go_roundw
                  case rel => exact ⟨i + 1, by omega, by simp, HK⟩
                  case measure => simp [intOf]; omega
                · have HK : Hid _ := hj
                  clear k1 k2 hj
                  gi_wp2
                  refine bodyPost_ret (results_none rfl _ _ _) rfl ?_
                  exact ⟨⟨_, rfl⟩, .inr ⟨_, _, HK.out⟩⟩
            · obtain rfl : i = l.length - p := by omega
              have hlt' : ¬ ((l.length - p : Nat) : Int) < ((l.length - p : Nat) : Int) := by omega
              have HK : Hid (J w3.heap.size (l.drop (at7 l k)) wr) := by
                have := HJ.out.1
                rw [List.take_of_length_le (by rw [List.length_drop]; exact Nat.le_refl _)] at this
                rw [HPP.out]; exact this
              gi_wp2
              go_end0
              exact ⟨⟨_, rfl⟩, .inl ⟨_, HK.out⟩⟩
      | _ => exact he.elim

theorem ru_from {w : World} {B r n b1 b2 br bk : Nat} {l : List R7} {v : Value} {k : ByteArray} (hu : Ru w B r l n v b1 b2) (hbr : Bx w br (.pointer (some ⟨r, 0, none⟩)) 30) (hbk : Bx w bk (.string k) 9) :
    Sq encc w (.func (.func 48) #[] #[.pointer (some ⟨br, 0, none⟩), .pointer (some ⟨bk, 0, none⟩)]) (l.drop (at7 l k)) (fun j => ruf r b1 b2 v j ∨ j = br ∨ j = bk) := by
  refine ⟨_, _, rfl, enters_of Try.func48 (by kernel_rfl) rfl, ?_, fun W1 hk => from1_runs (hu.kq (hk.sub (fun _ h => .inl h))) (kq_bx hk (.inr (.inl rfl)) hbr) (kq_bx hk (.inr (.inr rfl)) hbk)⟩
  rintro j (h | rfl | rfl)
  · exact hu.lt h
  · exact hbr.lt
  · exact hbk.lt
def frv (n : Nat) : Value := .func (.func 48) #[] #[.pointer (some ⟨n, 0, none⟩), .pointer (some ⟨n + 1, 0, none⟩)]
set_option maxHeartbeats 1000000 in
theorem From_any {w : World} {B r n b1 b2 : Nat} {l : List R7} {v : Value} (h : Ru w B r l n v b1 b2) (k : ByteArray) :
    Calls Try.prog 29 #[.pointer (some ⟨r, 0, none⟩), .string k] w fun e w' => e = .returned (frv w.heap.size) ∧ Sq encc w' (frv w.heap.size) (l.drop (at7 l k)) (fun j => ruf r b1 b2 v j ∨ j = w.heap.size ∨ j = w.heap.size + 1) ∧ Below w.heap.size w w' := by
  have hmf : ∀ (fn : Fn) (first cap : Array Value) (w : World), (Instr.makeFunc fn first cap).run Try.prog w = .ok (.func fn first cap) w := fun _ _ _ _ => rfl
  obtain ⟨W2, hW2⟩ : ∃ W2, W2 = (w.alloc (.cells #[.pointer (some ⟨r, 0, none⟩)] 30)).alloc (.cells #[.string k] 9) := ⟨_, rfl⟩
  have hB2 : Below w.heap.size w W2 := by rw [hW2]; exact ((Below.refl _ w).alloc (Nat.le_refl _) _).alloc (by simp) _
  have q1 : Bx W2 w.heap.size (.pointer (some ⟨r, 0, none⟩)) 30 := by rw [hW2]; exact (Bx.new w _ _).alloc _
  have q2 : Bx W2 (w.heap.size + 1) (.string k) 9 := by
    rw [hW2]
    have := Bx.new (w.alloc (.cells #[.pointer (some ⟨r, 0, none⟩)] 30)) (.string k) 9
    rwa [World.size_alloc] at this
  have HS : Hid (Sq encc W2 (frv w.heap.size) (l.drop (at7 l k)) (fun j => ruf r b1 b2 v j ∨ j = w.heap.size ∨ j = w.heap.size + 1)) := ru_from (h.below hB2) q1 q2
  clear q1 q2 h
  go_enter Try.func29, Try.ntmps29
  go_wp2
  rw [← hW2]
  go_ret
  exact ⟨rfl, HS.out, hB2⟩
set_option maxRecDepth 100000 in
set_option maxHeartbeats 1000000 in
theorem from1_nil {W1 : World} {br bk : Nat} (hbr : Bx W1 br (.pointer none) 30) (X : Nat → Prop) : Runs encc 48 #[.pointer (some ⟨br, 0, none⟩), .pointer (some ⟨bk, 0, none⟩)] [] X W1 := by
  intro y J Jx hC
  have HL := Len_nil W1
  have g1 := hbr.cell
  obtain ⟨yf, yc, hyf⟩ := hC.yk.form
  subst hyf
  have HS : Hid (J W1.heap.size [] W1) := hC.start W1 (Below.refl _ _)
  clear hC
  refine (callsIn_wide (n := 9)).1 ?_
  refine callsIn_of_wp Try.func48 rfl trivial ?_ rfl
  simp only [Try.ntmps48, List.size_toArray, List.length_cons, List.length_nil, Nat.reduceAdd, Nat.reduceSub, Array.replicate_succ, Array.replicate_zero, List.push_toArray, List.append_toArray, List.nil_append, List.cons_append]
  gi_wp2_with (refine ⟨trivial, ?_⟩; gi_at_call 12; refine (callsIn_wide.2 HL).mono ?_; rintro e w2 ⟨rfl, rfl⟩)
  refine bodyPost_ret (results_none rfl _ _ _) rfl ?_
  exact ⟨⟨_, rfl⟩, .inl ⟨_, HS.out⟩⟩
set_option maxHeartbeats 1000000 in
theorem From_nil (w : World) (k : ByteArray) :
    Calls Try.prog 29 #[.pointer none, .string k] w fun e w' => e = .returned (frv w.heap.size) ∧ Sq encc w' (frv w.heap.size) [] (fun j => j = w.heap.size ∨ j = w.heap.size + 1) ∧ Below w.heap.size w w' := by
  have hmf : ∀ (fn : Fn) (first cap : Array Value) (w : World), (Instr.makeFunc fn first cap).run Try.prog w = .ok (.func fn first cap) w := fun _ _ _ _ => rfl
  obtain ⟨W2, hW2⟩ : ∃ W2, W2 = (w.alloc (.cells #[.pointer none] 30)).alloc (.cells #[.string k] 9) := ⟨_, rfl⟩
  have hB2 : Below w.heap.size w W2 := by rw [hW2]; exact ((Below.refl _ w).alloc (Nat.le_refl _) _).alloc (by simp) _
  have hs2 : W2.heap.size = w.heap.size + 2 := by rw [hW2]; simp
  have q1 : Bx W2 w.heap.size (.pointer none) 30 := by rw [hW2]; exact (Bx.new w _ _).alloc _
  have HS : Hid (Sq encc W2 (frv w.heap.size) [] (fun j => j = w.heap.size ∨ j = w.heap.size + 1)) := by
    refine ⟨_, _, rfl, enters_of Try.func48 (by kernel_rfl) rfl, ?_, fun W1 hk => from1_nil (kq_bx hk (.inl rfl) q1) _⟩
    rintro j (rfl | rfl) <;> omega
  clear q1 hs2
  go_enter Try.func29, Try.ntmps29
  go_wp2
  rw [← hW2]
  go_ret
  exact ⟨rfl, HS.out, hB2⟩
end Go.Proofs.Ytiaeicfmdnmeeaa

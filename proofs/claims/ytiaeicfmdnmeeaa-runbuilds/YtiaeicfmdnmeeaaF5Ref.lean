/-
  Contract of the document's Take: it comes to the same as package frame's: the plain function tak.
-/
import Derived.Test.YtiaeicfmdnmeeaaF5Take
namespace Go.Proofs.Ytiaeicfmdnmeeaa
open Go.RowKit

set_option maxHeartbeats 400000 in
theorem rTake_short {w : World} (l : List UInt8) (h : l.length < 6) :
    Calls Try.prog 24 #[.string (S l)] w fun e w' => e = .returned (quad (0, [], 0, 2)) ∧ Below w.heap.size w w' := by
  have hs := S_size l
  have h' : (l.length : Int) < 6 := by omega
  go_enter Try.func24, Try.ntmps24
  go_wp2
  exact bodyPost_ret (v := quad (0, [], 0, 2)) (by simp [results, Try.results24, go_sem, quad, S]) rfl ⟨rfl, Below.refl _ _⟩

set_option maxHeartbeats 2000000 in
set_option maxRecDepth 100000 in
/-- the length is none -/
theorem rTake_num {w : World} (l : List UInt8) (h : 6 ≤ l.length) (hl : l.length ≤ 4611686018427387904) {v er : Nat} {r : List UInt8} (hres : Hid (numb 0 0 (l.drop 5) = (v, r, er))) (he : er ≠ 0) :
    Calls Try.prog 24 #[.string (S l)] w fun e w' => e = .returned (quad (0, [], 0, er)) ∧ Below w.heap.size w w' := by
  have hs := S_size l
  have h' : ¬ (l.length : Int) < 6 := by omega
  have h5 : (5 : Int) ≤ (l.length : Int) := by omega
  have h5' : 5 ≤ l.length := by omega
  have hx : (S l).extract 5 l.length = S (l.drop 5) := S_drop l 5
  have hl5 : (l.drop 5).length ≤ 9223372036854775800 := by rw [List.length_drop]; omega
  have hbe : (((er : Nat) : Int) != 0) = true := by rw [bne_iff_ne]; omega
  have HN := Number_bad hl5 hres he w
  generalize l.drop 5 = t at *
  clear he
  go_enter Try.func24, Try.ntmps24
  go_wp2_with (go_at_call 46; refine HN.mono ?_; rintro e w1 ⟨rfl, rfl⟩)
  exact bodyPost_ret (v := quad (0, [], 0, er)) (by simp [results, Try.results24, go_sem, quad, S]) rfl ⟨rfl, Below.refl _ _⟩

set_option maxHeartbeats 2000000 in
set_option maxRecDepth 100000 in
/-- the length is too great -/
theorem rTake_long {w : World} (l : List UInt8) (h : 6 ≤ l.length) (hl : l.length ≤ 4611686018427387904) {v : Nat} {r : List UInt8} (hres : Hid (numb 0 0 (l.drop 5) = (v, r, 0))) (hv : 65536 < v) :
    Calls Try.prog 24 #[.string (S l)] w fun e w' => e = .returned (quad (0, [], 0, 13)) ∧ Below w.heap.size w w' := by
  have hs := S_size l
  have h' : ¬ (l.length : Int) < 6 := by omega
  have h5 : (5 : Int) ≤ (l.length : Int) := by omega
  have h5' : 5 ≤ l.length := by omega
  have hx : (S l).extract 5 l.length = S (l.drop 5) := S_drop l 5
  have hl5 : (l.drop 5).length ≤ 9223372036854775800 := by rw [List.length_drop]; omega
  have hv' : (65536 : Int) < (v : Int) := by omega
  have HN := Number_ok hl5 hres w
  generalize l.drop 5 = t at *
  go_enter Try.func24, Try.ntmps24
  go_wp2_with (go_at_call 46; refine HN.mono ?_; rintro e w1 ⟨rfl, rfl⟩)
  exact bodyPost_ret (v := quad (0, [], 0, 13)) (by simp [results, Try.results24, go_sem, quad, S]) rfl ⟨rfl, Below.refl _ _⟩

set_option maxHeartbeats 2000000 in
set_option maxRecDepth 100000 in
/-- fewer bytes than the length says -/
theorem rTake_more {w : World} (l : List UInt8) (h : 6 ≤ l.length) (hl : l.length ≤ 4611686018427387904) {v : Nat} {r : List UInt8} (hres : Hid (numb 0 0 (l.drop 5) = (v, r, 0))) (hv : v ≤ 65536) (hr : r.length < v) :
    Calls Try.prog 24 #[.string (S l)] w fun e w' => e = .returned (quad (0, [], 0, 2)) ∧ Below w.heap.size w w' := by
  have hs := S_size l
  have h' : ¬ (l.length : Int) < 6 := by omega
  have h5 : (5 : Int) ≤ (l.length : Int) := by omega
  have h5' : 5 ≤ l.length := by omega
  have hx : (S l).extract 5 l.length = S (l.drop 5) := S_drop l 5
  have hl5 : (l.drop 5).length ≤ 9223372036854775800 := by rw [List.length_drop]; omega
  have hv' : ¬ (65536 : Int) < (v : Int) := by omega
  have HN := Number_ok hl5 hres w
  have hrl : r.length ≤ (l.drop 5).length := by have := numb_le (l.drop 5) 0 0; rw [hres.out] at this; exact this
  have hdl : (l.drop 5).length = l.length - 5 := List.length_drop
  obtain ⟨k, hk⟩ : ∃ k, (l.drop 5).length - r.length = k := ⟨_, rfl⟩
  rw [hk] at HN
  have hen : (l.length : Int) < 5 + (k : Int) + (v : Int) := by omega
  have hk2 : k ≤ 4611686018427387904 := by omega
  clear hk hdl
  generalize l.drop 5 = t at *
  go_enter Try.func24, Try.ntmps24
  go_wp2_with (go_at_call 46; refine HN.mono ?_; rintro e w1 ⟨rfl, rfl⟩)
  exact bodyPost_ret (v := quad (0, [], 0, 2)) (by simp [results, Try.results24, go_sem, quad, S]) rfl ⟨rfl, Below.refl _ _⟩

set_option maxHeartbeats 4000000 in
set_option maxRecDepth 100000 in
theorem rTake_ok {w : World} (l : List UInt8) (h : 6 ≤ l.length) (hl : l.length ≤ 4611686018427387904) {v : Nat} {r : List UInt8} (hres : Hid (numb 0 0 (l.drop 5) = (v, r, 0))) (hv : v ≤ 65536) (hr : v ≤ r.length) (hq : l.take 4 = four (sumOf ((l.drop 4).take (l.length - 4 - (r.drop v).length)))) :
    Calls Try.prog 24 #[.string (S l)] w fun e w' => e = .returned (quad (l.getD 4 0, r.take v, l.length - (r.drop v).length, 0)) ∧ Below w.heap.size w w' := by
  have hs := S_size l
  have h' : ¬ (l.length : Int) < 6 := by omega
  have h5 : (5 : Int) ≤ (l.length : Int) := by omega
  have h5' : 5 ≤ l.length := by omega
  have h4i : (4 : Int) < (l.length : Int) := by omega
  have h4 : (4 : Int) ≤ (l.length : Int) := by omega
  have h4' : 4 ≤ l.length := by omega
  have h4'' : 4 < l.length := by omega
  have hx : (S l).extract 5 l.length = S (l.drop 5) := S_drop l 5
  have hl5 : (l.drop 5).length ≤ 9223372036854775800 := by rw [List.length_drop]; omega
  have hv' : ¬ (65536 : Int) < (v : Int) := by omega
  have HN := Number_ok hl5 hres w
  have hrl : r.length ≤ (l.drop 5).length := by have := numb_le (l.drop 5) 0 0; rw [hres.out] at this; exact this
  have hdl : (l.drop 5).length = l.length - 5 := List.length_drop
  have hsuf : (l.drop 5).drop ((l.drop 5).length - r.length) = r := by
    have e := numb_one0 hres.out
    have e2 := congrArg List.length e
    rw [List.length_append] at e2
    rw [show (l.drop 5).length - r.length = (Lib.uvarint v).length by omega]
    conv => lhs; rw [e]
    rw [List.drop_left]
  obtain ⟨k, hk⟩ : ∃ k, (l.drop 5).length - r.length = k := ⟨_, rfl⟩
  rw [hk] at HN hsuf
  have hk2 : k ≤ 4611686018427387904 := by omega
  obtain ⟨en, he⟩ : ∃ en, en = 5 + k + v := ⟨_, rfl⟩
  have hen : (5 : Int) + (k : Int) + (v : Int) = (en : Int) := by omega
  have hel : en = l.length - (r.drop v).length := by rw [List.length_drop]; omega
  have hgt : ¬ (l.length : Int) < (en : Int) := by omega
  have he1 : (en : Int) ≤ (l.length : Int) := by omega
  have he1' : en ≤ l.length := by omega
  have he2 : (4 : Int) ≤ (en : Int) := by omega
  have he2' : 4 ≤ en := by omega
  have he3 : (5 : Int) + (k : Int) ≤ (en : Int) := by omega
  obtain ⟨k5, hk5⟩ : ∃ k5, k5 = 5 + k := ⟨_, rfl⟩
  have hk5' : (5 : Int) + (k : Int) = (k5 : Int) := by omega
  have he4 : (k5 : Int) ≤ (en : Int) := by omega
  have he4' : k5 ≤ en := by omega
  have hen2 : (k5 : Int) + (v : Int) = (en : Int) := by omega
  have hat : (S l)[4]'(by omega) = l[4] := S_at l h4'' _
  have HD : Hid (l.getD 4 0 = l[4]) := by show _ = _; simp [List.getD, h4'']
  have hx4 : (S l).extract 0 4 = S (l.take 4) := S_take l 4
  have hxn : (S l).extract 4 en = S ((l.drop 4).take (l.length - 4 - (r.drop v).length)) := by rw [S_ext, hel, Nat.sub_right_comm]
  have hxe : (S l).extract k5 en = S (r.take v) := by
    rw [S_ext, hk5, ← List.drop_drop, hsuf, show en - (5 + k) = v by omega]
  rw [hq] at hx4
  generalize hbd : (l.drop 4).take (l.length - 4 - (r.drop v).length) = bd at *
  have hbl : bd.length ≤ 4611686018427387904 := by rw [← hbd]; simp; omega
  have hsl := sumOf_lt bd
  have HE : Hid (en = l.length - (r.drop v).length) := hel
  generalize r.take v = tx at *
  generalize l[4] = c at *
  clear hk hdl hel hbd hq hsuf he hk5
  generalize l.drop 5 = t at *
  go_enter Try.func24, Try.ntmps24
  go_wp2_with (go_at_call 46; refine HN.mono ?_; rintro e w1 ⟨rfl, rfl⟩)
  go_region_held3 (fun _ => True) (trivial) (first
    | (go_at_call 38; refine (rSum_any bd (by omega) _).mono ?_; rintro e w6 ⟨rfl, rfl⟩)
    | (go_at_call 37; refine (rFour_any _ hsl _).mono ?_; rintro e w7 ⟨rfl, hb7⟩))
  go_wp2
  go_quiet (fail)
  go_wp2
  refine bodyPost_ret (v := quad (c, tx, en, 0)) (by simp [results, Try.results24, go_sem, quad, S]) rfl ⟨?_, ?_⟩
  · rw [HD.out, ← HE.out]
  · exact bel_dn (bel_of (Below.refl _ _).drew hb7 (Nat.le_refl _)) _
set_option maxHeartbeats 4000000 in
set_option maxRecDepth 100000 in
theorem rTake_sum {w : World} (l : List UInt8) (h : 6 ≤ l.length) (hl : l.length ≤ 4611686018427387904) {v : Nat} {r : List UInt8} (hres : Hid (numb 0 0 (l.drop 5) = (v, r, 0))) (hv : v ≤ 65536) (hr : v ≤ r.length) (hq : l.take 4 ≠ four (sumOf ((l.drop 4).take (l.length - 4 - (r.drop v).length)))) :
    Calls Try.prog 24 #[.string (S l)] w fun e w' => e = .returned (quad (0, [], 0, 3)) ∧ Below w.heap.size w w' := by
  have hs := S_size l
  have h' : ¬ (l.length : Int) < 6 := by omega
  have h5 : (5 : Int) ≤ (l.length : Int) := by omega
  have h5' : 5 ≤ l.length := by omega
  have h4i : (4 : Int) < (l.length : Int) := by omega
  have h4 : (4 : Int) ≤ (l.length : Int) := by omega
  have h4' : 4 ≤ l.length := by omega
  have h4'' : 4 < l.length := by omega
  have hx : (S l).extract 5 l.length = S (l.drop 5) := S_drop l 5
  have hl5 : (l.drop 5).length ≤ 9223372036854775800 := by rw [List.length_drop]; omega
  have hv' : ¬ (65536 : Int) < (v : Int) := by omega
  have HN := Number_ok hl5 hres w
  have hrl : r.length ≤ (l.drop 5).length := by have := numb_le (l.drop 5) 0 0; rw [hres.out] at this; exact this
  have hdl : (l.drop 5).length = l.length - 5 := List.length_drop
  have hsuf : (l.drop 5).drop ((l.drop 5).length - r.length) = r := by
    have e := numb_one0 hres.out
    have e2 := congrArg List.length e
    rw [List.length_append] at e2
    rw [show (l.drop 5).length - r.length = (Lib.uvarint v).length by omega]
    conv => lhs; rw [e]
    rw [List.drop_left]
  obtain ⟨k, hk⟩ : ∃ k, (l.drop 5).length - r.length = k := ⟨_, rfl⟩
  rw [hk] at HN hsuf
  have hk2 : k ≤ 4611686018427387904 := by omega
  obtain ⟨en, he⟩ : ∃ en, en = 5 + k + v := ⟨_, rfl⟩
  have hen : (5 : Int) + (k : Int) + (v : Int) = (en : Int) := by omega
  have hel : en = l.length - (r.drop v).length := by rw [List.length_drop]; omega
  have hgt : ¬ (l.length : Int) < (en : Int) := by omega
  have he1 : (en : Int) ≤ (l.length : Int) := by omega
  have he1' : en ≤ l.length := by omega
  have he2 : (4 : Int) ≤ (en : Int) := by omega
  have he2' : 4 ≤ en := by omega
  have he3 : (5 : Int) + (k : Int) ≤ (en : Int) := by omega
  obtain ⟨k5, hk5⟩ : ∃ k5, k5 = 5 + k := ⟨_, rfl⟩
  have hk5' : (5 : Int) + (k : Int) = (k5 : Int) := by omega
  have he4 : (k5 : Int) ≤ (en : Int) := by omega
  have he4' : k5 ≤ en := by omega
  have hen2 : (k5 : Int) + (v : Int) = (en : Int) := by omega
  have hat : (S l)[4]'(by omega) = l[4] := S_at l h4'' _
  have HD : Hid (l.getD 4 0 = l[4]) := by show _ = _; simp [List.getD, h4'']
  have hx4 : (S l).extract 0 4 = S (l.take 4) := S_take l 4
  have hxn : (S l).extract 4 en = S ((l.drop 4).take (l.length - 4 - (r.drop v).length)) := by rw [S_ext, hel, Nat.sub_right_comm]
  have hxe : (S l).extract k5 en = S (r.take v) := by
    rw [S_ext, hk5, ← List.drop_drop, hsuf, show en - (5 + k) = v by omega]
  generalize hbd : (l.drop 4).take (l.length - 4 - (r.drop v).length) = bd at *
  have hbl : bd.length ≤ 4611686018427387904 := by rw [← hbd]; simp; omega
  have hsl := sumOf_lt bd
  have hne : ((S (four (sumOf bd))).toList == (S (l.take 4)).toList) = false := by
    rw [S_toList, S_toList, beq_eq_false_iff_ne]
    exact fun e => hq e.symm
  have HE : Hid (en = l.length - (r.drop v).length) := hel
  generalize l.take 4 = q at *
  generalize r.take v = tx at *
  generalize l[4] = c at *
  clear hk hdl hel hbd hq hsuf he hk5
  generalize l.drop 5 = t at *
  go_enter Try.func24, Try.ntmps24
  go_wp2_with (go_at_call 46; refine HN.mono ?_; rintro e w1 ⟨rfl, rfl⟩)
  go_region_held3 (fun _ => True) (trivial) (first
    | (go_at_call 38; refine (rSum_any bd (by omega) _).mono ?_; rintro e w6 ⟨rfl, rfl⟩)
    | (go_at_call 37; refine (rFour_any _ hsl _).mono ?_; rintro e w7 ⟨rfl, hb7⟩))
  go_wp2
  exact bodyPost_ret (v := quad (0, [], 0, 3)) (by simp [results, Try.results24, go_sem, quad, S]) rfl ⟨rfl, bel_of (Below.refl _ _).drew hb7 (Nat.le_refl _)⟩

theorem rTake_any (l : List UInt8) (hl : l.length ≤ 4611686018427387904) (w : World) :
    Calls Try.prog 24 #[.string (S l)] w fun e w' => e = .returned (quad (tak l)) ∧ Below w.heap.size w w' := by
  by_cases h6 : l.length < 6
  · have ht : tak l = (0, [], 0, 2) := if_pos h6
    rw [ht]
    exact rTake_short l h6
  · obtain ⟨v, r, er, hn⟩ : ∃ v r er, numb 0 0 (l.drop 5) = (v, r, er) := ⟨_, _, _, rfl⟩
    have h6' : 6 ≤ l.length := by omega
    by_cases he : er = 0
    · subst he
      by_cases hv : 65536 < v
      · have hc : cnt 65536 (l.drop 5) = (0, r, 13) := by unfold cnt; rw [hn]; show (if (0 : Nat) ≠ 0 then _ else if (65536 : Int) < (v : Int) then _ else _) = _; rw [if_neg (by simp), if_pos (by omega)]
        have hx : tex 65536 (l.drop 5) = ([], r, 13) := by unfold tex; rw [hc]; rfl
        have ht : tak l = (0, [], 0, 13) := by unfold tak; rw [if_neg h6, hx]; rfl
        rw [ht]
        exact rTake_long l h6' hl hn hv
      · have hc : cnt 65536 (l.drop 5) = (v, r, 0) := by unfold cnt; rw [hn]; show (if (0 : Nat) ≠ 0 then _ else if (65536 : Int) < (v : Int) then _ else _) = _; rw [if_neg (by simp), if_neg (by omega)]
        by_cases hr : r.length < v
        · have hx : tex 65536 (l.drop 5) = ([], r, 2) := by unfold tex; rw [hc]; show (if (0 : Nat) ≠ 0 then _ else if r.length < v then _ else _) = _; rw [if_neg (by simp), if_pos hr]
          have ht : tak l = (0, [], 0, 2) := by unfold tak; rw [if_neg h6, hx]; rfl
          rw [ht]
          exact rTake_more l h6' hl hn (by omega) hr
        · have hx : tex 65536 (l.drop 5) = (r.take v, r.drop v, 0) := by unfold tex; rw [hc]; show (if (0 : Nat) ≠ 0 then _ else if r.length < v then _ else _) = _; rw [if_neg (by simp), if_neg hr]
          by_cases hq : l.take 4 = four (sumOf ((l.drop 4).take (l.length - 4 - (r.drop v).length)))
          · have ht : tak l = (l.getD 4 0, r.take v, l.length - (r.drop v).length, 0) := by
              unfold tak; rw [if_neg h6, hx]; show (if (0 : Nat) ≠ 0 then _ else _) = _; rw [if_neg (by simp), if_pos hq]
            rw [ht]
            exact rTake_ok l h6' hl hn (by omega) (by omega) hq
          · have ht : tak l = (0, [], 0, 3) := by
              unfold tak; rw [if_neg h6, hx]; show (if (0 : Nat) ≠ 0 then _ else _) = _; rw [if_neg (by simp), if_neg hq]
            rw [ht]
            exact rTake_sum l h6' hl hn (by omega) (by omega) hq
    · have hc : cnt 65536 (l.drop 5) = (0, r, er) := by unfold cnt; rw [hn]; show (if er ≠ 0 then _ else _) = _; rw [if_pos he]
      have hx : tex 65536 (l.drop 5) = ([], r, er) := by unfold tex; rw [hc]; show (if er ≠ 0 then _ else _) = _; rw [if_pos he]
      have ht : tak l = (0, [], 0, er) := by unfold tak; rw [if_neg h6, hx]; show (if er ≠ 0 then _ else _) = _; rw [if_pos he]
      rw [ht]
      exact rTake_num l h6' hl hn he
end Go.Proofs.Ytiaeicfmdnmeeaa

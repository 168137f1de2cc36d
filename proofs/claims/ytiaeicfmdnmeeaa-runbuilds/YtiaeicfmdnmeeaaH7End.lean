/-
  Package run's writer: all its bytes (end).
-/
import Derived.Test.YtiaeicfmdnmeeaaH7Tail
namespace Go.Proofs.Ytiaeicfmdnmeeaa
open Go.RowKit Go.Shelf Go.Sort
open Go.Lib hiding intOf

/-- what the writer's end comes to -/
def endS (bs : List (List R7)) : List UInt8 × Nat := if 65536 < (ix bs).length ∨ 1048576 < (rn bs).length then ([], 13) else (rn bs, 0)
theorem rn_len (bs : List (List R7)) : (rn bs).length = (fbs bs).length + (tl bs).length := by simp [rn]
theorem tl_len (bs : List (List R7)) : (tl bs).length = (frm 3 (ix bs)).length + 4 := by simp [tl, four_length]
theorem fbs_count (l : List (List R7)) : l.length ≤ (fbs l).length := by
  induction l with
  | nil => simp
  | cons y t ih => rw [fbs_cons, List.length_append, fb_length]; simp; omega
theorem fbs_mem {l : List (List R7)} {y : List R7} (h : y ∈ l) : (fb y).length ≤ (fbs l).length := by
  induction l with
  | nil => cases h
  | cons z t ih =>
    rw [fbs_cons, List.length_append]
    rcases List.mem_cons.1 h with rfl | h
    · omega
    · have := ih h; omega

set_option maxHeartbeats 4000000 in
set_option maxRecDepth 100000 in
theorem end_any {X : Nat → Prop} {w : World} {B wb blk : Nat} {bs : List (List R7)} {cur : List R7} (h : Ws X w B wb blk bs cur) (hD : (fbs bs).length ≤ 1200000) (hL : (ld cur).length ≤ 65536) (hK : ∀ y ∈ cls bs cur, (key1 y).length ≤ 64) (hB : B ≤ w.heap.size) :
    Calls Try.prog 33 #[.pointer (some ⟨wb, 0, none⟩)] w fun e w' => e = .returned (.tuple #[.string (S (endS (cls bs cur)).1), .int .i64 ((endS (cls bs cur)).2 : Int)]) ∧ Ch X w w' := by
  have HC := close_any h hD hL hB
  have hD2 : (fbs (cls bs cur)).length ≤ 1300000 := by
    unfold cls
    split
    · omega
    · rename_i hc
      have := fb_length cur
      have := txt_length (ld cur)
      have := Lib.uvarint_length64 (show (ld cur).length < 18446744073709551616 by omega)
      rw [fbs_snoc, List.length_append]; omega
  generalize cls bs cur = b2 at *
  have hbl := fbs_count b2
  have hsp : ∀ s ∈ b2.map spn, s.1 ≤ 2000000 ∧ s.2.length ≤ 64 := by
    intro s hs
    obtain ⟨y, hy, rfl⟩ := List.mem_map.1 hs
    exact ⟨by have := fbs_mem hy; show (fb y).length ≤ _; omega, hK y hy⟩
  have HT : ∀ (w2 : World) (sv : Value), w2.ownsRow B 97 2 sv (b2.map spn).length (spc (b2.map spn)) → _ := fun w2 sv hr => tail_any hr (by rw [List.length_map]; omega) hsp
  rw [show tlr (b2.map spn) = if (ix b2).length ≤ 65536 then (tl b2, 0) else ([], 13) by unfold tlr; rw [il_spn]; rfl] at HT
  have hrn := rn_len b2
  by_cases hx : (ix b2).length ≤ 65536
  · rw [if_pos hx] at HT
    have htl : (tl b2).length ≤ 65564 := by rw [tl_len]; have := frm3_len hx; omega
    have q1 := S_size (tl b2)
    by_cases hr : 1048576 < (rn b2).length
    · have HE : Hid (endS b2 = ([], 13)) := by show _ = _; unfold endS; rw [if_pos (.inr hr)]
      have hr' : (1048576 : Int) < ((fbs b2).length : Int) + ((tl b2).length : Int) := by omega
      clear hrn hr
      go_enter Try.func33, Try.ntmps33
      go_wp2_with (first
        | (go_at_call 52; refine HC.mono ?_; rintro e w2 ⟨⟨v, rfl⟩, ⟨dv, sv, lv, fk, h2, -, -⟩, hc2⟩; obtain ⟨da, dc, rfl, -⟩ := row_slice h2.rd; obtain ⟨sa, sc, hsv, -⟩ := row_slice h2.rs; rw [List.length_map] at hsv; subst hsv; have m2 := h2.c2; have HC2 : Hid _ := hc2; have H2 : Hid _ := h2; clear h2 hc2)
        | (go_at_call 41; refine (HT w2 (.slice sa b2.length sc) H2.out.rs).mono ?_; rintro e w3 ⟨rfl, hb3⟩; have m1 := (H2.out.below hb3).c1; have HB3 : Hid _ := hb3; clear hb3))
      go_ret2
      exact ⟨by rw [HE.out]; rfl, HC2.out.join (Ch.of_below HB3.out (X := fun _ => False)) (fun _ _ h => h.elim)⟩
    · have HE : Hid (endS b2 = (rn b2, 0)) := by show _ = _; unfold endS; rw [if_neg (by omega)]
      have hr' : decide ((1048576 : Int) < ((fbs b2).length : Int) + ((tl b2).length : Int)) = false := decide_eq_false (by omega)
      have q2 := S_size (fbs b2)
      obtain ⟨R, HR⟩ : ∃ R, Hid (S (rn b2) = R) := ⟨_, show _ = _ from rfl⟩
      have q3 : S (fbs b2) ++ S (tl b2) = R := (S_append _ _).trans HR.out
      clear hrn hr
      go_enter Try.func33, Try.ntmps33
      go_wp2_with fail
      refine HC.mono ?_
      rintro e w2 ⟨⟨v, rfl⟩, ⟨dv, sv, lv, fk, h2, -, -⟩, hc2⟩
      obtain ⟨da, dc, rfl, -⟩ := row_slice h2.rd
      obtain ⟨sa, sc, hsv, -⟩ := row_slice h2.rs
      rw [List.length_map] at hsv
      subst hsv
      have m2 := h2.c2
      have HC2 : Hid _ := hc2
      have H2 : Hid _ := h2
      clear h2 hc2
      go_wp2_with fail
      refine (HT w2 (.slice sa b2.length sc) H2.out.rs).mono ?_
      rintro e w3 ⟨rfl, hb3⟩
      have m1 := (H2.out.below hb3).c1
      have hcv := conv_own (H2.out.below hb3).rd
      have HB3 : Hid _ := hb3
      clear hb3 HC HT hK hsp
      go_wp2_with fail
      go_ret2
      exact ⟨by rw [HE.out, HR.out]; rfl, HC2.out.join (Ch.of_below HB3.out (X := fun _ => False)) (fun _ _ h => h.elim)⟩
  · rw [if_neg hx] at HT
    have HE : Hid (endS b2 = ([], 13)) := by show _ = _; unfold endS; rw [if_pos (.inl (by omega))]
    clear hrn
    go_enter Try.func33, Try.ntmps33
    go_wp2_with (first
      | (go_at_call 52; refine HC.mono ?_; rintro e w2 ⟨⟨v, rfl⟩, ⟨dv, sv, lv, fk, h2, -, -⟩, hc2⟩; obtain ⟨da, dc, rfl, -⟩ := row_slice h2.rd; obtain ⟨sa, sc, hsv, -⟩ := row_slice h2.rs; rw [List.length_map] at hsv; subst hsv; have m2 := h2.c2; have HC2 : Hid _ := hc2; have H2 : Hid _ := h2; clear h2 hc2)
      | (go_at_call 41; refine (HT w2 (.slice sa b2.length sc) H2.out.rs).mono ?_; rintro e w3 ⟨rfl, hb3⟩; have m1 := (H2.out.below hb3).c1; have HB3 : Hid _ := hb3; clear hb3))
    go_ret2
    exact ⟨by rw [HE.out]; rfl, HC2.out.join (Ch.of_below HB3.out (X := fun _ => False)) (fun _ _ h => h.elim)⟩
end Go.Proofs.Ytiaeicfmdnmeeaa

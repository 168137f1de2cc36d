/-
  Runs, plain: rows, what may be wrong with them, the blocks they stand in, a run's bytes; what is read of a block's load; that there is one form.
-/
import Derived.Test.YtiaeicfmdnmeeaaF5Back
import Derived.Test.YtiaeicfmdnmeeaaROrd
namespace Go.Proofs.Ytiaeicfmdnmeeaa
open Go.RowKit

/-- a row: key, value, gone -/
abbrev R7 := List UInt8 × List UInt8 × Bool
/-- why it may not be -/
def may (x : R7) : Nat := if 64 < x.1.length ∨ 16384 < x.2.1.length then 13 else if x.2.2 = true ∧ x.2.1 ≠ [] then 1 else 0
/-- .. behind a key -/
def chk (a : Option (List UInt8)) (x : R7) : Nat :=
  if may x ≠ 0 then may x else match a with
    | some k => if lt (S k) (S x.1) = true then 0 else 8
    | none => 0
/-- the first one along a list -/
def flt : Option (List UInt8) → List R7 → Nat
  | _, [] => 0
  | a, x :: t => if chk a x ≠ 0 then chk a x else flt (some x.1) t
/-- the key ahead, behind a list -/
def las (a : Option (List UInt8)) (l : List R7) : Option (List UInt8) := match l.getLast? with
  | some x => some x.1
  | none => a
theorem las_nil (a : Option (List UInt8)) : las a [] = a := rfl
theorem las_cons (a : Option (List UInt8)) (x : R7) (t : List R7) : las a (x :: t) = las (some x.1) t := by
  unfold las
  cases t with
  | nil => rfl
  | cons y s => rw [List.getLast?_cons_cons, List.getLast?_eq_some_getLast (List.cons_ne_nil y s)]
theorem las_snoc (a : Option (List UInt8)) (l : List R7) (x : R7) : las a (l ++ [x]) = some x.1 := by
  unfold las
  rw [List.getLast?_concat]
theorem flt_append : ∀ (l : List R7) (a : Option (List UInt8)) (m : List R7), flt a (l ++ m) = if flt a l ≠ 0 then flt a l else flt (las a l) m
  | [], a, m => by simp [flt, las_nil]
  | x :: t, a, m => by
    rw [List.cons_append, flt, flt, las_cons]
    by_cases h : chk a x = 0
    · simp only [h, ne_eq, not_true, if_false]
      exact flt_append t _ m
    · simp [h]
theorem flt_ok {l m : List R7} {a : Option (List UInt8)} (h : flt a l = 0) : flt a (l ++ m) = flt (las a l) m := by rw [flt_append, h]; simp
theorem flt_left {l m : List R7} {a : Option (List UInt8)} (h : flt a (l ++ m) = 0) : flt a l = 0 ∧ flt (las a l) m = 0 := by
  rw [flt_append] at h
  by_cases h0 : flt a l = 0
  · rw [h0] at h; simp at h; exact ⟨h0, h⟩
  · rw [if_pos h0] at h; exact absurd h h0
theorem chk_may {a : Option (List UInt8)} {x : R7} (h : chk a x = 0) : may x = 0 := by
  unfold chk at h
  by_cases h0 : may x = 0
  · exact h0
  · rw [if_pos h0] at h; exact h
theorem flt_may : ∀ {l : List R7} {a : Option (List UInt8)}, flt a l = 0 → ∀ x ∈ l, may x = 0
  | [], _, _, x, hx => by cases hx
  | y :: t, a, h, x, hx => by
    rw [flt] at h
    by_cases h0 : chk a y = 0
    · rw [if_neg (by simpa using h0)] at h
      rcases List.mem_cons.1 hx with rfl | hx
      · exact chk_may h0
      · exact flt_may h x hx
    · rw [if_pos h0] at h; exact absurd h h0
theorem may_len {x : R7} (h : may x = 0) : x.1.length ≤ 64 ∧ x.2.1.length ≤ 16384 := by
  unfold may at h
  by_cases h0 : 64 < x.1.length ∨ 16384 < x.2.1.length
  · rw [if_pos h0] at h; cases h
  · omega
/-- a row's bytes -/
def mark (g : Bool) : UInt8 := if g then 1 else 0
def rb (x : R7) : List UInt8 := txt x.1 ++ mark x.2.2 :: txt x.2.1
def ld (l : List R7) : List UInt8 := l.flatMap rb
theorem ld_snoc (l : List R7) (x : R7) : ld (l ++ [x]) = ld l ++ rb x := by simp [ld]
theorem ld_cons (x : R7) (l : List R7) : ld (x :: l) = rb x ++ ld l := by simp [ld]
theorem rb_length (x : R7) : (rb x).length = (txt x.1).length + (txt x.2.1).length + 1 := by simp [rb]; omega
theorem rb_pos (x : R7) : 3 ≤ (rb x).length := by have := txt_pos x.1; have := txt_pos x.2.1; rw [rb_length]; omega
theorem rb_most {x : R7} (h : may x = 0) : (rb x).length ≤ 16470 := by
  obtain ⟨h1, h2⟩ := may_len h
  have e1 := Lib.uvarint_length64 (show x.1.length < 18446744073709551616 by omega)
  have e2 := Lib.uvarint_length64 (show x.2.1.length < 18446744073709551616 by omega)
  rw [rb_length, txt_length, txt_length]; omega
theorem ld_pos {l : List R7} (h : l ≠ []) : 3 ≤ (ld l).length := by
  cases l with
  | nil => exact absurd rfl h
  | cons x t => have := rb_pos x; rw [ld_cons, List.length_append]; omega
/-- the blocks of rows -/
def cutB (b : Nat) : List R7 → List R7 → List (List R7)
  | [], [] => []
  | c :: cs, [] => [c :: cs]
  | cur, x :: t => if b ≤ (ld cur).length then cur :: cutB b [x] t else cutB b (cur ++ [x]) t
theorem cutB_nil (b : Nat) : cutB b [] [] = [] := by rw [cutB]
theorem cutB_end (b : Nat) {cur : List R7} (h : cur ≠ []) : cutB b cur [] = [cur] := by
  cases cur with
  | nil => exact absurd rfl h
  | cons c cs => rw [cutB]
theorem cutB_full {b : Nat} {cur : List R7} (h : b ≤ (ld cur).length) (x : R7) (t : List R7) : cutB b cur (x :: t) = cur :: cutB b [x] t := by rw [cutB]; rw [if_pos h]
theorem cutB_more {b : Nat} {cur : List R7} (h : (ld cur).length < b) (x : R7) (t : List R7) : cutB b cur (x :: t) = cutB b (cur ++ [x]) t := by rw [cutB]; rw [if_neg (by omega)]
theorem cutB_begin {b : Nat} (h : 0 < b) (x : R7) (t : List R7) : cutB b [] (x :: t) = cutB b [x] t := cutB_more (by simpa [ld] using h) x t
theorem cutB_flat (b : Nat) : ∀ (l cur : List R7), (cutB b cur l).flatten = cur ++ l
  | [], [] => by simp [cutB_nil]
  | [], c :: cs => by rw [cutB_end b (List.cons_ne_nil c cs)]; simp
  | x :: t, cur => by
    by_cases h : b ≤ (ld cur).length
    · rw [cutB_full h, List.flatten_cons, cutB_flat b t [x]]; simp
    · rw [cutB_more (by omega), cutB_flat b t _]; simp
/-- no block is empty, none is long -/
theorem cutB_each {b : Nat} (hb : 0 < b) : ∀ (l cur : List R7), (cur = [] ∨ (ld cur).length ≤ b + 16470) → (∀ x ∈ l, may x = 0) → ∀ y ∈ cutB b cur l, y ≠ [] ∧ (ld y).length ≤ b + 16470
  | [], [], _, _, y, hy => by rw [cutB_nil] at hy; cases hy
  | [], c :: cs, h, _, y, hy => by
    rw [cutB_end b (List.cons_ne_nil c cs)] at hy
    obtain rfl : y = c :: cs := by simpa using hy
    exact ⟨List.cons_ne_nil _ _, by rcases h with h | h; · cases h
                                    · exact h⟩
  | x :: t, cur, h, hm, y, hy => by
    have hx := rb_most (hm x (by simp))
    by_cases hf : b ≤ (ld cur).length
    · rw [cutB_full hf] at hy
      rcases List.mem_cons.1 hy with rfl | hy
      · refine ⟨?_, ?_⟩
        · rintro rfl; simp [ld] at hf; omega
        · rcases h with h | h
          · subst h; simp [ld]
          · exact h
      · exact cutB_each hb t [x] (.inr (by simp [ld]; omega)) (fun z hz => hm z (by simp [hz])) y hy
    · rw [cutB_more (by omega)] at hy
      exact cutB_each hb t (cur ++ [x]) (.inr (by rw [ld_snoc, List.length_append]; omega)) (fun z hz => hm z (by simp [hz])) y hy
/-- a block's frame; what the index has of it -/
def fb (y : List R7) : List UInt8 := frm 2 (ld y)
def key1 (y : List R7) : List UInt8 := (y.headD ([], [], false)).1
def ixe (y : List R7) : List UInt8 := Lib.uvarint (fb y).length ++ txt (key1 y)
def fbs (bs : List (List R7)) : List UInt8 := bs.flatMap fb
def ixs (bs : List (List R7)) : List UInt8 := bs.flatMap ixe
def ix (bs : List (List R7)) : List UInt8 := Lib.uvarint bs.length ++ ixs bs
def tl (bs : List (List R7)) : List UInt8 := frm 3 (ix bs) ++ four (frm 3 (ix bs)).length
/-- a run's bytes -/
def rn (bs : List (List R7)) : List UInt8 := fbs bs ++ tl bs
theorem fbs_snoc (bs : List (List R7)) (y : List R7) : fbs (bs ++ [y]) = fbs bs ++ fb y := by simp [fbs]
theorem fbs_cons (y : List R7) (bs : List (List R7)) : fbs (y :: bs) = fb y ++ fbs bs := by simp [fbs]
theorem fbs_append (a b : List (List R7)) : fbs (a ++ b) = fbs a ++ fbs b := by simp [fbs]
theorem ixs_snoc (bs : List (List R7)) (y : List R7) : ixs (bs ++ [y]) = ixs bs ++ ixe y := by simp [ixs]
theorem ixs_cons (y : List R7) (bs : List (List R7)) : ixs (y :: bs) = ixe y ++ ixs bs := by simp [ixs]
theorem ixs_append (a b : List (List R7)) : ixs (a ++ b) = ixs a ++ ixs b := by simp [ixs]
theorem fb_length (y : List R7) : (fb y).length = 5 + (txt (ld y)).length := frm_length 2 (ld y)
/-- what Build comes to -/
def bld (block : Int) (l : List R7) : List UInt8 × Nat :=
  if block < 64 ∨ 4096 < block then ([], 1)
  else if flt none l ≠ 0 then ([], flt none l)
  else if 65536 < (ix (cutB block.toNat [] l)).length ∨ 1048576 < (rn (cutB block.toNat [] l)).length then ([], 13)
  else (rn (cutB block.toNat [] l), 0)

/-- the row that begins bytes -/
def row1 (l : List UInt8) : Option (R7 × List UInt8) :=
  match tex 64 l with
  | (k, r1, 0) => match r1 with
    | [] => none
    | c :: r2 => match tex 16384 r2 with
      | (s, r3, 0) => if 1 < c.toNat then none else some ((k, s, c == 1), r3)
      | _ => none
  | _ => none
theorem tex_one {most : Int} {l s rest : List UInt8} (h : tex most l = (s, rest, 0)) : l = txt s ++ rest ∧ ((s.length : Int) ≤ most ∨ s = []) := by
  unfold tex at h
  by_cases h1 : (cnt most l).2.2 = 0
  · rw [if_neg (by simpa using h1)] at h
    by_cases h2 : (cnt most l).2.1.length < (cnt most l).1
    · rw [if_pos h2] at h; simp at h
    · rw [if_neg h2] at h
      simp only [Prod.mk.injEq, and_true] at h
      obtain ⟨e1, e2⟩ := h
      have hm := cnt_most most l
      have hc : numb 0 0 l = ((cnt most l).1, (cnt most l).2.1, 0) := by
        unfold cnt at h1 ⊢
        by_cases q1 : (numb 0 0 l).2.2 = 0
        · rw [if_neg (by simpa using q1)] at h1 ⊢
          by_cases q2 : most < ((numb 0 0 l).1 : Int)
          · rw [if_pos q2] at h1; simp at h1
          · rw [if_neg q2]
            obtain ⟨a, b, c⟩ : ∃ a b, numb 0 0 l = (a, b, 0) := ⟨(numb 0 0 l).1, (numb 0 0 l).2.1, Prod.ext rfl (Prod.ext rfl q1)⟩
            rw [c]
        · rw [if_pos (by simpa using q1)] at h1
          exact absurd h1 q1
      have h3 := numb_one0 hc
      have hl : s.length = (cnt most l).1 := by rw [← e1, List.length_take]; omega
      refine ⟨?_, ?_⟩
      · unfold txt
        rw [hl, List.append_assoc, ← e1, ← e2, List.take_append_drop]
        exact h3
      · rcases hm with hm | hm
        · right; exact List.eq_nil_of_length_eq_zero (by omega)
        · left; omega
  · rw [if_pos (by simpa using h1)] at h
    simp only [Prod.mk.injEq] at h
    exact absurd h.2.2 h1
theorem row1_one {l r : List UInt8} {x : R7} (h : row1 l = some (x, r)) : l = rb x ++ r ∧ x.1.length ≤ 64 ∧ x.2.1.length ≤ 16384 := by
  unfold row1 at h
  split at h
  · rename_i k r1 h1
    split at h
    · cases h
    · rename_i c r2
      split at h
      · rename_i s r3 h3
        split at h
        · cases h
        · rename_i hc
          simp only [Option.some.injEq, Prod.mk.injEq] at h
          obtain ⟨rfl, rfl⟩ := h
          obtain ⟨e1, b1⟩ := tex_one h1
          obtain ⟨e3, b3⟩ := tex_one h3
          refine ⟨?_, ?_, ?_⟩
          · subst e3
            rw [e1]
            have hmk : mark (c == 1) = c := by
              unfold mark
              by_cases h1 : c = 1
              · simp [h1]
              · have : c = 0 := by
                  apply UInt8.toNat_inj.1
                  have : c.toNat ≠ 1 := fun e => h1 (UInt8.toNat_inj.1 e)
                  have : c.toNat = 0 := by omega
                  exact this
                simp [this]
            simp [rb, hmk]
          · simp only; rcases b1 with b1 | b1
            · omega
            · simp [b1]
          · simp only; rcases b3 with b3 | b3
            · omega
            · simp [b3]
      · cases h
  · cases h
theorem mark_eq (g : Bool) : (mark g == 1) = g ∧ (mark g).toNat ≤ 1 := by cases g <;> decide
theorem row1_back {x : R7} (h1 : x.1.length ≤ 64) (h2 : x.2.1.length ≤ 16384) (r : List UInt8) : row1 (rb x ++ r) = some (x, r) := by
  have e1 : rb x ++ r = txt x.1 ++ (mark x.2.2 :: (txt x.2.1 ++ r)) := by simp [rb]
  obtain ⟨m1, m2⟩ := mark_eq x.2.2
  unfold row1
  rw [e1, tex_back (by omega) (by omega)]
  simp only
  rw [tex_back (by omega) (by omega)]
  simp only
  rw [if_neg (by omega), m1]
/-- a load's rows -/
def rws : Nat → List UInt8 → Option (List R7)
  | _, [] => some []
  | 0, _ :: _ => none
  | f + 1, c :: t => match row1 (c :: t) with
    | none => none
    | some (x, r) => (rws f r).map (x :: ·)
theorem rws_one : ∀ (f : Nat) (l : List UInt8) (xs : List R7), rws f l = some xs → l = ld xs ∧ ∀ x ∈ xs, x.1.length ≤ 64 ∧ x.2.1.length ≤ 16384
  | f, [], xs, h => by
    have : xs = [] := by cases f <;> simpa [rws] using h.symm
    subst this
    exact ⟨rfl, by simp⟩
  | 0, c :: t, xs, h => by simp [rws] at h
  | f + 1, c :: t, xs, h => by
    rw [rws] at h
    split at h
    · cases h
    · rename_i x r hx
      obtain ⟨e, b1, b2⟩ := row1_one hx
      obtain ⟨ys, hy, rfl⟩ := Option.map_eq_some_iff.1 h
      obtain ⟨e2, h2⟩ := rws_one f r ys hy
      refine ⟨by rw [e, ld_cons, ← e2], ?_⟩
      intro z hz
      rcases List.mem_cons.1 hz with rfl | hz
      · exact ⟨b1, b2⟩
      · exact h2 z hz
theorem rws_back : ∀ (xs : List R7) (f : Nat), xs.length ≤ f → (∀ x ∈ xs, x.1.length ≤ 64 ∧ x.2.1.length ≤ 16384) → rws f (ld xs) = some xs
  | [], f, _, _ => by cases f <;> rfl
  | x :: t, 0, h, _ => by simp at h
  | x :: t, f + 1, h, hx => by
    have h0 := hx x (by simp)
    have hp := rb_pos x
    have hb := row1_back h0.1 h0.2 (ld t)
    rw [ld_cons]
    obtain ⟨c, q, e⟩ : ∃ c q, rb x ++ ld t = c :: q := by
      cases hq : rb x ++ ld t with
      | nil => have := congrArg List.length hq; simp at this; rw [this.1] at hp; simp at hp
      | cons c q => exact ⟨c, q, rfl⟩
    rw [e] at hb ⊢
    rw [rws, hb]
    simp only
    rw [rws_back t f (by simpa using h) (fun z hz => hx z (by simp [hz]))]
    rfl
theorem ld_inj {xs ys : List R7} (hx : ∀ x ∈ xs, x.1.length ≤ 64 ∧ x.2.1.length ≤ 16384) (hy : ∀ x ∈ ys, x.1.length ≤ 64 ∧ x.2.1.length ≤ 16384) (h : ld xs = ld ys) : xs = ys := by
  have h1 := rws_back xs (xs.length + ys.length) (by omega) hx
  have h2 := rws_back ys (xs.length + ys.length) (by omega) hy
  rw [h, h2] at h1
  injection h1 with h1
  exact h1.symm
/-- blocks that may be -/
def Gb (y : List R7) : Prop := y ≠ [] ∧ (ld y).length ≤ 65536 ∧ ∀ x ∈ y, may x = 0
def Gbs (bs : List (List R7)) : Prop := ∀ y ∈ bs, Gb y
/-- bytes that are a run -/
def Rn (b : List UInt8) (bs : List (List R7)) : Prop := b = rn bs ∧ Gbs bs ∧ flt none bs.flatten = 0 ∧ (ix bs).length ≤ 65536
theorem fb_tak {y : List R7} (h : Gb y) (r : List UInt8) : tak (fb y ++ r) = (2, ld y, (fb y).length, 0) := tak_back 2 (ld y) r h.2.1
theorem fb_inj {x y : List R7} (hx : Gb x) (hy : Gb y) {r s : List UInt8} (h : fb x ++ r = fb y ++ s) : x = y ∧ r = s := by
  have h1 := fb_tak hx r
  rw [h, fb_tak hy s] at h1
  simp only [Prod.mk.injEq, true_and, and_true] at h1
  have e := ld_inj (fun z hz => may_len (hy.2.2 z hz)) (fun z hz => may_len (hx.2.2 z hz)) h1.1
  subst e
  exact ⟨rfl, List.append_cancel_left h⟩
theorem fb_tl {x : List R7} (hx : Gb x) {r l t : List UInt8} (hl : l.length ≤ 65536) (h : fb x ++ r = frm 3 l ++ t) : False := by
  have h1 := fb_tak hx r
  rw [h, tak_back 3 l t hl] at h1
  simp only [Prod.mk.injEq] at h1
  exact absurd h1.1 (by decide)
/-- frames at the head of a run are those of its first blocks -/
theorem head_run : ∀ (bs bs' : List (List R7)) {r l t : List UInt8}, Gbs bs → Gbs bs' → l.length ≤ 65536 → fbs bs ++ r = fbs bs' ++ (frm 3 l ++ t) → ∃ q, bs' = bs ++ q ∧ r = fbs q ++ (frm 3 l ++ t)
  | [], bs', r, l, t, _, _, _, h => ⟨bs', rfl, h⟩
  | x :: s, [], r, l, t, hx, _, hl, h => by
    rw [fbs_cons, List.append_assoc] at h
    exact (fb_tl (hx x (by simp)) hl h).elim
  | x :: s, y :: q, r, l, t, hx, hy, hl, h => by
    rw [fbs_cons, fbs_cons, List.append_assoc, List.append_assoc] at h
    obtain ⟨e, h'⟩ := fb_inj (hx x (by simp)) (hy y (by simp)) h
    subst e
    obtain ⟨z, e1, e2⟩ := head_run s q (fun y hy => hx y (by simp [hy])) (fun y hz => hy y (by simp [hz])) hl h'
    exact ⟨z, by rw [e1]; rfl, e2⟩
/-- a run has one form -/
theorem Rn.one {b : List UInt8} {bs bs' : List (List R7)} (h : Rn b bs) (h' : Rn b bs') : bs = bs' := by
  have e : fbs bs ++ tl bs = fbs bs' ++ (frm 3 (ix bs') ++ four (frm 3 (ix bs')).length) := by
    rw [← show rn bs = fbs bs ++ tl bs from rfl, ← h.1, h'.1]; rfl
  obtain ⟨q, e1, e2⟩ := head_run bs bs' h.2.1 h'.2.1 h'.2.2.2 e
  cases q with
  | nil => simpa using e1.symm
  | cons y z =>
    rw [fbs_cons, List.append_assoc] at e2
    unfold tl at e2
    exact (fb_tl (h'.2.1 y (by rw [e1]; simp)) h.2.2.2 e2.symm).elim
theorem ix_one {bs : List (List R7)} (h : Gbs bs) : bs.length ≤ (ixs bs).length := by
  induction bs with
  | nil => simp
  | cons y t ih =>
    have := ih (fun z hz => h z (by simp [hz]))
    have h1 := txt_pos (key1 y)
    rw [ixs_cons, List.length_append, List.length_cons]
    unfold ixe
    rw [List.length_append]
    omega
end Go.Proofs.Ytiaeicfmdnmeeaa

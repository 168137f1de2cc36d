/-
  A value is taken: the document's Take.
-/
import Derived.Test.YtippnkendoghpaaV9Tak
namespace Go.Proofs.Ytippnkendoghpaa
open Go.RowKit Go.Shelf Go.Sort
open Go.Lib hiding intOf

theorem tkR_any {l : List UInt8} {e : Nat} (h : e = 0 → tkV l = none) : tkR l e = ((0, 0, []), false) := by
  by_cases h0 : e = 0
  · subst h0; exact tkR_none (h rfl)
  · exact tkR_wrong h0
theorem tk_yesH {w : World} {b : Nat} {l l2 : List UInt8} {v : V9} (hl : l2.length ≤ l.length) (hv : tkV l = some (v, l2)) : ∀ r w', r = .returned (.tuple #[vA v, .bool true]) → But b w w' → Rd w' b l2 0 → TkP w b l 0 r w' := fun _ _ q1 q2 q3 => tk_yes hv q1 q2 q3 hl
theorem tk_yesE {w : World} {b e : Nat} {l l2 : List UInt8} {v : V9} (hl : l2.length ≤ l.length) (he : e = 0) (hv : tkV l = some (v, l2)) : ∀ r w', r = .returned (.tuple #[vA v, .bool true]) → But b w w' → Rd w' b l2 0 → TkP w b l e r w' := fun _ _ q1 q2 q3 => by subst he; exact tk_yes hv q1 q2 q3 hl

set_option maxHeartbeats 4000000 in
set_option maxRecDepth 100000 in
theorem dtake_n {w : World} {b e e1 e2 kk v : Nat} {l t l2 : List UInt8} {n : Int} (h : Rd w b l e) (hB : Hid (rdB l e = (kk, t, e1))) (hres : Hid (rdU t e1 = (v, l2, e2))) (hnn : Lib.unzigzag v = n) (hlen : t.length ≤ 140737488355328) (hl3 : l2.length ≤ l.length) (h256 : kk < 256) (hk3 : kk ≠ 3)
    (hy : e2 = 0 ∧ mayV ((kk : Int), n, []) = true → e = 0 ∧ tkV l = some (((kk : Int), n, []), l2)) (hno : ¬ (e2 = 0 ∧ mayV ((kk : Int), n, []) = true) → (e = 0 → tkV l = none)) :
    Calls Try.prog 52 #[.pointer (some ⟨b, 0, none⟩)] w (TkP w b l e) := by
  have hlt := h.lt
  have k3 : ((kk : Int) == 3) = false := beq_eq_false_iff_ne.2 (by omega)
  have CM := dMay_any ((kk : Int), n, [])
  have R0 : Hid (B3 (w.alloc (.cells #[.int .i64 0, .int .i64 0, .string ⟨#[]⟩] 52)) w.heap.size (.int .i64 0) (.int .i64 0) (.string ⟨#[]⟩)) := B3.new _ _ _ _
  have CB := rByte_all (h.alloc (.cells #[.int .i64 0, .int .i64 0, .string ⟨#[]⟩] 52)) hB
  have HNO : Hid ((e = 0 → tkV l = none) → ∀ r w' l3 e3, r = .returned (.tuple #[vA (0, 0, []), .bool false]) → But b w w' → Rd w' b l3 e3 → l3.length ≤ l.length → TkP w b l e r w') := fun hq r w' l3 e3 q1 q2 q3 q4 => tk_done (tkR_any hq) hq q1 q2 q3 q4
  unfold vA at CM
  by_cases hok : e2 = 0 ∧ mayV ((kk : Int), n, []) = true
  · have HT := tk_yesE (w := w) (b := b) hl3 (hy hok).1 (hy hok).2
    obtain ⟨rfl, hm⟩ := hok
    rw [hm] at CM
    clear HNO hy hno
    go_enter Try.func52, Try.ntmps52
    go_wp2_with (first
      | (go_at_call 27; refine CB.mono ?_; rintro e' w1 ⟨rfl, r1, b1⟩; (have hz1 : w.heap.size < w1.heap.size := by have := b1.size; rw [World.size_alloc] at this; omega); (have R1 : Hid (B3 (w1.alloc (.cells #[.int .i64 (kk : Int), .int .i64 0, .string ⟨#[]⟩] 52)) w.heap.size (.int .i64 0) (.int .i64 0) (.string ⟨#[]⟩)) := (R0.out.but b1 (by omega)).up ((Below.refl _ _).alloc (Nat.le_refl _) _)); (have V1 : Hid (B3 (w1.alloc (.cells #[.int .i64 (kk : Int), .int .i64 0, .string ⟨#[]⟩] 52)) w1.heap.size (.int .i64 (kk : Int)) (.int .i64 0) (.string ⟨#[]⟩)) := B3.new _ _ _ _); (have D1 : Hid (Rd (w1.alloc (.cells #[.int .i64 (kk : Int), .int .i64 0, .string ⟨#[]⟩] 52)) b t e1) := r1.alloc _); (have T1 : Hid (But b w (w1.alloc (.cells #[.int .i64 (kk : Int), .int .i64 0, .string ⟨#[]⟩] 52))) := ((((But.refl b w).alloc _).trans b1).alloc _)); (have CI := rInt_all D1.out (by omega) hres); clear r1 b1 CB)
      | (go_at_call 29; refine CI.mono ?_; rintro e' w2 ⟨rfl, r2, b2⟩; (try rw [hnn]); (have V2 := V1.out.but b2 (by omega)); (have R2 := R1.out.but b2 (by omega)); (have c0 := V2.c0); (have c1 := V2.c1); (have c2 := V2.c2); (have fz := V2.f 1); (have V3 : Hid (B3 (w2.setCell ⟨w1.heap.size, 1, none⟩ (.int .i64 n)) w1.heap.size (.int .i64 (kk : Int)) (.int .i64 n) (.string ⟨#[]⟩)) := V2.set1 _); (have R3 : Hid (B3 (w2.setCell ⟨w1.heap.size, 1, none⟩ (.int .i64 n)) w.heap.size (.int .i64 0) (.int .i64 0) (.string ⟨#[]⟩)) := R2.but (r := w1.heap.size) ((But.refl _ w2).setCell _ _) (by omega)); (have D3 : Hid (Rd (w2.setCell ⟨w1.heap.size, 1, none⟩ (.int .i64 n)) b l2 0) := r2.set (by omega) _ _); (have T3 : Hid (But b w (w2.setCell ⟨w1.heap.size, 1, none⟩ (.int .i64 n))) := (T1.out.trans b2).new (by omega) _ _); clear V2 R2 r2 b2 CI)
      | (go_at_call 49; refine (CM _).mono ?_; rintro e' w4 ⟨rfl, b4⟩; (have R4 := R3.out.up b4); (have V4 := V3.out.up b4); (have g0 := R4.c0); (have g1 := R4.c1); (have g2 := R4.c2); (have f0 := R4.f 0); (have f1 := R4.f 1); (have f2 := R4.f 2); (have y0 := V4.c0); (have y1 := V4.c1); (have y2 := V4.c2); (have D4 : Hid (Rd w4 b l2 0) := D3.out.up b4); (have de := D4.out.err); (have T4 : Hid (But b w w4) := T3.out.more b4); clear b4 R4 V4 c0 c1 c2 fz))
    exact bodyPost_ret (v := .tuple #[.agg #[.int .i64 (kk : Int), .int .i64 n, .string ⟨#[]⟩], .bool true]) (by simp [results, Try.results52, go_sem, g0, g1, g2]) rfl (HT _ _ rfl (((T4.out.new (Nat.le_refl _) _ _).new (Nat.le_refl _) _ _).new (Nat.le_refl _) _ _) (((D4.out.set (by omega) _ _).set (by omega) _ _).set (by omega) _ _))
  · have HT := HNO.out (hno hok)
    generalize mayV ((kk : Int), n, []) = m at *
    clear HNO hy hno
    by_cases he2 : e2 = 0
    · subst he2
      obtain rfl : m = false := by cases m with
        | false => rfl
        | true => exact absurd ⟨rfl, rfl⟩ hok
      clear hok
      go_enter Try.func52, Try.ntmps52
      go_wp2_with (first
        | (go_at_call 27; refine CB.mono ?_; rintro e' w1 ⟨rfl, r1, b1⟩; (have hz1 : w.heap.size < w1.heap.size := by have := b1.size; rw [World.size_alloc] at this; omega); (have R1 : Hid (B3 (w1.alloc (.cells #[.int .i64 (kk : Int), .int .i64 0, .string ⟨#[]⟩] 52)) w.heap.size (.int .i64 0) (.int .i64 0) (.string ⟨#[]⟩)) := (R0.out.but b1 (by omega)).up ((Below.refl _ _).alloc (Nat.le_refl _) _)); (have V1 : Hid (B3 (w1.alloc (.cells #[.int .i64 (kk : Int), .int .i64 0, .string ⟨#[]⟩] 52)) w1.heap.size (.int .i64 (kk : Int)) (.int .i64 0) (.string ⟨#[]⟩)) := B3.new _ _ _ _); (have D1 : Hid (Rd (w1.alloc (.cells #[.int .i64 (kk : Int), .int .i64 0, .string ⟨#[]⟩] 52)) b t e1) := r1.alloc _); (have T1 : Hid (But b w (w1.alloc (.cells #[.int .i64 (kk : Int), .int .i64 0, .string ⟨#[]⟩] 52))) := ((((But.refl b w).alloc _).trans b1).alloc _)); (have CI := rInt_all D1.out (by omega) hres); clear r1 b1 CB)
        | (go_at_call 29; refine CI.mono ?_; rintro e' w2 ⟨rfl, r2, b2⟩; (try rw [hnn]); (have V2 := V1.out.but b2 (by omega)); (have R2 := R1.out.but b2 (by omega)); (have c0 := V2.c0); (have c1 := V2.c1); (have c2 := V2.c2); (have fz := V2.f 1); (have V3 : Hid (B3 (w2.setCell ⟨w1.heap.size, 1, none⟩ (.int .i64 n)) w1.heap.size (.int .i64 (kk : Int)) (.int .i64 n) (.string ⟨#[]⟩)) := V2.set1 _); (have R3 : Hid (B3 (w2.setCell ⟨w1.heap.size, 1, none⟩ (.int .i64 n)) w.heap.size (.int .i64 0) (.int .i64 0) (.string ⟨#[]⟩)) := R2.but (r := w1.heap.size) ((But.refl _ w2).setCell _ _) (by omega)); (have D3 : Hid (Rd (w2.setCell ⟨w1.heap.size, 1, none⟩ (.int .i64 n)) b l2 0) := r2.set (by omega) _ _); (have T3 : Hid (But b w (w2.setCell ⟨w1.heap.size, 1, none⟩ (.int .i64 n))) := (T1.out.trans b2).new (by omega) _ _); clear V2 R2 r2 b2 CI)
        | (go_at_call 49; refine (CM _).mono ?_; rintro e' w4 ⟨rfl, b4⟩; (have R4 := R3.out.up b4); (have V4 := V3.out.up b4); (have g0 := R4.c0); (have g1 := R4.c1); (have g2 := R4.c2); (have f0 := R4.f 0); (have f1 := R4.f 1); (have f2 := R4.f 2); (have y0 := V4.c0); (have y1 := V4.c1); (have y2 := V4.c2); (have D4 : Hid (Rd w4 b l2 0) := D3.out.up b4); (have de := D4.out.err); (have T4 : Hid (But b w w4) := T3.out.more b4); clear b4 R4 V4 c0 c1 c2 fz))
      exact bodyPost_ret (v := .tuple #[.agg #[.int .i64 0, .int .i64 0, .string ⟨#[]⟩], .bool false]) (by simp [results, Try.results52, go_sem, g0, g1, g2]) rfl (HT _ _ l2 0 rfl (((T4.out.new (Nat.le_refl _) _ _).new (Nat.le_refl _) _ _).new (Nat.le_refl _) _ _) (((D4.out.set (by omega) _ _).set (by omega) _ _).set (by omega) _ _) hl3)
    · have hb2 : ((e2 : Int) != 0) = true := bne_iff_ne.2 (by omega)
      clear hok he2
      go_enter Try.func52, Try.ntmps52
      go_wp2_with (first
        | (go_at_call 27; refine CB.mono ?_; rintro e' w1 ⟨rfl, r1, b1⟩; (have hz1 : w.heap.size < w1.heap.size := by have := b1.size; rw [World.size_alloc] at this; omega); (have R1 : Hid (B3 (w1.alloc (.cells #[.int .i64 (kk : Int), .int .i64 0, .string ⟨#[]⟩] 52)) w.heap.size (.int .i64 0) (.int .i64 0) (.string ⟨#[]⟩)) := (R0.out.but b1 (by omega)).up ((Below.refl _ _).alloc (Nat.le_refl _) _)); (have V1 : Hid (B3 (w1.alloc (.cells #[.int .i64 (kk : Int), .int .i64 0, .string ⟨#[]⟩] 52)) w1.heap.size (.int .i64 (kk : Int)) (.int .i64 0) (.string ⟨#[]⟩)) := B3.new _ _ _ _); (have D1 : Hid (Rd (w1.alloc (.cells #[.int .i64 (kk : Int), .int .i64 0, .string ⟨#[]⟩] 52)) b t e1) := r1.alloc _); (have T1 : Hid (But b w (w1.alloc (.cells #[.int .i64 (kk : Int), .int .i64 0, .string ⟨#[]⟩] 52))) := ((((But.refl b w).alloc _).trans b1).alloc _)); (have CI := rInt_all D1.out (by omega) hres); clear r1 b1 CB)
        | (go_at_call 29; refine CI.mono ?_; rintro e' w2 ⟨rfl, r2, b2⟩; (try rw [hnn]); (have V2 := V1.out.but b2 (by omega)); (have R2 := R1.out.but b2 (by omega)); (have c0 := V2.c0); (have c1 := V2.c1); (have c2 := V2.c2); (have fz := V2.f 1); (have V3 : Hid (B3 (w2.setCell ⟨w1.heap.size, 1, none⟩ (.int .i64 n)) w1.heap.size (.int .i64 (kk : Int)) (.int .i64 n) (.string ⟨#[]⟩)) := V2.set1 _); (have R3 : Hid (B3 (w2.setCell ⟨w1.heap.size, 1, none⟩ (.int .i64 n)) w.heap.size (.int .i64 0) (.int .i64 0) (.string ⟨#[]⟩)) := R2.but (r := w1.heap.size) ((But.refl _ w2).setCell _ _) (by omega)); (have D3 : Hid (Rd (w2.setCell ⟨w1.heap.size, 1, none⟩ (.int .i64 n)) b l2 e2) := r2.set (by omega) _ _); (have T3 : Hid (But b w (w2.setCell ⟨w1.heap.size, 1, none⟩ (.int .i64 n))) := (T1.out.trans b2).new (by omega) _ _); clear V2 R2 r2 b2 CI)
        | (go_at_call 49; refine (CM _).mono ?_; rintro e' w4 ⟨rfl, b4⟩; (have R4 := R3.out.up b4); (have V4 := V3.out.up b4); (have g0 := R4.c0); (have g1 := R4.c1); (have g2 := R4.c2); (have f0 := R4.f 0); (have f1 := R4.f 1); (have f2 := R4.f 2); (have y0 := V4.c0); (have y1 := V4.c1); (have y2 := V4.c2); (have D4 : Hid (Rd w4 b l2 e2) := D3.out.up b4); (have de := D4.out.err); (have T4 : Hid (But b w w4) := T3.out.more b4); clear b4 R4 V4 c0 c1 c2 fz))
      exact bodyPost_ret (v := .tuple #[.agg #[.int .i64 0, .int .i64 0, .string ⟨#[]⟩], .bool false]) (by simp [results, Try.results52, go_sem, g0, g1, g2]) rfl (HT _ _ l2 e2 rfl (((T4.out.new (Nat.le_refl _) _ _).new (Nat.le_refl _) _ _).new (Nat.le_refl _) _ _) (((D4.out.set (by omega) _ _).set (by omega) _ _).set (by omega) _ _) hl3)

set_option maxHeartbeats 4000000 in
set_option maxRecDepth 100000 in
theorem dtake_t {w : World} {b e2 : Nat} {l t s l2 : List UInt8} (h : Rd w b l 0) (hB : Hid (rdB l 0 = (3, t, 0))) (hres : Hid (rdT 1024 t 0 = (s, l2, e2))) (hlen : t.length ≤ 140737488355328) (hl3 : l2.length ≤ l.length)
    (hy : e2 = 0 ∧ mayV (3, 0, s) = true → tkV l = some ((3, 0, s), l2)) (hno : ¬ (e2 = 0 ∧ mayV (3, 0, s) = true) → tkV l = none) :
    Calls Try.prog 52 #[.pointer (some ⟨b, 0, none⟩)] w (TkP w b l 0) := by
  have hlt := h.lt
  have CM := dMay_any (3, 0, s)
  have R0 : Hid (B3 (w.alloc (.cells #[.int .i64 0, .int .i64 0, .string ⟨#[]⟩] 52)) w.heap.size (.int .i64 0) (.int .i64 0) (.string ⟨#[]⟩)) := B3.new _ _ _ _
  have CB := rByte_all (h.alloc (.cells #[.int .i64 0, .int .i64 0, .string ⟨#[]⟩] 52)) hB
  have HNO : Hid ((0 = 0 → tkV l = none) → ∀ r w' l3 e3, r = .returned (.tuple #[vA (0, 0, []), .bool false]) → But b w w' → Rd w' b l3 e3 → l3.length ≤ l.length → TkP w b l 0 r w') := fun hq r w' l3 e3 q1 q2 q3 q4 => tk_done (tkR_any hq) hq q1 q2 q3 q4
  unfold vA at CM
  by_cases hok : e2 = 0 ∧ mayV (3, 0, s) = true
  · have HT := tk_yesH (w := w) (b := b) hl3 (hy hok)
    obtain ⟨rfl, hm⟩ := hok
    rw [hm] at CM
    clear HNO hy hno
    go_enter Try.func52, Try.ntmps52
    go_wp2_with (first
      | (go_at_call 27; refine CB.mono ?_; rintro e' w1 ⟨rfl, r1, b1⟩; (have hz1 : w.heap.size < w1.heap.size := by have := b1.size; rw [World.size_alloc] at this; omega); (have R1 : Hid (B3 (w1.alloc (.cells #[.int .i64 3, .int .i64 0, .string ⟨#[]⟩] 52)) w.heap.size (.int .i64 0) (.int .i64 0) (.string ⟨#[]⟩)) := (R0.out.but b1 (by omega)).up ((Below.refl _ _).alloc (Nat.le_refl _) _)); (have V1 : Hid (B3 (w1.alloc (.cells #[.int .i64 3, .int .i64 0, .string ⟨#[]⟩] 52)) w1.heap.size (.int .i64 3) (.int .i64 0) (.string ⟨#[]⟩)) := B3.new _ _ _ _); (have D1 : Hid (Rd (w1.alloc (.cells #[.int .i64 3, .int .i64 0, .string ⟨#[]⟩] 52)) b t 0) := r1.alloc _); (have T1 : Hid (But b w (w1.alloc (.cells #[.int .i64 3, .int .i64 0, .string ⟨#[]⟩] 52))) := ((((But.refl b w).alloc _).trans b1).alloc _)); (have CI := rText_all D1.out hlen (by omega) (by omega) hres); clear r1 b1 CB)
      | (go_at_call 30; refine CI.mono ?_; rintro e' w2 ⟨rfl, r2, b2⟩; (have V2 := V1.out.but b2 (by omega)); (have R2 := R1.out.but b2 (by omega)); (have c0 := V2.c0); (have c1 := V2.c1); (have c2 := V2.c2); (have fz := V2.f 2); (have V3 : Hid (B3 (w2.setCell ⟨w1.heap.size, 2, none⟩ (.string (S s))) w1.heap.size (.int .i64 3) (.int .i64 0) (.string (S s))) := V2.set2 _); (have R3 : Hid (B3 (w2.setCell ⟨w1.heap.size, 2, none⟩ (.string (S s))) w.heap.size (.int .i64 0) (.int .i64 0) (.string ⟨#[]⟩)) := R2.but (r := w1.heap.size) ((But.refl _ w2).setCell _ _) (by omega)); (have D3 : Hid (Rd (w2.setCell ⟨w1.heap.size, 2, none⟩ (.string (S s))) b l2 0) := r2.set (by omega) _ _); (have T3 : Hid (But b w (w2.setCell ⟨w1.heap.size, 2, none⟩ (.string (S s)))) := (T1.out.trans b2).new (by omega) _ _); clear V2 R2 r2 b2 CI)
      | (go_at_call 49; refine (CM _).mono ?_; rintro e' w4 ⟨rfl, b4⟩; (have R4 := R3.out.up b4); (have V4 := V3.out.up b4); (have g0 := R4.c0); (have g1 := R4.c1); (have g2 := R4.c2); (have f0 := R4.f 0); (have f1 := R4.f 1); (have f2 := R4.f 2); (have y0 := V4.c0); (have y1 := V4.c1); (have y2 := V4.c2); (have D4 : Hid (Rd w4 b l2 0) := D3.out.up b4); (have de := D4.out.err); (have T4 : Hid (But b w w4) := T3.out.more b4); clear b4 R4 V4 c0 c1 c2 fz))
    exact bodyPost_ret (v := .tuple #[.agg #[.int .i64 3, .int .i64 0, .string (S s)], .bool true]) (by simp [results, Try.results52, go_sem, g0, g1, g2]) rfl (HT _ _ rfl (((T4.out.new (Nat.le_refl _) _ _).new (Nat.le_refl _) _ _).new (Nat.le_refl _) _ _) (((D4.out.set (by omega) _ _).set (by omega) _ _).set (by omega) _ _))
  · have HT := HNO.out (fun _ => hno hok)
    generalize mayV (3, 0, s) = m at *
    clear HNO hy hno
    by_cases he2 : e2 = 0
    · subst he2
      obtain rfl : m = false := by cases m with
        | false => rfl
        | true => exact absurd ⟨rfl, rfl⟩ hok
      clear hok
      go_enter Try.func52, Try.ntmps52
      go_wp2_with (first
        | (go_at_call 27; refine CB.mono ?_; rintro e' w1 ⟨rfl, r1, b1⟩; (have hz1 : w.heap.size < w1.heap.size := by have := b1.size; rw [World.size_alloc] at this; omega); (have R1 : Hid (B3 (w1.alloc (.cells #[.int .i64 3, .int .i64 0, .string ⟨#[]⟩] 52)) w.heap.size (.int .i64 0) (.int .i64 0) (.string ⟨#[]⟩)) := (R0.out.but b1 (by omega)).up ((Below.refl _ _).alloc (Nat.le_refl _) _)); (have V1 : Hid (B3 (w1.alloc (.cells #[.int .i64 3, .int .i64 0, .string ⟨#[]⟩] 52)) w1.heap.size (.int .i64 3) (.int .i64 0) (.string ⟨#[]⟩)) := B3.new _ _ _ _); (have D1 : Hid (Rd (w1.alloc (.cells #[.int .i64 3, .int .i64 0, .string ⟨#[]⟩] 52)) b t 0) := r1.alloc _); (have T1 : Hid (But b w (w1.alloc (.cells #[.int .i64 3, .int .i64 0, .string ⟨#[]⟩] 52))) := ((((But.refl b w).alloc _).trans b1).alloc _)); (have CI := rText_all D1.out hlen (by omega) (by omega) hres); clear r1 b1 CB)
        | (go_at_call 30; refine CI.mono ?_; rintro e' w2 ⟨rfl, r2, b2⟩; (have V2 := V1.out.but b2 (by omega)); (have R2 := R1.out.but b2 (by omega)); (have c0 := V2.c0); (have c1 := V2.c1); (have c2 := V2.c2); (have fz := V2.f 2); (have V3 : Hid (B3 (w2.setCell ⟨w1.heap.size, 2, none⟩ (.string (S s))) w1.heap.size (.int .i64 3) (.int .i64 0) (.string (S s))) := V2.set2 _); (have R3 : Hid (B3 (w2.setCell ⟨w1.heap.size, 2, none⟩ (.string (S s))) w.heap.size (.int .i64 0) (.int .i64 0) (.string ⟨#[]⟩)) := R2.but (r := w1.heap.size) ((But.refl _ w2).setCell _ _) (by omega)); (have D3 : Hid (Rd (w2.setCell ⟨w1.heap.size, 2, none⟩ (.string (S s))) b l2 0) := r2.set (by omega) _ _); (have T3 : Hid (But b w (w2.setCell ⟨w1.heap.size, 2, none⟩ (.string (S s)))) := (T1.out.trans b2).new (by omega) _ _); clear V2 R2 r2 b2 CI)
        | (go_at_call 49; refine (CM _).mono ?_; rintro e' w4 ⟨rfl, b4⟩; (have R4 := R3.out.up b4); (have V4 := V3.out.up b4); (have g0 := R4.c0); (have g1 := R4.c1); (have g2 := R4.c2); (have f0 := R4.f 0); (have f1 := R4.f 1); (have f2 := R4.f 2); (have y0 := V4.c0); (have y1 := V4.c1); (have y2 := V4.c2); (have D4 : Hid (Rd w4 b l2 0) := D3.out.up b4); (have de := D4.out.err); (have T4 : Hid (But b w w4) := T3.out.more b4); clear b4 R4 V4 c0 c1 c2 fz))
      exact bodyPost_ret (v := .tuple #[.agg #[.int .i64 0, .int .i64 0, .string ⟨#[]⟩], .bool false]) (by simp [results, Try.results52, go_sem, g0, g1, g2]) rfl (HT _ _ l2 0 rfl (((T4.out.new (Nat.le_refl _) _ _).new (Nat.le_refl _) _ _).new (Nat.le_refl _) _ _) (((D4.out.set (by omega) _ _).set (by omega) _ _).set (by omega) _ _) hl3)
    · have hb2 : ((e2 : Int) != 0) = true := bne_iff_ne.2 (by omega)
      clear hok he2
      go_enter Try.func52, Try.ntmps52
      go_wp2_with (first
        | (go_at_call 27; refine CB.mono ?_; rintro e' w1 ⟨rfl, r1, b1⟩; (have hz1 : w.heap.size < w1.heap.size := by have := b1.size; rw [World.size_alloc] at this; omega); (have R1 : Hid (B3 (w1.alloc (.cells #[.int .i64 3, .int .i64 0, .string ⟨#[]⟩] 52)) w.heap.size (.int .i64 0) (.int .i64 0) (.string ⟨#[]⟩)) := (R0.out.but b1 (by omega)).up ((Below.refl _ _).alloc (Nat.le_refl _) _)); (have V1 : Hid (B3 (w1.alloc (.cells #[.int .i64 3, .int .i64 0, .string ⟨#[]⟩] 52)) w1.heap.size (.int .i64 3) (.int .i64 0) (.string ⟨#[]⟩)) := B3.new _ _ _ _); (have D1 : Hid (Rd (w1.alloc (.cells #[.int .i64 3, .int .i64 0, .string ⟨#[]⟩] 52)) b t 0) := r1.alloc _); (have T1 : Hid (But b w (w1.alloc (.cells #[.int .i64 3, .int .i64 0, .string ⟨#[]⟩] 52))) := ((((But.refl b w).alloc _).trans b1).alloc _)); (have CI := rText_all D1.out hlen (by omega) (by omega) hres); clear r1 b1 CB)
        | (go_at_call 30; refine CI.mono ?_; rintro e' w2 ⟨rfl, r2, b2⟩; (have V2 := V1.out.but b2 (by omega)); (have R2 := R1.out.but b2 (by omega)); (have c0 := V2.c0); (have c1 := V2.c1); (have c2 := V2.c2); (have fz := V2.f 2); (have V3 : Hid (B3 (w2.setCell ⟨w1.heap.size, 2, none⟩ (.string (S s))) w1.heap.size (.int .i64 3) (.int .i64 0) (.string (S s))) := V2.set2 _); (have R3 : Hid (B3 (w2.setCell ⟨w1.heap.size, 2, none⟩ (.string (S s))) w.heap.size (.int .i64 0) (.int .i64 0) (.string ⟨#[]⟩)) := R2.but (r := w1.heap.size) ((But.refl _ w2).setCell _ _) (by omega)); (have D3 : Hid (Rd (w2.setCell ⟨w1.heap.size, 2, none⟩ (.string (S s))) b l2 e2) := r2.set (by omega) _ _); (have T3 : Hid (But b w (w2.setCell ⟨w1.heap.size, 2, none⟩ (.string (S s)))) := (T1.out.trans b2).new (by omega) _ _); clear V2 R2 r2 b2 CI)
        | (go_at_call 49; refine (CM _).mono ?_; rintro e' w4 ⟨rfl, b4⟩; (have R4 := R3.out.up b4); (have V4 := V3.out.up b4); (have g0 := R4.c0); (have g1 := R4.c1); (have g2 := R4.c2); (have f0 := R4.f 0); (have f1 := R4.f 1); (have f2 := R4.f 2); (have y0 := V4.c0); (have y1 := V4.c1); (have y2 := V4.c2); (have D4 : Hid (Rd w4 b l2 e2) := D3.out.up b4); (have de := D4.out.err); (have T4 : Hid (But b w w4) := T3.out.more b4); clear b4 R4 V4 c0 c1 c2 fz))
      exact bodyPost_ret (v := .tuple #[.agg #[.int .i64 0, .int .i64 0, .string ⟨#[]⟩], .bool false]) (by simp [results, Try.results52, go_sem, g0, g1, g2]) rfl (HT _ _ l2 e2 rfl (((T4.out.new (Nat.le_refl _) _ _).new (Nat.le_refl _) _ _).new (Nat.le_refl _) _ _) (((D4.out.set (by omega) _ _).set (by omega) _ _).set (by omega) _ _) hl3)

theorem rdUe_le {l l2 : List UInt8} {e v e2 : Nat} (h : rdU l e = (v, l2, e2)) : l2.length ≤ l.length := by
  by_cases h0 : e = 0
  · subst h0; exact rdU9_le h
  · unfold rdU at h; rw [if_neg h0] at h; cases h; exact Nat.le_refl _
theorem dTake_any {w : World} {b e : Nat} {l : List UInt8} (h : Rd w b l e) (hl : l.length ≤ 140737488355328) : Calls Try.prog 52 #[.pointer (some ⟨b, 0, none⟩)] w (TkP w b l e) := by
  by_cases he : e = 0
  · subst he
    cases l with
    | nil => exact dtake_n (kk := 0) (t := []) (e1 := 2) (v := 0) (l2 := []) (e2 := 2) h (by show _ = _; rfl) (by show _ = _; rfl) rfl (by simp) (Nat.le_refl _) (by omega) (by omega) (fun hh => by cases hh.1) (fun _ _ => rfl)
    | cons c t =>
      have hc := c.toNat_lt
      simp only [List.length_cons] at hl
      by_cases h3 : c.toNat = 3
      · refine dtake_t (t := t) (s := (rdT 1024 t 0).1) (l2 := (rdT 1024 t 0).2.1) (e2 := (rdT 1024 t 0).2.2) h (by show _ = _; simp [rdB, h3]) rfl (by omega) (by have := (rdT9_le (l := t) (most := 1024) (s := (rdT 1024 t 0).1) (l2 := (rdT 1024 t 0).2.1) (e2 := (rdT 1024 t 0).2.2) rfl).1; simp; omega) (fun hh => (tk_text h3 rfl).trans (if_pos hh.1)) (fun hh => ?_)
        refine (tk_text h3 rfl).trans (if_neg fun h0 => hh ⟨h0, ?_⟩)
        have := (rdT9_le (l := t) (most := 1024) (s := (rdT 1024 t 0).1) (l2 := (rdT 1024 t 0).2.1) (e2 := (rdT 1024 t 0).2.2) rfl).2 h0
        unfold mayV
        rw [if_pos rfl]
        exact decide_eq_true ⟨rfl, by simp only; omega⟩
      · exact dtake_n (kk := c.toNat) (t := t) (e1 := 0) (v := (rdU t 0).1) (l2 := (rdU t 0).2.1) (e2 := (rdU t 0).2.2) h (by show _ = _; rfl) rfl rfl (by omega) (by have := rdU9_le (l := t) (v := (rdU t 0).1) (l2 := (rdU t 0).2.1) (e2 := (rdU t 0).2.2) rfl; simp; omega) (by omega) h3 (fun hh => ⟨rfl, (tk_num h3 rfl).trans (if_pos hh)⟩) (fun hh _ => (tk_num h3 rfl).trans (if_neg hh))
  · exact dtake_n (kk := 0) (t := l) (e1 := e) (v := 0) (l2 := l) (e2 := e) h (by show _ = _; unfold rdB; rw [if_neg he]) (by show _ = _; unfold rdU; rw [if_neg he]) rfl hl (Nat.le_refl _) (by omega) (by omega) (fun hh => absurd hh.1 he) (fun _ h0 => absurd h0 he)
end Go.Proofs.Ytippnkendoghpaa

/-
  A value is taken: package value's Take and the document's.
-/
import Derived.Test.YtippnkendoghpaaV9Byt
import Derived.Test.YtippnkendoghpaaRefText
namespace Go.Proofs.Ytippnkendoghpaa
open Go.RowKit Go.Shelf Go.Sort
open Go.Lib hiding intOf

/-- a value's box -/
def B3 (w : World) (X : Nat) (a b c : Value) : Prop := w.heap[X]? = some (.cells #[a, b, c] 52 (0, 0))
theorem B3.new (w : World) (a b c : Value) : B3 (w.alloc (.cells #[a, b, c] 52)) w.heap.size a b c := heap_alloc_new w _
theorem B3.lt {w : World} {X : Nat} {a b c : Value} (h : B3 w X a b c) : X < w.heap.size := (Array.getElem?_eq_some_iff.1 h).1
theorem B3.c0 {w : World} {X : Nat} {a b c : Value} (h : B3 w X a b c) : w.cell? ⟨X, 0, none⟩ = some a := by unfold B3 at h; simp [World.cell?, h]
theorem B3.c1 {w : World} {X : Nat} {a b c : Value} (h : B3 w X a b c) : w.cell? ⟨X, 1, none⟩ = some b := by unfold B3 at h; simp [World.cell?, h]
theorem B3.c2 {w : World} {X : Nat} {a b c : Value} (h : B3 w X a b c) : w.cell? ⟨X, 2, none⟩ = some c := by unfold B3 at h; simp [World.cell?, h]
theorem B3.f {w : World} {X : Nat} {a b c : Value} (h : B3 w X a b c) (i : Nat) : w.frozen? ⟨X, i, none⟩ = false := by unfold B3 at h; simp [World.frozen?, h]
theorem B3.but {w w' : World} {X r : Nat} {a b c : Value} (h : B3 w X a b c) (hb : But r w w') (hr : X ≠ r) : B3 w' X a b c := (hb.block X h.lt hr).trans h
theorem B3.up {w w' : World} {X : Nat} {a b c : Value} (h : B3 w X a b c) (hb : Below w.heap.size w w') : B3 w' X a b c := (hb.block X h.lt).trans h
theorem B3.set1 {w : World} {X : Nat} {a b c : Value} (h : B3 w X a b c) (v : Value) : B3 (w.setCell ⟨X, 1, none⟩ v) X a v c := heap_setCell_same w X 1 _ _ v h
theorem B3.set2 {w : World} {X : Nat} {a b c : Value} (h : B3 w X a b c) (v : Value) : B3 (w.setCell ⟨X, 2, none⟩ v) X a b v := heap_setCell_same w X 2 _ _ v h
theorem But.new {b : Nat} {u w : World} (h : But b u w) {X : Nat} (hX : u.heap.size ≤ X) (o : Nat) (v : Value) : But b u (w.setCell ⟨X, o, none⟩ v) :=
  ⟨h.os, h.tape, h.output, by simpa [World.setCell] using h.size, fun k hk hb => (Below.heap_setCell _ _ _ _ (by show k ≠ X; omega)).trans (h.block k hk hb)⟩
theorem But.more {b : Nat} {u v w : World} (h : But b u v) (k : Below v.heap.size v w) : But b u w := h.trans (But.of_below k)
theorem Rd.set {b e : Nat} {l : List UInt8} {w : World} (h : Rd w b l e) {X : Nat} (hX : b ≠ X) (o : Nat) (v : Value) : Rd (w.setCell ⟨X, o, none⟩ v) b l e := h.but (c := X) ((But.refl X w).setCell o v) hX
theorem Rd.up {b e : Nat} {l : List UInt8} {w w' : World} (h : Rd w b l e) (hb : Below w.heap.size w w') : Rd w' b l e := h.below hb h.lt

/-- what is taken: the value, whether there is one -/
def tkR (l : List UInt8) (e : Nat) : V9 × Bool := if e = 0 then (match tkV l with
  | some (v, _) => (v, true)
  | none => ((0, 0, []), false)) else ((0, 0, []), false)
/-- what taking leaves -/
def TkP (w : World) (b : Nat) (l : List UInt8) (e : Nat) (r : Ending) (w' : World) : Prop := r = .returned (.tuple #[vA (tkR l e).1, .bool (tkR l e).2]) ∧ But b w w' ∧ ∃ l2 e2, Rd w' b l2 e2 ∧ l2.length ≤ l.length ∧ (e = 0 → ∀ v t, tkV l = some (v, t) → l2 = t ∧ e2 = 0)
theorem rdT9_le {most : Int} {l s l2 : List UInt8} {e2 : Nat} (h : rdT most l 0 = (s, l2, e2)) : l2.length ≤ l.length ∧ (e2 = 0 → (s.length : Int) ≤ most) := by
  have hn := tex_le most l
  unfold rdT at h
  rw [if_pos rfl] at h
  split at h
  · rename_i h0
    cases h
    refine ⟨hn, fun _ => ?_⟩
    unfold tex at h0 ⊢
    by_cases h1 : (cnt most l).2.2 ≠ 0
    · rw [if_pos h1] at h0; exact absurd h0 h1
    · rw [if_neg h1] at h0 ⊢
      by_cases h2 : (cnt most l).2.1.length < (cnt most l).1
      · rw [if_pos h2] at h0; cases h0
      · rw [if_neg h2]
        have h3 : ((cnt most l).1 : Int) ≤ most := by
          unfold cnt at h1 ⊢
          by_cases h4 : (numb 0 0 l).2.2 ≠ 0
          · rw [if_pos h4] at h1; exact absurd h4 (by simpa using h1)
          · rw [if_neg h4] at h1 ⊢
            by_cases h5 : most < ((numb 0 0 l).1 : Int)
            · rw [if_pos h5] at h1; simp at h1
            · rw [if_neg h5]; simp only; omega
        simp only [List.length_take]
        omega
  · cases h; exact ⟨Nat.le_refl _, fun h0 => by rename_i h1; exact absurd h0 h1⟩
theorem rdU9_le {l l2 : List UInt8} {v e2 : Nat} (h : rdU l 0 = (v, l2, e2)) : l2.length ≤ l.length := by
  have hn := numb_le l 0 0
  unfold rdU at h
  rw [if_pos rfl] at h
  split at h
  · cases h; exact hn
  · cases h; exact Nat.le_refl _
theorem tk_text {t s l2 : List UInt8} {c : UInt8} {e2 : Nat} (hc : c.toNat = 3) (h : rdT 1024 t 0 = (s, l2, e2)) : tkV (c :: t) = if e2 = 0 then some ((3, 0, s), l2) else none := by simp only [tkV, hc, if_true, h]
theorem tk_num {t l2 : List UInt8} {c : UInt8} {v e2 : Nat} (hc : c.toNat ≠ 3) (h : rdU t 0 = (v, l2, e2)) : tkV (c :: t) = if e2 = 0 ∧ mayV ((c.toNat : Int), Lib.unzigzag v, []) = true then some (((c.toNat : Int), Lib.unzigzag v, []), l2) else none := by simp only [tkV, if_neg hc, h]
theorem tk_done {w w' : World} {b : Nat} {l l2 : List UInt8} {e e2 : Nat} {r : Ending} (hn : tkR l e = ((0, 0, []), false)) (hv : e = 0 → tkV l = none) (he : r = .returned (.tuple #[vA (0, 0, []), .bool false])) (hb : But b w w') (hr : Rd w' b l2 e2) (hl : l2.length ≤ l.length) : TkP w b l e r w' :=
  ⟨by rw [hn]; exact he, hb, l2, e2, hr, hl, fun h v t hs => by rw [hv h] at hs; cases hs⟩
theorem tk_yes {w w' : World} {b : Nat} {l l2 : List UInt8} {r : Ending} {v : V9} (hv : tkV l = some (v, l2)) (he : r = .returned (.tuple #[vA v, .bool true])) (hb : But b w w') (hr : Rd w' b l2 0) (hl : l2.length ≤ l.length) : TkP w b l 0 r w' :=
  ⟨by have : tkR l 0 = (v, true) := by unfold tkR; rw [if_pos rfl, hv]
      rw [this]; exact he, hb, l2, 0, hr, hl, fun _ v' t hs => by rw [hv] at hs; cases hs; exact ⟨rfl, rfl⟩⟩
theorem tkR_wrong {l : List UInt8} {e : Nat} (h : e ≠ 0) : tkR l e = ((0, 0, []), false) := if_neg h
theorem tkR_none {l : List UInt8} (h : tkV l = none) : tkR l 0 = ((0, 0, []), false) := by unfold tkR; rw [if_pos rfl, h]

set_option maxHeartbeats 4000000 in
set_option maxRecDepth 100000 in
theorem take_no {w : World} {b e e2 kk : Nat} {l l2 : List UInt8} (h : Rd w b l e) (hB : Hid (rdB l e = (kk, l2, e2))) (hl2 : l2.length ≤ l.length) (h256 : kk < 256) (hk : kk ≠ 1 ∧ kk ≠ 2 ∧ kk ≠ 3) (hn : tkR l e = ((0, 0, []), false)) (hv : e = 0 → tkV l = none) :
    Calls Try.prog 93 #[.pointer (some ⟨b, 0, none⟩)] w (TkP w b l e) := by
  have hlt := h.lt
  have CM := May_any ((kk : Int), 0, [])
  rw [show mayV ((kk : Int), 0, []) = false by unfold mayV; rw [if_neg (by simp only; omega)]; simp; omega] at CM
  unfold vA at CM
  have k1 : ((kk : Int) == 1) = false := beq_eq_false_iff_ne.2 (by omega)
  have k2 : ((kk : Int) == 2) = false := beq_eq_false_iff_ne.2 (by omega)
  have k3 : ((kk : Int) == 3) = false := beq_eq_false_iff_ne.2 (by omega)
  have R0 : Hid (B3 (w.alloc (.cells #[.int .i64 0, .int .i64 0, .string ⟨#[]⟩] 52)) w.heap.size (.int .i64 0) (.int .i64 0) (.string ⟨#[]⟩)) := B3.new _ _ _ _
  have CB := Byte_all (h.alloc (.cells #[.int .i64 0, .int .i64 0, .string ⟨#[]⟩] 52)) hB
  have HT : Hid (∀ r w' l3 e3, r = .returned (.tuple #[vA (0, 0, []), .bool false]) → But b w w' → Rd w' b l3 e3 → l3.length ≤ l.length → TkP w b l e r w') := fun r w' l3 e3 q1 q2 q3 q4 => tk_done hn hv q1 q2 q3 q4
  by_cases he2 : e2 = 0
  · subst he2
    clear hn hv hk
    go_enter Try.func93, Try.ntmps93
    go_wp2_with (first
      | (go_at_call 58; refine CB.mono ?_; rintro e' w1 ⟨rfl, r1, b1⟩; (have R1 : Hid (B3 (w1.alloc (.cells #[.int .i64 (kk : Int), .int .i64 0, .string ⟨#[]⟩] 52)) w.heap.size (.int .i64 0) (.int .i64 0) (.string ⟨#[]⟩)) := (R0.out.but b1 (by omega)).up ((Below.refl _ _).alloc (Nat.le_refl _) _)); (have D1 : Hid (Rd (w1.alloc (.cells #[.int .i64 (kk : Int), .int .i64 0, .string ⟨#[]⟩] 52)) b l2 0) := r1.alloc _); (have T1 : Hid (But b w (w1.alloc (.cells #[.int .i64 (kk : Int), .int .i64 0, .string ⟨#[]⟩] 52))) := ((((But.refl b w).alloc _).trans b1).alloc _)); (have CE := Err_any D1.out); clear r1 b1 CB)
      | (go_at_call 92; refine CE.mono ?_; rintro e' w2 ⟨rfl, hw2⟩; rw [hw2]; clear hw2 w2)
      | (go_at_call 54; refine (CM _).mono ?_; rintro e' w3 ⟨rfl, b3⟩; (have R3 := R1.out.up b3); (have g0 := R3.c0); (have g1 := R3.c1); (have g2 := R3.c2); (have f0 := R3.f 0); (have f1 := R3.f 1); (have f2 := R3.f 2); (have D3 : Hid (Rd w3 b l2 0) := D1.out.up b3); (have T3 : Hid (But b w w3) := T1.out.more b3); clear b3 R3))
    exact bodyPost_ret (v := .tuple #[.agg #[.int .i64 0, .int .i64 0, .string ⟨#[]⟩], .bool false]) (by simp [results, Try.results93, go_sem, g0, g1, g2]) rfl (HT.out _ _ l2 0 rfl (((T3.out.new (Nat.le_refl _) _ _).new (Nat.le_refl _) _ _).new (Nat.le_refl _) _ _) (((D3.out.set (by omega) _ _).set (by omega) _ _).set (by omega) _ _) hl2)
  · have hb2 : ((e2 : Int) != 0) = true := bne_iff_ne.2 (by omega)
    clear hn hv hk he2
    go_enter Try.func93, Try.ntmps93
    go_wp2_with (first
      | (go_at_call 58; refine CB.mono ?_; rintro e' w1 ⟨rfl, r1, b1⟩; (have R1 := (R0.out.but b1 (by omega)).up ((Below.refl _ w1).alloc (Nat.le_refl _) (.cells #[.int .i64 (kk : Int), .int .i64 0, .string ⟨#[]⟩] 52))); (have g0 := R1.c0); (have g1 := R1.c1); (have g2 := R1.c2); (have f0 := R1.f 0); (have f1 := R1.f 1); (have f2 := R1.f 2); (have D1 : Hid (Rd (w1.alloc (.cells #[.int .i64 (kk : Int), .int .i64 0, .string ⟨#[]⟩] 52)) b l2 e2) := r1.alloc _); (have T1 : Hid (But b w (w1.alloc (.cells #[.int .i64 (kk : Int), .int .i64 0, .string ⟨#[]⟩] 52))) := ((((But.refl b w).alloc _).trans b1).alloc _)); (have CE := Err_any D1.out); clear r1 b1 CB R1)
      | (go_at_call 92; refine CE.mono ?_; rintro e' w2 ⟨rfl, hw2⟩; rw [hw2]; clear hw2 w2))
    exact bodyPost_ret (v := .tuple #[.agg #[.int .i64 0, .int .i64 0, .string ⟨#[]⟩], .bool false]) (by simp [results, Try.results93, go_sem, g0, g1, g2]) rfl (HT.out _ _ l2 e2 rfl (((T1.out.new (Nat.le_refl _) _ _).new (Nat.le_refl _) _ _).new (Nat.le_refl _) _ _) (((D1.out.set (by omega) _ _).set (by omega) _ _).set (by omega) _ _) hl2)

set_option maxHeartbeats 4000000 in
set_option maxRecDepth 100000 in
theorem take_n1 {w : World} {b : Nat} {t l2 : List UInt8} {v e2 : Nat} (h : Rd w b (1 :: t) 0) (hres : Hid (rdU t 0 = (v, l2, e2))) :
    Calls Try.prog 93 #[.pointer (some ⟨b, 0, none⟩)] w (TkP w b (1 :: t) 0) := by
  have hlt := h.lt
  have hB : Hid (rdB (1 :: t) 0 = (1, t, 0)) := by show _ = _; rfl
  have hl2 := rdU9_le hres.out
  have hl3 : l2.length ≤ (1 :: t).length := by rw [List.length_cons]; omega
  have htk := tk_num (c := 1) (by decide) hres.out
  obtain ⟨n, hnn⟩ : ∃ n, Lib.unzigzag v = n := ⟨_, rfl⟩
  rw [show (((1 : UInt8).toNat : Nat) : Int) = 1 from rfl, hnn] at htk
  have CM := May_any (1, n, [])
  have R0 : Hid (B3 (w.alloc (.cells #[.int .i64 0, .int .i64 0, .string ⟨#[]⟩] 52)) w.heap.size (.int .i64 0) (.int .i64 0) (.string ⟨#[]⟩)) := B3.new _ _ _ _
  have CB := Byte_all (h.alloc (.cells #[.int .i64 0, .int .i64 0, .string ⟨#[]⟩] 52)) hB
  have HN : Hid (tkV (1 :: t) = none → ∀ r w' l3 e3, r = .returned (.tuple #[vA (0, 0, []), .bool false]) → But b w w' → Rd w' b l3 e3 → l3.length ≤ (1 :: t).length → TkP w b (1 :: t) 0 r w') := fun hq r w' l3 e3 q1 q2 q3 q4 => tk_done (tkR_none hq) (fun _ => hq) q1 q2 q3 q4
  have HY : Hid (tkV (1 :: t) = some ((1, n, []), l2) → ∀ r w', r = .returned (.tuple #[vA (1, n, []), .bool true]) → But b w w' → Rd w' b l2 0 → TkP w b (1 :: t) 0 r w') := fun hq r w' q1 q2 q3 => tk_yes hq q1 q2 q3 hl3
  unfold vA at CM
  by_cases he2 : e2 = 0
  · subst he2
    cases hm : mayV (1, n, []) with
    | false =>
      rw [hm] at CM
      have HT := HN.out (by rw [htk, if_neg (fun h => by rw [hm] at h; cases h.2)])
      clear htk HN HY
      go_enter Try.func93, Try.ntmps93
      go_wp2_with (first
        | (go_at_call 58; refine CB.mono ?_; rintro e' w1 ⟨rfl, r1, b1⟩; (have hz1 : w.heap.size < w1.heap.size := by have := b1.size; rw [World.size_alloc] at this; omega); (have R1 : Hid (B3 (w1.alloc (.cells #[.int .i64 1, .int .i64 0, .string ⟨#[]⟩] 52)) w.heap.size (.int .i64 0) (.int .i64 0) (.string ⟨#[]⟩)) := (R0.out.but b1 (by omega)).up ((Below.refl _ _).alloc (Nat.le_refl _) _)); (have V1 : Hid (B3 (w1.alloc (.cells #[.int .i64 1, .int .i64 0, .string ⟨#[]⟩] 52)) w1.heap.size (.int .i64 1) (.int .i64 0) (.string ⟨#[]⟩)) := B3.new _ _ _ _); (have D1 : Hid (Rd (w1.alloc (.cells #[.int .i64 1, .int .i64 0, .string ⟨#[]⟩] 52)) b t 0) := r1.alloc _); (have T1 : Hid (But b w (w1.alloc (.cells #[.int .i64 1, .int .i64 0, .string ⟨#[]⟩] 52))) := ((((But.refl b w).alloc _).trans b1).alloc _)); (have CI := Int_all D1.out hres); clear r1 b1 CB)
        | (go_at_call 66; refine CI.mono ?_; rintro e' w2 ⟨rfl, r2, b2⟩; (try rw [hnn]); (have V2 := V1.out.but b2 (by omega)); (have R2 := R1.out.but b2 (by omega)); (have c0 := V2.c0); (have c1 := V2.c1); (have c2 := V2.c2); (have fz := V2.f 1); (have V3 : Hid (B3 (w2.setCell ⟨w1.heap.size, 1, none⟩ (.int .i64 n)) w1.heap.size (.int .i64 1) (.int .i64 n) (.string ⟨#[]⟩)) := V2.set1 _); (have R3 : Hid (B3 (w2.setCell ⟨w1.heap.size, 1, none⟩ (.int .i64 n)) w.heap.size (.int .i64 0) (.int .i64 0) (.string ⟨#[]⟩)) := R2.but (r := w1.heap.size) ((But.refl _ w2).setCell _ _) (by omega)); (have D3 : Hid (Rd (w2.setCell ⟨w1.heap.size, 1, none⟩ (.int .i64 n)) b l2 0) := r2.set (by omega) _ _); (have T3 : Hid (But b w (w2.setCell ⟨w1.heap.size, 1, none⟩ (.int .i64 n))) := (T1.out.trans b2).new (by omega) _ _); (have CE := Err_any D3.out); clear V2 R2 r2 b2 CI)
        | (go_at_call 92; refine CE.mono ?_; rintro e' w3 ⟨rfl, hw3⟩; rw [hw3]; clear hw3 w3)
        | (go_at_call 54; refine (CM _).mono ?_; rintro e' w4 ⟨rfl, b4⟩; (have R4 := R3.out.up b4); (have V4 := V3.out.up b4); (have g0 := R4.c0); (have g1 := R4.c1); (have g2 := R4.c2); (have f0 := R4.f 0); (have f1 := R4.f 1); (have f2 := R4.f 2); (have y0 := V4.c0); (have y1 := V4.c1); (have y2 := V4.c2); (have D4 : Hid (Rd w4 b l2 0) := D3.out.up b4); (have T4 : Hid (But b w w4) := T3.out.more b4); clear b4 R4 V4 c0 c1 c2 fz))
      exact bodyPost_ret (v := .tuple #[.agg #[.int .i64 0, .int .i64 0, .string ⟨#[]⟩], .bool false]) (by simp [results, Try.results93, go_sem, g0, g1, g2]) rfl (HT _ _ l2 0 rfl (((T4.out.new (Nat.le_refl _) _ _).new (Nat.le_refl _) _ _).new (Nat.le_refl _) _ _) (((D4.out.set (by omega) _ _).set (by omega) _ _).set (by omega) _ _) hl3)
    | true =>
      rw [hm] at CM
      have HT := HY.out (by rw [htk]; rw [if_pos ⟨rfl, hm⟩])
      clear htk HN HY
      go_enter Try.func93, Try.ntmps93
      go_wp2_with (first
        | (go_at_call 58; refine CB.mono ?_; rintro e' w1 ⟨rfl, r1, b1⟩; (have hz1 : w.heap.size < w1.heap.size := by have := b1.size; rw [World.size_alloc] at this; omega); (have R1 : Hid (B3 (w1.alloc (.cells #[.int .i64 1, .int .i64 0, .string ⟨#[]⟩] 52)) w.heap.size (.int .i64 0) (.int .i64 0) (.string ⟨#[]⟩)) := (R0.out.but b1 (by omega)).up ((Below.refl _ _).alloc (Nat.le_refl _) _)); (have V1 : Hid (B3 (w1.alloc (.cells #[.int .i64 1, .int .i64 0, .string ⟨#[]⟩] 52)) w1.heap.size (.int .i64 1) (.int .i64 0) (.string ⟨#[]⟩)) := B3.new _ _ _ _); (have D1 : Hid (Rd (w1.alloc (.cells #[.int .i64 1, .int .i64 0, .string ⟨#[]⟩] 52)) b t 0) := r1.alloc _); (have T1 : Hid (But b w (w1.alloc (.cells #[.int .i64 1, .int .i64 0, .string ⟨#[]⟩] 52))) := ((((But.refl b w).alloc _).trans b1).alloc _)); (have CI := Int_all D1.out hres); clear r1 b1 CB)
        | (go_at_call 66; refine CI.mono ?_; rintro e' w2 ⟨rfl, r2, b2⟩; (try rw [hnn]); (have V2 := V1.out.but b2 (by omega)); (have R2 := R1.out.but b2 (by omega)); (have c0 := V2.c0); (have c1 := V2.c1); (have c2 := V2.c2); (have fz := V2.f 1); (have V3 : Hid (B3 (w2.setCell ⟨w1.heap.size, 1, none⟩ (.int .i64 n)) w1.heap.size (.int .i64 1) (.int .i64 n) (.string ⟨#[]⟩)) := V2.set1 _); (have R3 : Hid (B3 (w2.setCell ⟨w1.heap.size, 1, none⟩ (.int .i64 n)) w.heap.size (.int .i64 0) (.int .i64 0) (.string ⟨#[]⟩)) := R2.but (r := w1.heap.size) ((But.refl _ w2).setCell _ _) (by omega)); (have D3 : Hid (Rd (w2.setCell ⟨w1.heap.size, 1, none⟩ (.int .i64 n)) b l2 0) := r2.set (by omega) _ _); (have T3 : Hid (But b w (w2.setCell ⟨w1.heap.size, 1, none⟩ (.int .i64 n))) := (T1.out.trans b2).new (by omega) _ _); (have CE := Err_any D3.out); clear V2 R2 r2 b2 CI)
        | (go_at_call 92; refine CE.mono ?_; rintro e' w3 ⟨rfl, hw3⟩; rw [hw3]; clear hw3 w3)
        | (go_at_call 54; refine (CM _).mono ?_; rintro e' w4 ⟨rfl, b4⟩; (have R4 := R3.out.up b4); (have V4 := V3.out.up b4); (have g0 := R4.c0); (have g1 := R4.c1); (have g2 := R4.c2); (have f0 := R4.f 0); (have f1 := R4.f 1); (have f2 := R4.f 2); (have y0 := V4.c0); (have y1 := V4.c1); (have y2 := V4.c2); (have D4 : Hid (Rd w4 b l2 0) := D3.out.up b4); (have T4 : Hid (But b w w4) := T3.out.more b4); clear b4 R4 V4 c0 c1 c2 fz))
      exact bodyPost_ret (v := .tuple #[.agg #[.int .i64 1, .int .i64 n, .string ⟨#[]⟩], .bool true]) (by simp [results, Try.results93, go_sem, g0, g1, g2]) rfl (HT _ _ rfl (((T4.out.new (Nat.le_refl _) _ _).new (Nat.le_refl _) _ _).new (Nat.le_refl _) _ _) (((D4.out.set (by omega) _ _).set (by omega) _ _).set (by omega) _ _))
  · have hb2 : ((e2 : Int) != 0) = true := bne_iff_ne.2 (by omega)
    have HT := HN.out (by rw [htk]; rw [if_neg (fun h => he2 h.1)])
    clear htk HN HY he2
    go_enter Try.func93, Try.ntmps93
    go_wp2_with (first
      | (go_at_call 58; refine CB.mono ?_; rintro e' w1 ⟨rfl, r1, b1⟩; (have hz1 : w.heap.size < w1.heap.size := by have := b1.size; rw [World.size_alloc] at this; omega); (have R1 : Hid (B3 (w1.alloc (.cells #[.int .i64 1, .int .i64 0, .string ⟨#[]⟩] 52)) w.heap.size (.int .i64 0) (.int .i64 0) (.string ⟨#[]⟩)) := (R0.out.but b1 (by omega)).up ((Below.refl _ _).alloc (Nat.le_refl _) _)); (have V1 : Hid (B3 (w1.alloc (.cells #[.int .i64 1, .int .i64 0, .string ⟨#[]⟩] 52)) w1.heap.size (.int .i64 1) (.int .i64 0) (.string ⟨#[]⟩)) := B3.new _ _ _ _); (have D1 : Hid (Rd (w1.alloc (.cells #[.int .i64 1, .int .i64 0, .string ⟨#[]⟩] 52)) b t 0) := r1.alloc _); (have T1 : Hid (But b w (w1.alloc (.cells #[.int .i64 1, .int .i64 0, .string ⟨#[]⟩] 52))) := ((((But.refl b w).alloc _).trans b1).alloc _)); (have CI := Int_all D1.out hres); clear r1 b1 CB)
      | (go_at_call 66; refine CI.mono ?_; rintro e' w2 ⟨rfl, r2, b2⟩; (try rw [hnn]); (have V2 := V1.out.but b2 (by omega)); (have R2 := R1.out.but b2 (by omega)); (have c0 := V2.c0); (have c1 := V2.c1); (have c2 := V2.c2); (have fz := V2.f 1); (have V3 : Hid (B3 (w2.setCell ⟨w1.heap.size, 1, none⟩ (.int .i64 n)) w1.heap.size (.int .i64 1) (.int .i64 n) (.string ⟨#[]⟩)) := V2.set1 _); (have R3 : Hid (B3 (w2.setCell ⟨w1.heap.size, 1, none⟩ (.int .i64 n)) w.heap.size (.int .i64 0) (.int .i64 0) (.string ⟨#[]⟩)) := R2.but (r := w1.heap.size) ((But.refl _ w2).setCell _ _) (by omega)); (have D3 : Hid (Rd (w2.setCell ⟨w1.heap.size, 1, none⟩ (.int .i64 n)) b l2 e2) := r2.set (by omega) _ _); (have T3 : Hid (But b w (w2.setCell ⟨w1.heap.size, 1, none⟩ (.int .i64 n))) := (T1.out.trans b2).new (by omega) _ _); (have CE := Err_any D3.out); (have g0 := R3.out.c0); (have g1 := R3.out.c1); (have g2 := R3.out.c2); (have f0 := R3.out.f 0); (have f1 := R3.out.f 1); (have f2 := R3.out.f 2); clear V2 R2 r2 b2 CI)
      | (go_at_call 92; refine CE.mono ?_; rintro e' w3 ⟨rfl, hw3⟩; rw [hw3]; clear hw3 w3))
    exact bodyPost_ret (v := .tuple #[.agg #[.int .i64 0, .int .i64 0, .string ⟨#[]⟩], .bool false]) (by simp [results, Try.results93, go_sem, g0, g1, g2]) rfl (HT _ _ l2 e2 rfl (((T3.out.new (Nat.le_refl _) _ _).new (Nat.le_refl _) _ _).new (Nat.le_refl _) _ _) (((D3.out.set (by omega) _ _).set (by omega) _ _).set (by omega) _ _) hl3)

set_option maxHeartbeats 4000000 in
set_option maxRecDepth 100000 in
theorem take_n2 {w : World} {b : Nat} {t l2 : List UInt8} {v e2 : Nat} (h : Rd w b (2 :: t) 0) (hres : Hid (rdU t 0 = (v, l2, e2))) :
    Calls Try.prog 93 #[.pointer (some ⟨b, 0, none⟩)] w (TkP w b (2 :: t) 0) := by
  have hlt := h.lt
  have hB : Hid (rdB (2 :: t) 0 = (2, t, 0)) := by show _ = _; rfl
  have hl2 := rdU9_le hres.out
  have hl3 : l2.length ≤ (2 :: t).length := by rw [List.length_cons]; omega
  have htk := tk_num (c := 2) (by decide) hres.out
  obtain ⟨n, hnn⟩ : ∃ n, Lib.unzigzag v = n := ⟨_, rfl⟩
  rw [show (((2 : UInt8).toNat : Nat) : Int) = 2 from rfl, hnn] at htk
  have CM := May_any (2, n, [])
  have R0 : Hid (B3 (w.alloc (.cells #[.int .i64 0, .int .i64 0, .string ⟨#[]⟩] 52)) w.heap.size (.int .i64 0) (.int .i64 0) (.string ⟨#[]⟩)) := B3.new _ _ _ _
  have CB := Byte_all (h.alloc (.cells #[.int .i64 0, .int .i64 0, .string ⟨#[]⟩] 52)) hB
  have HN : Hid (tkV (2 :: t) = none → ∀ r w' l3 e3, r = .returned (.tuple #[vA (0, 0, []), .bool false]) → But b w w' → Rd w' b l3 e3 → l3.length ≤ (2 :: t).length → TkP w b (2 :: t) 0 r w') := fun hq r w' l3 e3 q1 q2 q3 q4 => tk_done (tkR_none hq) (fun _ => hq) q1 q2 q3 q4
  have HY : Hid (tkV (2 :: t) = some ((2, n, []), l2) → ∀ r w', r = .returned (.tuple #[vA (2, n, []), .bool true]) → But b w w' → Rd w' b l2 0 → TkP w b (2 :: t) 0 r w') := fun hq r w' q1 q2 q3 => tk_yes hq q1 q2 q3 hl3
  unfold vA at CM
  by_cases he2 : e2 = 0
  · subst he2
    cases hm : mayV (2, n, []) with
    | false =>
      rw [hm] at CM
      have HT := HN.out (by rw [htk, if_neg (fun h => by rw [hm] at h; cases h.2)])
      clear htk HN HY
      go_enter Try.func93, Try.ntmps93
      go_wp2_with (first
        | (go_at_call 58; refine CB.mono ?_; rintro e' w1 ⟨rfl, r1, b1⟩; (have hz1 : w.heap.size < w1.heap.size := by have := b1.size; rw [World.size_alloc] at this; omega); (have R1 : Hid (B3 (w1.alloc (.cells #[.int .i64 2, .int .i64 0, .string ⟨#[]⟩] 52)) w.heap.size (.int .i64 0) (.int .i64 0) (.string ⟨#[]⟩)) := (R0.out.but b1 (by omega)).up ((Below.refl _ _).alloc (Nat.le_refl _) _)); (have V1 : Hid (B3 (w1.alloc (.cells #[.int .i64 2, .int .i64 0, .string ⟨#[]⟩] 52)) w1.heap.size (.int .i64 2) (.int .i64 0) (.string ⟨#[]⟩)) := B3.new _ _ _ _); (have D1 : Hid (Rd (w1.alloc (.cells #[.int .i64 2, .int .i64 0, .string ⟨#[]⟩] 52)) b t 0) := r1.alloc _); (have T1 : Hid (But b w (w1.alloc (.cells #[.int .i64 2, .int .i64 0, .string ⟨#[]⟩] 52))) := ((((But.refl b w).alloc _).trans b1).alloc _)); (have CI := Int_all D1.out hres); clear r1 b1 CB)
        | (go_at_call 66; refine CI.mono ?_; rintro e' w2 ⟨rfl, r2, b2⟩; (try rw [hnn]); (have V2 := V1.out.but b2 (by omega)); (have R2 := R1.out.but b2 (by omega)); (have c0 := V2.c0); (have c1 := V2.c1); (have c2 := V2.c2); (have fz := V2.f 1); (have V3 : Hid (B3 (w2.setCell ⟨w1.heap.size, 1, none⟩ (.int .i64 n)) w1.heap.size (.int .i64 2) (.int .i64 n) (.string ⟨#[]⟩)) := V2.set1 _); (have R3 : Hid (B3 (w2.setCell ⟨w1.heap.size, 1, none⟩ (.int .i64 n)) w.heap.size (.int .i64 0) (.int .i64 0) (.string ⟨#[]⟩)) := R2.but (r := w1.heap.size) ((But.refl _ w2).setCell _ _) (by omega)); (have D3 : Hid (Rd (w2.setCell ⟨w1.heap.size, 1, none⟩ (.int .i64 n)) b l2 0) := r2.set (by omega) _ _); (have T3 : Hid (But b w (w2.setCell ⟨w1.heap.size, 1, none⟩ (.int .i64 n))) := (T1.out.trans b2).new (by omega) _ _); (have CE := Err_any D3.out); clear V2 R2 r2 b2 CI)
        | (go_at_call 92; refine CE.mono ?_; rintro e' w3 ⟨rfl, hw3⟩; rw [hw3]; clear hw3 w3)
        | (go_at_call 54; refine (CM _).mono ?_; rintro e' w4 ⟨rfl, b4⟩; (have R4 := R3.out.up b4); (have V4 := V3.out.up b4); (have g0 := R4.c0); (have g1 := R4.c1); (have g2 := R4.c2); (have f0 := R4.f 0); (have f1 := R4.f 1); (have f2 := R4.f 2); (have y0 := V4.c0); (have y1 := V4.c1); (have y2 := V4.c2); (have D4 : Hid (Rd w4 b l2 0) := D3.out.up b4); (have T4 : Hid (But b w w4) := T3.out.more b4); clear b4 R4 V4 c0 c1 c2 fz))
      exact bodyPost_ret (v := .tuple #[.agg #[.int .i64 0, .int .i64 0, .string ⟨#[]⟩], .bool false]) (by simp [results, Try.results93, go_sem, g0, g1, g2]) rfl (HT _ _ l2 0 rfl (((T4.out.new (Nat.le_refl _) _ _).new (Nat.le_refl _) _ _).new (Nat.le_refl _) _ _) (((D4.out.set (by omega) _ _).set (by omega) _ _).set (by omega) _ _) hl3)
    | true =>
      rw [hm] at CM
      have HT := HY.out (by rw [htk]; rw [if_pos ⟨rfl, hm⟩])
      clear htk HN HY
      go_enter Try.func93, Try.ntmps93
      go_wp2_with (first
        | (go_at_call 58; refine CB.mono ?_; rintro e' w1 ⟨rfl, r1, b1⟩; (have hz1 : w.heap.size < w1.heap.size := by have := b1.size; rw [World.size_alloc] at this; omega); (have R1 : Hid (B3 (w1.alloc (.cells #[.int .i64 2, .int .i64 0, .string ⟨#[]⟩] 52)) w.heap.size (.int .i64 0) (.int .i64 0) (.string ⟨#[]⟩)) := (R0.out.but b1 (by omega)).up ((Below.refl _ _).alloc (Nat.le_refl _) _)); (have V1 : Hid (B3 (w1.alloc (.cells #[.int .i64 2, .int .i64 0, .string ⟨#[]⟩] 52)) w1.heap.size (.int .i64 2) (.int .i64 0) (.string ⟨#[]⟩)) := B3.new _ _ _ _); (have D1 : Hid (Rd (w1.alloc (.cells #[.int .i64 2, .int .i64 0, .string ⟨#[]⟩] 52)) b t 0) := r1.alloc _); (have T1 : Hid (But b w (w1.alloc (.cells #[.int .i64 2, .int .i64 0, .string ⟨#[]⟩] 52))) := ((((But.refl b w).alloc _).trans b1).alloc _)); (have CI := Int_all D1.out hres); clear r1 b1 CB)
        | (go_at_call 66; refine CI.mono ?_; rintro e' w2 ⟨rfl, r2, b2⟩; (try rw [hnn]); (have V2 := V1.out.but b2 (by omega)); (have R2 := R1.out.but b2 (by omega)); (have c0 := V2.c0); (have c1 := V2.c1); (have c2 := V2.c2); (have fz := V2.f 1); (have V3 : Hid (B3 (w2.setCell ⟨w1.heap.size, 1, none⟩ (.int .i64 n)) w1.heap.size (.int .i64 2) (.int .i64 n) (.string ⟨#[]⟩)) := V2.set1 _); (have R3 : Hid (B3 (w2.setCell ⟨w1.heap.size, 1, none⟩ (.int .i64 n)) w.heap.size (.int .i64 0) (.int .i64 0) (.string ⟨#[]⟩)) := R2.but (r := w1.heap.size) ((But.refl _ w2).setCell _ _) (by omega)); (have D3 : Hid (Rd (w2.setCell ⟨w1.heap.size, 1, none⟩ (.int .i64 n)) b l2 0) := r2.set (by omega) _ _); (have T3 : Hid (But b w (w2.setCell ⟨w1.heap.size, 1, none⟩ (.int .i64 n))) := (T1.out.trans b2).new (by omega) _ _); (have CE := Err_any D3.out); clear V2 R2 r2 b2 CI)
        | (go_at_call 92; refine CE.mono ?_; rintro e' w3 ⟨rfl, hw3⟩; rw [hw3]; clear hw3 w3)
        | (go_at_call 54; refine (CM _).mono ?_; rintro e' w4 ⟨rfl, b4⟩; (have R4 := R3.out.up b4); (have V4 := V3.out.up b4); (have g0 := R4.c0); (have g1 := R4.c1); (have g2 := R4.c2); (have f0 := R4.f 0); (have f1 := R4.f 1); (have f2 := R4.f 2); (have y0 := V4.c0); (have y1 := V4.c1); (have y2 := V4.c2); (have D4 : Hid (Rd w4 b l2 0) := D3.out.up b4); (have T4 : Hid (But b w w4) := T3.out.more b4); clear b4 R4 V4 c0 c1 c2 fz))
      exact bodyPost_ret (v := .tuple #[.agg #[.int .i64 2, .int .i64 n, .string ⟨#[]⟩], .bool true]) (by simp [results, Try.results93, go_sem, g0, g1, g2]) rfl (HT _ _ rfl (((T4.out.new (Nat.le_refl _) _ _).new (Nat.le_refl _) _ _).new (Nat.le_refl _) _ _) (((D4.out.set (by omega) _ _).set (by omega) _ _).set (by omega) _ _))
  · have hb2 : ((e2 : Int) != 0) = true := bne_iff_ne.2 (by omega)
    have HT := HN.out (by rw [htk]; rw [if_neg (fun h => he2 h.1)])
    clear htk HN HY he2
    go_enter Try.func93, Try.ntmps93
    go_wp2_with (first
      | (go_at_call 58; refine CB.mono ?_; rintro e' w1 ⟨rfl, r1, b1⟩; (have hz1 : w.heap.size < w1.heap.size := by have := b1.size; rw [World.size_alloc] at this; omega); (have R1 : Hid (B3 (w1.alloc (.cells #[.int .i64 2, .int .i64 0, .string ⟨#[]⟩] 52)) w.heap.size (.int .i64 0) (.int .i64 0) (.string ⟨#[]⟩)) := (R0.out.but b1 (by omega)).up ((Below.refl _ _).alloc (Nat.le_refl _) _)); (have V1 : Hid (B3 (w1.alloc (.cells #[.int .i64 2, .int .i64 0, .string ⟨#[]⟩] 52)) w1.heap.size (.int .i64 2) (.int .i64 0) (.string ⟨#[]⟩)) := B3.new _ _ _ _); (have D1 : Hid (Rd (w1.alloc (.cells #[.int .i64 2, .int .i64 0, .string ⟨#[]⟩] 52)) b t 0) := r1.alloc _); (have T1 : Hid (But b w (w1.alloc (.cells #[.int .i64 2, .int .i64 0, .string ⟨#[]⟩] 52))) := ((((But.refl b w).alloc _).trans b1).alloc _)); (have CI := Int_all D1.out hres); clear r1 b1 CB)
      | (go_at_call 66; refine CI.mono ?_; rintro e' w2 ⟨rfl, r2, b2⟩; (try rw [hnn]); (have V2 := V1.out.but b2 (by omega)); (have R2 := R1.out.but b2 (by omega)); (have c0 := V2.c0); (have c1 := V2.c1); (have c2 := V2.c2); (have fz := V2.f 1); (have V3 : Hid (B3 (w2.setCell ⟨w1.heap.size, 1, none⟩ (.int .i64 n)) w1.heap.size (.int .i64 2) (.int .i64 n) (.string ⟨#[]⟩)) := V2.set1 _); (have R3 : Hid (B3 (w2.setCell ⟨w1.heap.size, 1, none⟩ (.int .i64 n)) w.heap.size (.int .i64 0) (.int .i64 0) (.string ⟨#[]⟩)) := R2.but (r := w1.heap.size) ((But.refl _ w2).setCell _ _) (by omega)); (have D3 : Hid (Rd (w2.setCell ⟨w1.heap.size, 1, none⟩ (.int .i64 n)) b l2 e2) := r2.set (by omega) _ _); (have T3 : Hid (But b w (w2.setCell ⟨w1.heap.size, 1, none⟩ (.int .i64 n))) := (T1.out.trans b2).new (by omega) _ _); (have CE := Err_any D3.out); (have g0 := R3.out.c0); (have g1 := R3.out.c1); (have g2 := R3.out.c2); (have f0 := R3.out.f 0); (have f1 := R3.out.f 1); (have f2 := R3.out.f 2); clear V2 R2 r2 b2 CI)
      | (go_at_call 92; refine CE.mono ?_; rintro e' w3 ⟨rfl, hw3⟩; rw [hw3]; clear hw3 w3))
    exact bodyPost_ret (v := .tuple #[.agg #[.int .i64 0, .int .i64 0, .string ⟨#[]⟩], .bool false]) (by simp [results, Try.results93, go_sem, g0, g1, g2]) rfl (HT _ _ l2 e2 rfl (((T3.out.new (Nat.le_refl _) _ _).new (Nat.le_refl _) _ _).new (Nat.le_refl _) _ _) (((D3.out.set (by omega) _ _).set (by omega) _ _).set (by omega) _ _) hl3)

set_option maxHeartbeats 4000000 in
set_option maxRecDepth 100000 in
theorem take_t3 {w : World} {b : Nat} {s t l2 : List UInt8} {e2 : Nat} (h : Rd w b (3 :: t) 0) (hlen : t.length ≤ 140737488400000) (hres : Hid (rdT 1024 t 0 = (s, l2, e2))) :
    Calls Try.prog 93 #[.pointer (some ⟨b, 0, none⟩)] w (TkP w b (3 :: t) 0) := by
  have hlt := h.lt
  have hB : Hid (rdB (3 :: t) 0 = (3, t, 0)) := by show _ = _; rfl
  have hl2 := (rdT9_le hres.out).1
  have hl3 : l2.length ≤ (3 :: t).length := by rw [List.length_cons]; omega
  have htk := tk_text (c := 3) (by decide) hres.out
  have CM := May_any (3, 0, s)
  have R0 : Hid (B3 (w.alloc (.cells #[.int .i64 0, .int .i64 0, .string ⟨#[]⟩] 52)) w.heap.size (.int .i64 0) (.int .i64 0) (.string ⟨#[]⟩)) := B3.new _ _ _ _
  have CB := Byte_all (h.alloc (.cells #[.int .i64 0, .int .i64 0, .string ⟨#[]⟩] 52)) hB
  have HN : Hid (tkV (3 :: t) = none → ∀ r w' l3 e3, r = .returned (.tuple #[vA (0, 0, []), .bool false]) → But b w w' → Rd w' b l3 e3 → l3.length ≤ (3 :: t).length → TkP w b (3 :: t) 0 r w') := fun hq r w' l3 e3 q1 q2 q3 q4 => tk_done (tkR_none hq) (fun _ => hq) q1 q2 q3 q4
  have HY : Hid (tkV (3 :: t) = some ((3, 0, s), l2) → ∀ r w', r = .returned (.tuple #[vA (3, 0, s), .bool true]) → But b w w' → Rd w' b l2 0 → TkP w b (3 :: t) 0 r w') := fun hq r w' q1 q2 q3 => tk_yes hq q1 q2 q3 hl3
  unfold vA at CM
  by_cases he2 : e2 = 0
  · subst he2
    cases hm : mayV (3, 0, s) with
    | false =>
      rw [hm] at CM
      exfalso
      have := (rdT9_le hres.out).2 rfl
      unfold mayV at hm
      rw [if_pos rfl] at hm
      have h9 := of_decide_eq_false hm
      exact h9 ⟨rfl, by simp only; omega⟩
    | true =>
      rw [hm] at CM
      have HT := HY.out (by rw [htk]; rw [if_pos rfl])
      clear htk HN HY
      go_enter Try.func93, Try.ntmps93
      go_wp2_with (first
        | (go_at_call 58; refine CB.mono ?_; rintro e' w1 ⟨rfl, r1, b1⟩; (have hz1 : w.heap.size < w1.heap.size := by have := b1.size; rw [World.size_alloc] at this; omega); (have R1 : Hid (B3 (w1.alloc (.cells #[.int .i64 3, .int .i64 0, .string ⟨#[]⟩] 52)) w.heap.size (.int .i64 0) (.int .i64 0) (.string ⟨#[]⟩)) := (R0.out.but b1 (by omega)).up ((Below.refl _ _).alloc (Nat.le_refl _) _)); (have V1 : Hid (B3 (w1.alloc (.cells #[.int .i64 3, .int .i64 0, .string ⟨#[]⟩] 52)) w1.heap.size (.int .i64 3) (.int .i64 0) (.string ⟨#[]⟩)) := B3.new _ _ _ _); (have D1 : Hid (Rd (w1.alloc (.cells #[.int .i64 3, .int .i64 0, .string ⟨#[]⟩] 52)) b t 0) := r1.alloc _); (have T1 : Hid (But b w (w1.alloc (.cells #[.int .i64 3, .int .i64 0, .string ⟨#[]⟩] 52))) := ((((But.refl b w).alloc _).trans b1).alloc _)); (have CI := Text_allW D1.out (by omega) (by omega) hres); clear r1 b1 CB)
        | (go_at_call 70; refine CI.mono ?_; rintro e' w2 ⟨rfl, r2, b2⟩; (have V2 := V1.out.but b2 (by omega)); (have R2 := R1.out.but b2 (by omega)); (have c0 := V2.c0); (have c1 := V2.c1); (have c2 := V2.c2); (have fz := V2.f 2); (have V3 : Hid (B3 (w2.setCell ⟨w1.heap.size, 2, none⟩ (.string (S s))) w1.heap.size (.int .i64 3) (.int .i64 0) (.string (S s))) := V2.set2 _); (have R3 : Hid (B3 (w2.setCell ⟨w1.heap.size, 2, none⟩ (.string (S s))) w.heap.size (.int .i64 0) (.int .i64 0) (.string ⟨#[]⟩)) := R2.but (r := w1.heap.size) ((But.refl _ w2).setCell _ _) (by omega)); (have D3 : Hid (Rd (w2.setCell ⟨w1.heap.size, 2, none⟩ (.string (S s))) b l2 0) := r2.set (by omega) _ _); (have T3 : Hid (But b w (w2.setCell ⟨w1.heap.size, 2, none⟩ (.string (S s)))) := (T1.out.trans b2).new (by omega) _ _); (have CE := Err_any D3.out); clear V2 R2 r2 b2 CI)
        | (go_at_call 92; refine CE.mono ?_; rintro e' w3 ⟨rfl, hw3⟩; rw [hw3]; clear hw3 w3)
        | (go_at_call 54; refine (CM _).mono ?_; rintro e' w4 ⟨rfl, b4⟩; (have R4 := R3.out.up b4); (have V4 := V3.out.up b4); (have g0 := R4.c0); (have g1 := R4.c1); (have g2 := R4.c2); (have f0 := R4.f 0); (have f1 := R4.f 1); (have f2 := R4.f 2); (have y0 := V4.c0); (have y1 := V4.c1); (have y2 := V4.c2); (have D4 : Hid (Rd w4 b l2 0) := D3.out.up b4); (have T4 : Hid (But b w w4) := T3.out.more b4); clear b4 R4 V4 c0 c1 c2 fz))
      exact bodyPost_ret (v := .tuple #[.agg #[.int .i64 3, .int .i64 0, .string (S s)], .bool true]) (by simp [results, Try.results93, go_sem, g0, g1, g2]) rfl (HT _ _ rfl (((T4.out.new (Nat.le_refl _) _ _).new (Nat.le_refl _) _ _).new (Nat.le_refl _) _ _) (((D4.out.set (by omega) _ _).set (by omega) _ _).set (by omega) _ _))
  · have hb2 : ((e2 : Int) != 0) = true := bne_iff_ne.2 (by omega)
    have HT := HN.out (by rw [htk]; rw [if_neg he2])
    clear htk HN HY he2
    go_enter Try.func93, Try.ntmps93
    go_wp2_with (first
      | (go_at_call 58; refine CB.mono ?_; rintro e' w1 ⟨rfl, r1, b1⟩; (have hz1 : w.heap.size < w1.heap.size := by have := b1.size; rw [World.size_alloc] at this; omega); (have R1 : Hid (B3 (w1.alloc (.cells #[.int .i64 3, .int .i64 0, .string ⟨#[]⟩] 52)) w.heap.size (.int .i64 0) (.int .i64 0) (.string ⟨#[]⟩)) := (R0.out.but b1 (by omega)).up ((Below.refl _ _).alloc (Nat.le_refl _) _)); (have V1 : Hid (B3 (w1.alloc (.cells #[.int .i64 3, .int .i64 0, .string ⟨#[]⟩] 52)) w1.heap.size (.int .i64 3) (.int .i64 0) (.string ⟨#[]⟩)) := B3.new _ _ _ _); (have D1 : Hid (Rd (w1.alloc (.cells #[.int .i64 3, .int .i64 0, .string ⟨#[]⟩] 52)) b t 0) := r1.alloc _); (have T1 : Hid (But b w (w1.alloc (.cells #[.int .i64 3, .int .i64 0, .string ⟨#[]⟩] 52))) := ((((But.refl b w).alloc _).trans b1).alloc _)); (have CI := Text_allW D1.out (by omega) (by omega) hres); clear r1 b1 CB)
      | (go_at_call 70; refine CI.mono ?_; rintro e' w2 ⟨rfl, r2, b2⟩; (have V2 := V1.out.but b2 (by omega)); (have R2 := R1.out.but b2 (by omega)); (have c0 := V2.c0); (have c1 := V2.c1); (have c2 := V2.c2); (have fz := V2.f 2); (have V3 : Hid (B3 (w2.setCell ⟨w1.heap.size, 2, none⟩ (.string (S s))) w1.heap.size (.int .i64 3) (.int .i64 0) (.string (S s))) := V2.set2 _); (have R3 : Hid (B3 (w2.setCell ⟨w1.heap.size, 2, none⟩ (.string (S s))) w.heap.size (.int .i64 0) (.int .i64 0) (.string ⟨#[]⟩)) := R2.but (r := w1.heap.size) ((But.refl _ w2).setCell _ _) (by omega)); (have D3 : Hid (Rd (w2.setCell ⟨w1.heap.size, 2, none⟩ (.string (S s))) b l2 e2) := r2.set (by omega) _ _); (have T3 : Hid (But b w (w2.setCell ⟨w1.heap.size, 2, none⟩ (.string (S s)))) := (T1.out.trans b2).new (by omega) _ _); (have CE := Err_any D3.out); (have g0 := R3.out.c0); (have g1 := R3.out.c1); (have g2 := R3.out.c2); (have f0 := R3.out.f 0); (have f1 := R3.out.f 1); (have f2 := R3.out.f 2); clear V2 R2 r2 b2 CI)
      | (go_at_call 92; refine CE.mono ?_; rintro e' w3 ⟨rfl, hw3⟩; rw [hw3]; clear hw3 w3))
    exact bodyPost_ret (v := .tuple #[.agg #[.int .i64 0, .int .i64 0, .string ⟨#[]⟩], .bool false]) (by simp [results, Try.results93, go_sem, g0, g1, g2]) rfl (HT _ _ l2 e2 rfl (((T3.out.new (Nat.le_refl _) _ _).new (Nat.le_refl _) _ _).new (Nat.le_refl _) _ _) (((D3.out.set (by omega) _ _).set (by omega) _ _).set (by omega) _ _) hl3)

theorem Take_any {w : World} {b e : Nat} {l : List UInt8} (h : Rd w b l e) (hl : l.length ≤ 140737488400000) : Calls Try.prog 93 #[.pointer (some ⟨b, 0, none⟩)] w (TkP w b l e) := by
  by_cases he : e = 0
  · subst he
    cases l with
    | nil => exact take_no h (kk := 0) (l2 := []) (e2 := 2) (by show _ = _; rfl) (Nat.le_refl _) (by omega) ⟨by omega, by omega, by omega⟩ (tkR_none rfl) (fun _ => rfl)
    | cons c t =>
      have hc := c.toNat_lt
      by_cases h1 : c = 1
      · subst h1; exact take_n1 (v := (rdU t 0).1) (l2 := (rdU t 0).2.1) (e2 := (rdU t 0).2.2) h rfl
      · by_cases h2 : c = 2
        · subst h2; exact take_n2 (v := (rdU t 0).1) (l2 := (rdU t 0).2.1) (e2 := (rdU t 0).2.2) h rfl
        · by_cases h3 : c = 3
          · subst h3; exact take_t3 (s := (rdT 1024 t 0).1) (l2 := (rdT 1024 t 0).2.1) (e2 := (rdT 1024 t 0).2.2) h (by simp at hl; omega) rfl
          · have n1 : c.toNat ≠ 1 := fun e => h1 (UInt8.toNat_inj.1 e)
            have n2 : c.toNat ≠ 2 := fun e => h2 (UInt8.toNat_inj.1 e)
            have n3 : c.toNat ≠ 3 := fun e => h3 (UInt8.toNat_inj.1 e)
            have hq : tkV (c :: t) = none := by
              rw [tk_num (v := (rdU t 0).1) (l2 := (rdU t 0).2.1) (e2 := (rdU t 0).2.2) n3 rfl, if_neg]
              rintro ⟨-, hm⟩
              have := may_kind hm
              simp only at this
              omega
            exact take_no h (kk := c.toNat) (l2 := t) (e2 := 0) (by show _ = _; rfl) (by simp) (by omega) ⟨n1, n2, n3⟩ (tkR_none hq) (fun _ => hq)
  · exact take_no h (kk := 0) (l2 := l) (e2 := e) (by show _ = _; unfold rdB; rw [if_neg he]) (Nat.le_refl _) (by omega) ⟨by omega, by omega, by omega⟩ (tkR_wrong he) (fun h => absurd h he)
end Go.Proofs.Ytippnkendoghpaa

/-
  Activate of what may not be asked.
-/
import Derived.Test.YthmfcloecmnfnaaGreatB16Act
namespace Go.Proofs.YthmfcloecmnfnaaGreat.f13
open Go.RowKit Go.Shelf Go.Sort
open Go.Lib hiding intOf

open Go.Proofs.YthmfcloecmnfnaaGreat
set_option maxHeartbeats 2000000 in
set_option maxRecDepth 100000 in
theorem act_bad (g : Nat) {kind : List UInt8} (b : ByteArray) (m n : Int) (w : World) (hk : namV kind = false) (hl : kind.length ≤ 4611686018427387904) : Calls Tryz.prog 14 #[.pointer (some ⟨g, 0, none⟩), .string (S kind), .string b, .int .i64 m, .int .i64 n] w fun e w' => e = .returned (.tuple #[.slice none 0 0, .int .i64 1]) ∧ Below w.heap.size w w' := by
  have C1 := Named_S kind hl
  rw [hk] at C1
  have c5 : (((w.alloc (.cells #[.pointer (some ⟨g, 0, none⟩)] 49)).alloc (.cells #[.string b] 9)).alloc (.cells #[.int .i64 m] 2)).cell? ⟨w.heap.size, 0, none⟩ = some (.pointer (some ⟨g, 0, none⟩)) := by go_simp
  obtain ⟨W3, hW3⟩ : ∃ W3, ((w.alloc (.cells #[.pointer (some ⟨g, 0, none⟩)] 49)).alloc (.cells #[.string b] 9)).alloc (.cells #[.int .i64 m] 2) = W3 := ⟨_, rfl⟩
  have hb3 : Below w.heap.size w W3 := by rw [← hW3]; exact (((Below.refl _ w).alloc (Nat.le_refl _) _).alloc (by simp) _).alloc (by simp; omega) _
  rw [hW3] at c5
  have HB : Hid (Below w.heap.size w W3) := hb3
  clear hb3 hk hl
  go_enter Tryz.func14, Tryz.ntmps14
  go_wp2_with (go_at_call 24; (try rw [hW3]); refine (C1 _).mono ?_; rintro e w4 ⟨rfl, hw4⟩; rw [hw4]; clear hw4 w4 C1)
  refine bodyPost_ret (results_tmp2 rfl _ _ _) rfl ?_
  first
  | exact ⟨rfl, HB.out⟩
  | (rw [hW3]; exact ⟨rfl, HB.out⟩)
end Go.Proofs.YthmfcloecmnfnaaGreat.f13
namespace Go.Proofs.YthmfcloecmnfnaaGreat.f13
open Go.RowKit Go.Shelf Go.Sort
open Go.Lib hiding intOf
open Go.Proofs.YthmfcloecmnfnaaGreat
set_option maxHeartbeats 2000000 in
set_option maxRecDepth 100000 in
theorem act_bad2 (g : Nat) {kind wk : List UInt8} {m n : Int} (w : World) (hk : namV kind = true) (hk2 : namV wk = false) (hl2 : wk.length ≤ 4611686018427387904) : Calls Tryz.prog 14 #[.pointer (some ⟨g, 0, none⟩), .string (S kind), .string (S wk), .int .i64 m, .int .i64 n] w fun e w' => e = .returned (.tuple #[.slice none 0 0, .int .i64 1]) ∧ Below w.heap.size w w' := by
  have C1 := Named_S kind (by have := nam_32 hk; omega)
  rw [hk] at C1
  have C2 := Named_S wk hl2
  rw [hk2] at C2
  obtain ⟨W3, hW3⟩ : ∃ W3, ((w.alloc (.cells #[.pointer (some ⟨g, 0, none⟩)] 49)).alloc (.cells #[.string (S wk)] 9)).alloc (.cells #[.int .i64 m] 2) = W3 := ⟨_, rfl⟩
  have hb3 : Below w.heap.size w W3 := by rw [← hW3]; exact (((Below.refl _ w).alloc (Nat.le_refl _) _).alloc (by simp) _).alloc (by simp; omega) _
  have p5 : Bx W3 w.heap.size (.pointer (some ⟨g, 0, none⟩)) 49 := by rw [← hW3]; exact ((Bx.new w _ _).alloc _).alloc _
  have c5 := p5.cell
  have p7 : Bx W3 (w.heap.size + 1) (.string (S wk)) 9 := by
    rw [← hW3]
    have := (Bx.new (w.alloc (.cells #[.pointer (some ⟨g, 0, none⟩)] 49)) (.string (S wk)) 9).alloc (.cells #[.int .i64 m] 2)
    rwa [World.size_alloc] at this
  have p8 : Bx W3 (w.heap.size + 2) (.int .i64 m) 2 := by
    rw [← hW3]
    have := Bx.new ((w.alloc (.cells #[.pointer (some ⟨g, 0, none⟩)] 49)).alloc (.cells #[.string (S wk)] 9)) (.int .i64 m) 2
    simpa using this
  have c7 := p7.cell
  have c8 := p8.cell
  clear p5 p7 p8
  have HB : Hid (Below w.heap.size w W3) := hb3
  clear hb3 hk hk2 hl2
  go_enter Tryz.func14, Tryz.ntmps14
  go_wp2_with (go_at_call 24; (try rw [hW3]); refine (C1 _).mono ?_; rintro e w4 ⟨rfl, hw4⟩; rw [hw4]; clear hw4 w4 C1)
  go_wp2_with (go_at_call 24; (try rw [hW3]); refine (C2 _).mono ?_; rintro e w4 ⟨rfl, hw4⟩; rw [hw4]; clear hw4 w4 C2)
  refine bodyPost_ret (results_tmp2 rfl _ _ _) rfl ?_
  first
  | exact ⟨rfl, HB.out⟩
  | (rw [hW3]; exact ⟨rfl, HB.out⟩)
set_option maxHeartbeats 2000000 in
set_option maxRecDepth 100000 in
theorem act_bad3 (g : Nat) {kind wk : List UInt8} {m n : Int} (w : World) (hk : namV kind = true) (hk2 : namV wk = true) (hm : ¬ (1 ≤ m ∧ m ≤ 32)) : Calls Tryz.prog 14 #[.pointer (some ⟨g, 0, none⟩), .string (S kind), .string (S wk), .int .i64 m, .int .i64 n] w fun e w' => e = .returned (.tuple #[.slice none 0 0, .int .i64 1]) ∧ Below w.heap.size w w' := by
  have C1 := Named_S kind (by have := nam_32 hk; omega)
  rw [hk] at C1
  have C2 := Named_S wk (by have := nam_32 hk2; omega)
  rw [hk2] at C2
  have C3 : ∀ W, Calls Tryz.prog 25 #[.int .i64 m, .int .i64 1, .int .i64 32] W fun e w' => e = .returned (.bool false) ∧ w' = W := fun W => by
    have := within_any m 1 32 W
    rwa [show decide (1 ≤ m ∧ m ≤ 32) = false by simp; omega] at this
  obtain ⟨W3, hW3⟩ : ∃ W3, ((w.alloc (.cells #[.pointer (some ⟨g, 0, none⟩)] 49)).alloc (.cells #[.string (S wk)] 9)).alloc (.cells #[.int .i64 m] 2) = W3 := ⟨_, rfl⟩
  have hb3 : Below w.heap.size w W3 := by rw [← hW3]; exact (((Below.refl _ w).alloc (Nat.le_refl _) _).alloc (by simp) _).alloc (by simp; omega) _
  have p5 : Bx W3 w.heap.size (.pointer (some ⟨g, 0, none⟩)) 49 := by rw [← hW3]; exact ((Bx.new w _ _).alloc _).alloc _
  have c5 := p5.cell
  have p7 : Bx W3 (w.heap.size + 1) (.string (S wk)) 9 := by
    rw [← hW3]
    have := (Bx.new (w.alloc (.cells #[.pointer (some ⟨g, 0, none⟩)] 49)) (.string (S wk)) 9).alloc (.cells #[.int .i64 m] 2)
    rwa [World.size_alloc] at this
  have p8 : Bx W3 (w.heap.size + 2) (.int .i64 m) 2 := by
    rw [← hW3]
    have := Bx.new ((w.alloc (.cells #[.pointer (some ⟨g, 0, none⟩)] 49)).alloc (.cells #[.string (S wk)] 9)) (.int .i64 m) 2
    simpa using this
  have c7 := p7.cell
  have c8 := p8.cell
  clear p5 p7 p8
  have HB : Hid (Below w.heap.size w W3) := hb3
  clear hb3 hk hk2 hm
  go_enter Tryz.func14, Tryz.ntmps14
  go_wp2_with (go_at_call 24; (try rw [hW3]); refine (C1 _).mono ?_; rintro e w4 ⟨rfl, hw4⟩; rw [hw4]; clear hw4 w4 C1)
  go_wp2_with (go_at_call 24; (try rw [hW3]); refine (C2 _).mono ?_; rintro e w4 ⟨rfl, hw4⟩; rw [hw4]; clear hw4 w4 C2)
  go_wp2_with (go_at_call 25; (try rw [hW3]); refine (C3 _).mono ?_; rintro e w4 ⟨rfl, hw4⟩; rw [hw4]; clear hw4 w4 C3)
  refine bodyPost_ret (results_tmp2 rfl _ _ _) rfl ?_
  first
  | exact ⟨rfl, HB.out⟩
  | (rw [hW3]; exact ⟨rfl, HB.out⟩)
set_option maxHeartbeats 2000000 in
set_option maxRecDepth 100000 in
theorem act_bad4 (g : Nat) {kind wk : List UInt8} {m n : Int} (w : World) (hk : namV kind = true) (hk2 : namV wk = true) (hm : 1 ≤ m ∧ m ≤ 32) (hn : ¬ (1 ≤ n ∧ n ≤ 1048576)) : Calls Tryz.prog 14 #[.pointer (some ⟨g, 0, none⟩), .string (S kind), .string (S wk), .int .i64 m, .int .i64 n] w fun e w' => e = .returned (.tuple #[.slice none 0 0, .int .i64 1]) ∧ Below w.heap.size w w' := by
  have C1 := Named_S kind (by have := nam_32 hk; omega)
  rw [hk] at C1
  have C2 := Named_S wk (by have := nam_32 hk2; omega)
  rw [hk2] at C2
  have C3 : ∀ W, Calls Tryz.prog 25 #[.int .i64 m, .int .i64 1, .int .i64 32] W fun e w' => e = .returned (.bool true) ∧ w' = W := fun W => by
    have := within_any m 1 32 W
    rwa [show decide (1 ≤ m ∧ m ≤ 32) = true by simp; omega] at this
  have C4 : ∀ W, Calls Tryz.prog 25 #[.int .i64 n, .int .i64 1, .int .i64 1048576] W fun e w' => e = .returned (.bool false) ∧ w' = W := fun W => by
    have := within_any n 1 1048576 W
    rwa [show decide (1 ≤ n ∧ n ≤ 1048576) = false by simp; omega] at this
  obtain ⟨W3, hW3⟩ : ∃ W3, ((w.alloc (.cells #[.pointer (some ⟨g, 0, none⟩)] 49)).alloc (.cells #[.string (S wk)] 9)).alloc (.cells #[.int .i64 m] 2) = W3 := ⟨_, rfl⟩
  have hb3 : Below w.heap.size w W3 := by rw [← hW3]; exact (((Below.refl _ w).alloc (Nat.le_refl _) _).alloc (by simp) _).alloc (by simp; omega) _
  have p5 : Bx W3 w.heap.size (.pointer (some ⟨g, 0, none⟩)) 49 := by rw [← hW3]; exact ((Bx.new w _ _).alloc _).alloc _
  have c5 := p5.cell
  have p7 : Bx W3 (w.heap.size + 1) (.string (S wk)) 9 := by
    rw [← hW3]
    have := (Bx.new (w.alloc (.cells #[.pointer (some ⟨g, 0, none⟩)] 49)) (.string (S wk)) 9).alloc (.cells #[.int .i64 m] 2)
    rwa [World.size_alloc] at this
  have p8 : Bx W3 (w.heap.size + 2) (.int .i64 m) 2 := by
    rw [← hW3]
    have := Bx.new ((w.alloc (.cells #[.pointer (some ⟨g, 0, none⟩)] 49)).alloc (.cells #[.string (S wk)] 9)) (.int .i64 m) 2
    simpa using this
  have c7 := p7.cell
  have c8 := p8.cell
  clear p5 p7 p8
  have HB : Hid (Below w.heap.size w W3) := hb3
  clear hb3 hk hk2 hm hn
  go_enter Tryz.func14, Tryz.ntmps14
  go_wp2_with (go_at_call 24; (try rw [hW3]); refine (C1 _).mono ?_; rintro e w4 ⟨rfl, hw4⟩; rw [hw4]; clear hw4 w4 C1)
  go_wp2_with (go_at_call 24; (try rw [hW3]); refine (C2 _).mono ?_; rintro e w4 ⟨rfl, hw4⟩; rw [hw4]; clear hw4 w4 C2)
  go_wp2_with (go_at_call 25; (try rw [hW3]); refine (C3 _).mono ?_; rintro e w4 ⟨rfl, hw4⟩; rw [hw4]; clear hw4 w4 C3)
  go_wp2_with (go_at_call 25; (try rw [hW3]); refine (C4 _).mono ?_; rintro e w4 ⟨rfl, hw4⟩; rw [hw4]; clear hw4 w4 C4)
  refine bodyPost_ret (results_tmp2 rfl _ _ _) rfl ?_
  first
  | exact ⟨rfl, HB.out⟩
  | (rw [hW3]; exact ⟨rfl, HB.out⟩)
/-- what may be asked of Activate -/
def mayA (kind wk : List UInt8) (m n : Int) : Prop := namV kind = true ∧ namV wk = true ∧ (1 ≤ m ∧ m ≤ 32) ∧ (1 ≤ n ∧ n ≤ 1048576)
theorem act_no (g : Nat) {kind wk : List UInt8} {m n : Int} (w : World) (hl : kind.length ≤ 4611686018427387904) (hl2 : wk.length ≤ 4611686018427387904) (h : ¬ mayA kind wk m n) : Calls Tryz.prog 14 #[.pointer (some ⟨g, 0, none⟩), .string (S kind), .string (S wk), .int .i64 m, .int .i64 n] w fun e w' => e = .returned (.tuple #[.slice none 0 0, .int .i64 1]) ∧ Below w.heap.size w w' := by
  cases hk : namV kind with
  | false => exact act_bad g (S wk) m n w hk hl
  | true => cases hk2 : namV wk with
    | false => exact act_bad2 g w hk hk2 hl2
    | true =>
      by_cases hm : 1 ≤ m ∧ m ≤ 32
      · by_cases hn : 1 ≤ n ∧ n ≤ 1048576
        · exact absurd ⟨hk, hk2, hm, hn⟩ h
        · exact act_bad4 g w hk hk2 hm hn
      · exact act_bad3 g w hk hk2 hm
end Go.Proofs.YthmfcloecmnfnaaGreat.f13

/-
  Package book's Fail.
-/
import Derived.Test.YtbegpbaklagcpaaGreatB16Lat
import Derived.Test.YtbegpbaklagcpaaGreatB16Rng
namespace Go.Proofs.YtbegpbaklagcpaaGreat.f13
open Go.RowKit Go.Shelf Go.Sort
open Go.Lib hiding intOf

open Go.Proofs.YtbegpbaklagcpaaGreat
set_option maxHeartbeats 2000000 in
set_option maxRecDepth 100000 in
theorem fail_bad (g key : Nat) {n : Int} (w : World) (hn : ¬ (0 ≤ n ∧ n ≤ 9)) : Calls Tryz.prog 16 #[.pointer (some ⟨g, 0, none⟩), .int .u64 (key : Int), .int .i64 n] w fun e w' => e = .returned (.int .i64 1) ∧ Go.RowKit.Below w.heap.size w w' := by
  have CW : ∀ W, Calls Tryz.prog 33 #[.int .i64 n, .int .i64 0, .int .i64 9] W fun e w' => e = .returned (.bool false) ∧ w' = W := fun W => by
    have := within_any n 0 9 W
    rwa [show decide (0 ≤ n ∧ n ≤ 9) = false by simp [hn]] at this
  clear hn
  go_enter Tryz.func16, Tryz.ntmps16
  go_wp2_with (go_at_call 33; refine (CW _).mono ?_; rintro e w0 ⟨rfl, hw0⟩; rw [hw0]; clear hw0 w0 CW)
  go_ret
  exact ⟨rfl, Below.refl _ _⟩
set_option maxHeartbeats 2000000 in
set_option maxRecDepth 100000 in
theorem fail_no {B : Nat} {w : World} {g : Nat} {k : Wo} (key : Nat) {j0 j1 : Nat} {j2 j4 : List UInt8} {j3 j5 : Int} {er n : Int} (h : Wk B w g k) (hz : Sz k.s) (hn : 0 ≤ n ∧ n ≤ 9) (hT : tkn k.s.jobs key = (⟨j0, j1, j2, j3, j4, j5⟩, er)) (he : ¬ er = 0) :
    Calls Tryz.prog 16 #[.pointer (some ⟨g, 0, none⟩), .int .u64 (key : Int), .int .i64 n] w fun e w' => e = .returned (.int .i64 er) ∧ Go.RowKit.Below w.heap.size w w' := by
  have CW : ∀ W, Calls Tryz.prog 33 #[.int .i64 n, .int .i64 0, .int .i64 9] W fun e w' => e = .returned (.bool true) ∧ w' = W := fun W => by
    have := within_any n 0 9 W
    rwa [show decide (0 ≤ n ∧ n ≤ 9) = true by simp [hn]] at this
  have CT := taken_any key h hz
  rw [hT] at CT
  simp only [Jb.c] at CT
  have he2 : (er == 0) = false := by simp [he]
  have he3 : (er != 0) = true := by simp [he]
  clear h hz hT hn
  go_enter Tryz.func16, Tryz.ntmps16
  go_wp2_with (first
    | (go_at_call 33; refine (CW _).mono ?_; rintro e w0 ⟨rfl, hw0⟩; rw [hw0]; clear hw0 w0 CW)
    | (go_at_call 38; refine CT.mono ?_; rintro e w1 ⟨rfl, hb1⟩; (have B1 : Hid (Below w.heap.size w w1) := hb1); clear hb1 CT))
  go_ret
  exact ⟨rfl, B1.out.alloc B1.out.size _⟩
set_option maxHeartbeats 2000000 in
set_option maxRecDepth 100000 in
theorem fail_some {B : Nat} {w : World} {g : Nat} {k : Wo} (key : Nat) {j0 j1 : Nat} {j2 j4 : List UInt8} {j3 j5 : Int} {n : Int} (h : Wk B w g k) (hB : B ≤ w.heap.size) (hz : Sz k.s) (hel : ((k.el.length + 1) + (k.el.length + 1) / 4 + 192) * 144 ≤ 281474976710656) (hn : 0 ≤ n ∧ n ≤ 9) (hn0 : ¬ n = 0) (hT : tkn k.s.jobs key = (⟨j0, j1, j2, j3, j4, j5⟩, 0)) :
    Calls Tryz.prog 16 #[.pointer (some ⟨g, 0, none⟩), .int .u64 (key : Int), .int .i64 n] w fun e w' => e = .returned (.int .i64 0) ∧ Emd B w g k (eBack (nx k.s.e k.ps) ⟨0, 8, 0, 0, j0, 0, 0, n, 0, [], [], [], .slice none 0 0, []⟩) ⟨0, 8, 0, 0, j0, 0, 0, n, 0, [], [], [], .slice none 0 0, []⟩ w' := by
  have CW : ∀ W, Calls Tryz.prog 33 #[.int .i64 n, .int .i64 0, .int .i64 9] W fun e w' => e = .returned (.bool true) ∧ w' = W := fun W => by
    have := within_any n 0 9 W
    rwa [show decide (0 ≤ n ∧ n ≤ 9) = true by simp [hn]] at this
  have CT := taken_any key h hz
  rw [hT] at CT
  simp only [Jb.c] at CT
  have CB : Hid (∀ W, Below w.heap.size w W → Calls Tryz.prog 39 #[.pointer (some ⟨g, 0, none⟩), .agg (Jb.c ⟨j0, j1, j2, j3, j4, j5⟩).toArray, .int .i64 n] W fun e w' => e = .returned (.tuple #[]) ∧ Emd B w g k (eBack (nx k.s.e k.ps) ⟨0, 8, 0, 0, j0, 0, 0, n, 0, [], [], [], .slice none 0 0, []⟩) ⟨0, 8, 0, 0, j0, 0, 0, n, 0, [], [], [], .slice none 0 0, []⟩ w') := fun W hW => (back_any ⟨j0, j1, j2, j3, j4, j5⟩ n (h.up hW) (Nat.le_trans hB hW.size) hz hel).mono (fun e w' hh => ⟨hh.1, Emd.of h hW hh.2⟩)
  generalize hE : Emd B w g k (eBack (nx k.s.e k.ps) ⟨0, 8, 0, 0, j0, 0, 0, n, 0, [], [], [], .slice none 0 0, []⟩) ⟨0, 8, 0, 0, j0, 0, 0, n, 0, [], [], [], .slice none 0 0, []⟩ = P at *
  simp only [Jb.c] at CB
  have hn1 : (n == 0) = false := by simp [hn0]
  clear h hz hT hel hE hB hn
  go_enter Tryz.func16, Tryz.ntmps16
  go_wp2_with (first
    | (go_at_call 33; refine (CW _).mono ?_; rintro e w0 ⟨rfl, hw0⟩; rw [hw0]; clear hw0 w0 CW)
    | (go_at_call 38; refine CT.mono ?_; rintro e w1 ⟨rfl, hb1⟩; (have B1 : Hid (Below w.heap.size w w1) := hb1); clear hb1 CT)
    | (go_at_call 39; refine (CB.out _ (B1.out.alloc B1.out.size _)).mono ?_; rintro e w3 ⟨rfl, hP⟩; (have HP : Hid (P w3) := hP); clear hP CB))
  go_ret
  exact ⟨rfl, HP.out⟩
theorem hel_mono' {x y : Nat} (h : (y + y / 4 + 192) * 144 ≤ 281474976710656) (hxy : x ≤ y) : (x + x / 4 + 192) * 144 ≤ 281474976710656 := Nat.le_trans (Nat.mul_le_mul_right _ (Nat.add_le_add_right (Nat.add_le_add hxy (Nat.div_le_div_right hxy)) _)) h
theorem hel1 {a : Nat} (h : ((a + 33) + (a + 33) / 4 + 192) * 144 ≤ 281474976710656) : ((a + 1) + (a + 1) / 4 + 192) * 144 ≤ 281474976710656 := hel_mono' h (by clear h; omega)
theorem hel2 {a b : Nat} (h : ((a + 33) + (a + 33) / 4 + 192) * 144 ≤ 281474976710656) (hb : b = a + 1) : ((b + 1) + (b + 1) / 4 + 192) * 144 ≤ 281474976710656 := hel_mono' h (by clear h; omega)
theorem S_nil' : S [] = ⟨#[]⟩ := rfl
/-- what Fail leaves where no retries are left: two events -/
def Emz (B : Nat) (w : World) (g : Nat) (k : Wo) (T : St) (x y : Rc) (w' : World) : Prop := ∃ k' : Wo, Wkr B w g k k' w' ∧ k'.s.e = T ∧ Sz k'.s ∧ k'.el.map Rc.e = k.el.map Rc.e ++ [stamp k x, stamp k y]
set_option maxHeartbeats 4000000 in
set_option maxRecDepth 100000 in
theorem fail_last {B : Nat} {w : World} {g : Nat} {k : Wo} (key : Nat) {j0 j1 : Nat} {j2 j4 : List UInt8} {j3 j5 : Int} (h : Wk B w g k) (hB : B ≤ w.heap.size) (hz : Sz k.s) (hel : ((k.el.length + 33) + (k.el.length + 33) / 4 + 192) * 144 ≤ 281474976710656) (hT : tkn k.s.jobs key = (⟨j0, j1, j2, j3, j4, j5⟩, 0)) :
    Calls Tryz.prog 16 #[.pointer (some ⟨g, 0, none⟩), .int .u64 (key : Int), .int .i64 0] w fun e w' => e = .returned (.int .i64 0) ∧ Emz B w g k (eStuck (nx (eBack (nx k.s.e k.ps) ⟨0, 8, 0, 0, j0, 0, 0, 0, 0, [], [], [], .slice none 0 0, []⟩) k.ps) ⟨0, 13, 0, 0, j1, 0, 0, 0, 0, [106, 111, 98], [], [], .slice none 0 0, []⟩) ⟨0, 8, 0, 0, j0, 0, 0, 0, 0, [], [], [], .slice none 0 0, []⟩ ⟨0, 13, 0, 0, j1, 0, 0, 0, 0, [106, 111, 98], [], [], .slice none 0 0, []⟩ w' := by
  have hn : (0 : Int) ≤ 0 ∧ (0 : Int) ≤ 9 := by decide
  have CW : ∀ W, Calls Tryz.prog 33 #[.int .i64 0, .int .i64 0, .int .i64 9] W fun e w' => e = .returned (.bool true) ∧ w' = W := fun W => by
    have := within_any 0 0 9 W
    rwa [show decide ((0 : Int) ≤ 0 ∧ (0 : Int) ≤ 9) = true by decide] at this
  have CT := taken_any key h hz
  rw [hT] at CT
  simp only [Jb.c] at CT
  have CB : Hid (∀ W, Below w.heap.size w W → Calls Tryz.prog 39 #[.pointer (some ⟨g, 0, none⟩), .agg (Jb.c ⟨j0, j1, j2, j3, j4, j5⟩).toArray, .int .i64 0] W fun e w' => e = .returned (.tuple #[]) ∧ Emd B W g k (eBack (nx k.s.e k.ps) ⟨0, 8, 0, 0, j0, 0, 0, 0, 0, [], [], [], .slice none 0 0, []⟩) ⟨0, 8, 0, 0, j0, 0, 0, 0, 0, [], [], [], .slice none 0 0, []⟩ w') := fun W hW => back_any ⟨j0, j1, j2, j3, j4, j5⟩ 0 (h.up hW) (Nat.le_trans hB hW.size) hz (hel1 hel)
  have HH : Hid (Wk B w g k ∧ B ≤ w.heap.size ∧ ((k.el.length + 33) + (k.el.length + 33) / 4 + 192) * 144 ≤ 281474976710656) := ⟨h, hB, hel⟩
  simp only [Jb.c] at CB
  clear h hz hT hel hB hn
  go_enter Tryz.func16, Tryz.ntmps16
  go_wp2_with (first
    | (go_at_call 33; refine (CW _).mono ?_; rintro e w0 ⟨rfl, hw0⟩; rw [hw0]; clear hw0 w0 CW)
    | (go_at_call 38; refine CT.mono ?_; rintro e w1 ⟨rfl, hb1⟩; (have B1 : Hid (Below w.heap.size w w1) := hb1); clear hb1 CT)
    | (go_at_call 39; (have hbj : Below w.heap.size w (w1.alloc (.cells #[.int .u64 (j0 : Int), .int .u64 (j1 : Int), .string (S j2), .int .i64 j3, .string (S j4), .int .i64 j5] 70)) := B1.out.alloc B1.out.size _); refine (CB.out _ hbj).mono ?_; rintro e w3 ⟨rfl, hP⟩; obtain ⟨k1, hW, hT1, hS1, hE1, hl1⟩ := hP.len; (have hoj : w3.heap[w1.heap.size]? = some (.cells #[.int .u64 (j0 : Int), .int .u64 (j1 : Int), .string (S j2), .int .i64 j3, .string (S j4), .int .i64 j5] 70 (0, 0)) := hW.ch.obj (heap_alloc_new w1 _) (fun e => (by (have h1 := (HH.out.1.lt).2; have h2 := B1.out.size; rcases e with e | e; omega; have h3 := (HH.out.1.has_lt (Wo.has_ev e)).2; omega)))); (have z1 : w3.cell? ⟨w1.heap.size, 1, none⟩ = some (.int .u64 (j1 : Int)) := by simp [World.cell?, hoj]); (have hW0 : Wkr B w g k k1 w3 := Wkr.trans HH.out.1.lt.2 (Wkr.refl HH.out.1 hbj) hW); (have CE := Emt_13 (r := ⟨0, 13, 0, 0, j1, 0, 0, 0, 0, [106, 111, 98], [], [], .slice none 0 0, []⟩) hW.wk (Nat.le_trans HH.out.2.1 (Nat.le_trans hbj.size hW.ch.size)) hS1 (Rr.nil _) (Nat.zero_le _) (hel2 HH.out.2.2 hl1) rfl); simp only [Rc.cs, S_nil'] at CE; (have H1 : Hid (Wkr B w g k k1 w3 ∧ k1.s.e = eBack (nx k.s.e k.ps) ⟨0, 8, 0, 0, j0, 0, 0, 0, 0, [], [], [], .slice none 0 0, []⟩ ∧ k1.el.map Rc.e = k.el.map Rc.e ++ [stamp k ⟨0, 8, 0, 0, j0, 0, 0, 0, 0, [], [], [], .slice none 0 0, []⟩] ∧ k1.ps = k.ps ∧ k1.nw = k.nw) := ⟨hW0, hT1, hE1, hW.ps, hW.nw⟩); clear hP hW hT1 hS1 hE1 hl1 hoj hW0 hbj CB)
    | (go_at_call 35; refine CE.mono ?_; rintro e w5 ⟨rfl, hP⟩; (have H5 : Hid (Emd B w3 g k1 _ _ w5) := hP); clear hP CE))
  go_ret
  obtain ⟨k2, hW2, hT2, hS2, hE2⟩ := H5.out
  obtain ⟨a1, a2, a3, a4, a5⟩ := H1.out
  refine ⟨rfl, k2, Wkr.trans HH.out.1.lt.2 a1 hW2, ?_, hS2, ?_⟩
  · rw [hT2, ← a2, ← a4]; rfl
  · rw [hE2, a3, List.append_assoc]
    simp [stamp, a4, a5]
end Go.Proofs.YtbegpbaklagcpaaGreat.f13

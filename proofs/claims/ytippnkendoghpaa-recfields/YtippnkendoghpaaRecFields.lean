/-
  A record of which one field is another one has other bytes, or is none. For every record, field and number; the input reads as it did.
-/
import Derived.Test.YtippnkendoghpaaR12Fl1
import Derived.Test.YtippnkendoghpaaR12Fl2
import Derived.Test.YtippnkendoghpaaR12Fl3
import Derived.Test.YtippnkendoghpaaR12Arg
namespace Go.Proofs.Ytippnkendoghpaa.recFields
open Go.Proofs.Ytippnkendoghpaa.r12
open Go.ChangeShapes Go.WideShapes Go.ChangeAt Go.WideMaps Go.WideElems Go.RowKit Go.Shelf Go.Sort
open Go.Lib hiding intOf
open Go.ChangeMaps (open_string shut_string)

set_option maxHeartbeats 4000000 in
set_option maxRecDepth 100000 in
theorem walkN {r : R12} {w : World} {vv : Value} (f bz : Int) (hm : ¬ May r) (hv : Vs w vv r.v) (hk : Rk r) : Calls Try.prog 7 #[rV r vv, .int .i64 f, .int .i64 bz] w fun e w' => e = .returned (.bool true) ∧ Below w.heap.size w w' := by
  have hB : ∀ W, Below w.heap.size w W → Calls Try.prog 9 #[rV r vv] W fun e w' => e = .returned (.tuple #[.string ⟨#[]⟩, .int .i64 1]) ∧ Below W.heap.size W w' := fun W hW => Bytes_no (hv.up hW) hk hm
  clear hk hm
  obtain ⟨va, vc, rfl, -⟩ := hv
  obtain ⟨cl, kd, fr, tm, k1, k2, k3, n, m, a, b, c, l⟩ := r
  unfold rV rC at hB ⊢
  simp only at hB ⊢
  generalize l.length = vl at *
  have HS : Hid (∀ W, Below (w.alloc (.cells #[.int .i64 cl, .int .i64 kd, .int .u64 (fr : Int), .int .i64 tm, .int .u64 (k1 : Int), .int .u64 (k2 : Int), .int .u64 (k3 : Int), .int .i64 n, .int .i64 m, .string (S a), .string (S b), .string (S c), .slice va vl vc] 25)).heap.size (w.alloc (.cells #[.int .i64 cl, .int .i64 kd, .int .u64 (fr : Int), .int .i64 tm, .int .u64 (k1 : Int), .int .u64 (k2 : Int), .int .u64 (k3 : Int), .int .i64 n, .int .i64 m, .string (S a), .string (S b), .string (S c), .slice va vl vc] 25)) W → W.cell? ⟨w.heap.size, 0, none⟩ = some (.int .i64 cl) ∧ W.cell? ⟨w.heap.size, 1, none⟩ = some (.int .i64 kd) ∧ W.cell? ⟨w.heap.size, 2, none⟩ = some (.int .u64 (fr : Int)) ∧ W.cell? ⟨w.heap.size, 3, none⟩ = some (.int .i64 tm) ∧ W.cell? ⟨w.heap.size, 4, none⟩ = some (.int .u64 (k1 : Int)) ∧ W.cell? ⟨w.heap.size, 5, none⟩ = some (.int .u64 (k2 : Int)) ∧ W.cell? ⟨w.heap.size, 6, none⟩ = some (.int .u64 (k3 : Int)) ∧ W.cell? ⟨w.heap.size, 7, none⟩ = some (.int .i64 n) ∧ W.cell? ⟨w.heap.size, 8, none⟩ = some (.int .i64 m) ∧ W.cell? ⟨w.heap.size, 9, none⟩ = some (.string (S a)) ∧ W.cell? ⟨w.heap.size, 10, none⟩ = some (.string (S b)) ∧ W.cell? ⟨w.heap.size, 11, none⟩ = some (.string (S c)) ∧ W.cell? ⟨w.heap.size, 12, none⟩ = some (.slice va vl vc)) := fun W hW => ⟨(hW.cell (p := ⟨w.heap.size, 0, none⟩) (by simp)).trans (World.cell?_alloc_new _ _ _ _), (hW.cell (p := ⟨w.heap.size, 1, none⟩) (by simp)).trans (World.cell?_alloc_new _ _ _ _), (hW.cell (p := ⟨w.heap.size, 2, none⟩) (by simp)).trans (World.cell?_alloc_new _ _ _ _), (hW.cell (p := ⟨w.heap.size, 3, none⟩) (by simp)).trans (World.cell?_alloc_new _ _ _ _), (hW.cell (p := ⟨w.heap.size, 4, none⟩) (by simp)).trans (World.cell?_alloc_new _ _ _ _), (hW.cell (p := ⟨w.heap.size, 5, none⟩) (by simp)).trans (World.cell?_alloc_new _ _ _ _), (hW.cell (p := ⟨w.heap.size, 6, none⟩) (by simp)).trans (World.cell?_alloc_new _ _ _ _), (hW.cell (p := ⟨w.heap.size, 7, none⟩) (by simp)).trans (World.cell?_alloc_new _ _ _ _), (hW.cell (p := ⟨w.heap.size, 8, none⟩) (by simp)).trans (World.cell?_alloc_new _ _ _ _), (hW.cell (p := ⟨w.heap.size, 9, none⟩) (by simp)).trans (World.cell?_alloc_new _ _ _ _), (hW.cell (p := ⟨w.heap.size, 10, none⟩) (by simp)).trans (World.cell?_alloc_new _ _ _ _), (hW.cell (p := ⟨w.heap.size, 11, none⟩) (by simp)).trans (World.cell?_alloc_new _ _ _ _), (hW.cell (p := ⟨w.heap.size, 12, none⟩) (by simp)).trans (World.cell?_alloc_new _ _ _ _)⟩
  have B0 : Hid (Below w.heap.size w (w.alloc (.cells #[.int .i64 cl, .int .i64 kd, .int .u64 (fr : Int), .int .i64 tm, .int .u64 (k1 : Int), .int .u64 (k2 : Int), .int .u64 (k3 : Int), .int .i64 n, .int .i64 m, .string (S a), .string (S b), .string (S c), .slice va vl vc] 25))) := (Below.refl _ w).alloc (Nat.le_refl _) _
  have HB1 : Hid (∀ W, Below (w.alloc (.cells #[.int .i64 cl, .int .i64 kd, .int .u64 (fr : Int), .int .i64 tm, .int .u64 (k1 : Int), .int .u64 (k2 : Int), .int .u64 (k3 : Int), .int .i64 n, .int .i64 m, .string (S a), .string (S b), .string (S c), .slice va vl vc] 25)).heap.size (w.alloc (.cells #[.int .i64 cl, .int .i64 kd, .int .u64 (fr : Int), .int .i64 tm, .int .u64 (k1 : Int), .int .u64 (k2 : Int), .int .u64 (k3 : Int), .int .i64 n, .int .i64 m, .string (S a), .string (S b), .string (S c), .slice va vl vc] 25)) W → Calls Try.prog 9 #[.agg #[.int .i64 cl, .int .i64 kd, .int .u64 (fr : Int), .int .i64 tm, .int .u64 (k1 : Int), .int .u64 (k2 : Int), .int .u64 (k3 : Int), .int .i64 n, .int .i64 m, .string (S a), .string (S b), .string (S c), .slice va vl vc]] W fun e w' => e = .returned (.tuple #[.string ⟨#[]⟩, .int .i64 1]) ∧ Below W.heap.size W w') := fun W hW => hB W (bel_of B0.out hW (Nat.le_refl _))
  clear hB
  go_enter Try.func7, Try.ntmps7
  go_wp2_with (first
    | (go_at_call 8; refine (shown_any _).mono ?_; rintro e w1 ⟨rfl, b1⟩; (have X1 : Hid (Below (w.alloc (.cells #[.int .i64 cl, .int .i64 kd, .int .u64 (fr : Int), .int .i64 tm, .int .u64 (k1 : Int), .int .u64 (k2 : Int), .int .u64 (k3 : Int), .int .i64 n, .int .i64 m, .string (S a), .string (S b), .string (S c), .slice va vl vc] 25)).heap.size (w.alloc (.cells #[.int .i64 cl, .int .i64 kd, .int .u64 (fr : Int), .int .i64 tm, .int .u64 (k1 : Int), .int .u64 (k2 : Int), .int .u64 (k3 : Int), .int .i64 n, .int .i64 m, .string (S a), .string (S b), .string (S c), .slice va vl vc] 25)) w1) := b1); obtain ⟨c0, c1, c2, c3, c4, c5, c6, c7, c8, c9, c10, c11, c12⟩ := HS.out w1 b1; (have C1 := HB1.out w1 b1); clear b1 HB1)
    | (go_at_call 9; refine C1.mono ?_; rintro e w2 ⟨rfl, b2⟩; (have X2 : Hid (Below (w.alloc (.cells #[.int .i64 cl, .int .i64 kd, .int .u64 (fr : Int), .int .i64 tm, .int .u64 (k1 : Int), .int .u64 (k2 : Int), .int .u64 (k3 : Int), .int .i64 n, .int .i64 m, .string (S a), .string (S b), .string (S c), .slice va vl vc] 25)).heap.size (w.alloc (.cells #[.int .i64 cl, .int .i64 kd, .int .u64 (fr : Int), .int .i64 tm, .int .u64 (k1 : Int), .int .u64 (k2 : Int), .int .u64 (k3 : Int), .int .i64 n, .int .i64 m, .string (S a), .string (S b), .string (S c), .slice va vl vc] 25)) w2) := bel_of X1.out b2 (Nat.le_refl _)); clear b2 C1 X1))
  go_ret
  exact ⟨rfl, bel_of B0.out X2.out (Nat.le_refl _)⟩

set_option maxHeartbeats 4000000 in
set_option maxRecDepth 100000 in
theorem walkZ {r : R12} {w : World} {vv : Value} (f bz : Int) (hm : May r) (hz : (bz.tmod 100 == 0) = true) (hv : Vs w vv r.v) (hk : Rk r) : Calls Try.prog 7 #[rV r vv, .int .i64 f, .int .i64 bz] w fun e w' => e = .returned (.bool true) ∧ Below w.heap.size w w' := by
  have hB : ∀ W, Below w.heap.size w W → Calls Try.prog 9 #[rV r vv] W fun e w' => e = .returned (.tuple #[.string (S (bytR r)), .int .i64 0]) ∧ Below W.heap.size W w' := fun W hW => Bytes_yes (hv.up hW) hk hm
  clear hk hm
  generalize bytR r = bb at *
  obtain ⟨va, vc, rfl, -⟩ := hv
  obtain ⟨cl, kd, fr, tm, k1, k2, k3, n, m, a, b, c, l⟩ := r
  unfold rV rC at hB ⊢
  simp only at hB ⊢
  generalize l.length = vl at *
  have HS : Hid (∀ W, Below (w.alloc (.cells #[.int .i64 cl, .int .i64 kd, .int .u64 (fr : Int), .int .i64 tm, .int .u64 (k1 : Int), .int .u64 (k2 : Int), .int .u64 (k3 : Int), .int .i64 n, .int .i64 m, .string (S a), .string (S b), .string (S c), .slice va vl vc] 25)).heap.size (w.alloc (.cells #[.int .i64 cl, .int .i64 kd, .int .u64 (fr : Int), .int .i64 tm, .int .u64 (k1 : Int), .int .u64 (k2 : Int), .int .u64 (k3 : Int), .int .i64 n, .int .i64 m, .string (S a), .string (S b), .string (S c), .slice va vl vc] 25)) W → W.cell? ⟨w.heap.size, 0, none⟩ = some (.int .i64 cl) ∧ W.cell? ⟨w.heap.size, 1, none⟩ = some (.int .i64 kd) ∧ W.cell? ⟨w.heap.size, 2, none⟩ = some (.int .u64 (fr : Int)) ∧ W.cell? ⟨w.heap.size, 3, none⟩ = some (.int .i64 tm) ∧ W.cell? ⟨w.heap.size, 4, none⟩ = some (.int .u64 (k1 : Int)) ∧ W.cell? ⟨w.heap.size, 5, none⟩ = some (.int .u64 (k2 : Int)) ∧ W.cell? ⟨w.heap.size, 6, none⟩ = some (.int .u64 (k3 : Int)) ∧ W.cell? ⟨w.heap.size, 7, none⟩ = some (.int .i64 n) ∧ W.cell? ⟨w.heap.size, 8, none⟩ = some (.int .i64 m) ∧ W.cell? ⟨w.heap.size, 9, none⟩ = some (.string (S a)) ∧ W.cell? ⟨w.heap.size, 10, none⟩ = some (.string (S b)) ∧ W.cell? ⟨w.heap.size, 11, none⟩ = some (.string (S c)) ∧ W.cell? ⟨w.heap.size, 12, none⟩ = some (.slice va vl vc)) := fun W hW => ⟨(hW.cell (p := ⟨w.heap.size, 0, none⟩) (by simp)).trans (World.cell?_alloc_new _ _ _ _), (hW.cell (p := ⟨w.heap.size, 1, none⟩) (by simp)).trans (World.cell?_alloc_new _ _ _ _), (hW.cell (p := ⟨w.heap.size, 2, none⟩) (by simp)).trans (World.cell?_alloc_new _ _ _ _), (hW.cell (p := ⟨w.heap.size, 3, none⟩) (by simp)).trans (World.cell?_alloc_new _ _ _ _), (hW.cell (p := ⟨w.heap.size, 4, none⟩) (by simp)).trans (World.cell?_alloc_new _ _ _ _), (hW.cell (p := ⟨w.heap.size, 5, none⟩) (by simp)).trans (World.cell?_alloc_new _ _ _ _), (hW.cell (p := ⟨w.heap.size, 6, none⟩) (by simp)).trans (World.cell?_alloc_new _ _ _ _), (hW.cell (p := ⟨w.heap.size, 7, none⟩) (by simp)).trans (World.cell?_alloc_new _ _ _ _), (hW.cell (p := ⟨w.heap.size, 8, none⟩) (by simp)).trans (World.cell?_alloc_new _ _ _ _), (hW.cell (p := ⟨w.heap.size, 9, none⟩) (by simp)).trans (World.cell?_alloc_new _ _ _ _), (hW.cell (p := ⟨w.heap.size, 10, none⟩) (by simp)).trans (World.cell?_alloc_new _ _ _ _), (hW.cell (p := ⟨w.heap.size, 11, none⟩) (by simp)).trans (World.cell?_alloc_new _ _ _ _), (hW.cell (p := ⟨w.heap.size, 12, none⟩) (by simp)).trans (World.cell?_alloc_new _ _ _ _)⟩
  have B0 : Hid (Below w.heap.size w (w.alloc (.cells #[.int .i64 cl, .int .i64 kd, .int .u64 (fr : Int), .int .i64 tm, .int .u64 (k1 : Int), .int .u64 (k2 : Int), .int .u64 (k3 : Int), .int .i64 n, .int .i64 m, .string (S a), .string (S b), .string (S c), .slice va vl vc] 25))) := (Below.refl _ w).alloc (Nat.le_refl _) _
  have HB1 : Hid (∀ W, Below (w.alloc (.cells #[.int .i64 cl, .int .i64 kd, .int .u64 (fr : Int), .int .i64 tm, .int .u64 (k1 : Int), .int .u64 (k2 : Int), .int .u64 (k3 : Int), .int .i64 n, .int .i64 m, .string (S a), .string (S b), .string (S c), .slice va vl vc] 25)).heap.size (w.alloc (.cells #[.int .i64 cl, .int .i64 kd, .int .u64 (fr : Int), .int .i64 tm, .int .u64 (k1 : Int), .int .u64 (k2 : Int), .int .u64 (k3 : Int), .int .i64 n, .int .i64 m, .string (S a), .string (S b), .string (S c), .slice va vl vc] 25)) W → Calls Try.prog 9 #[.agg #[.int .i64 cl, .int .i64 kd, .int .u64 (fr : Int), .int .i64 tm, .int .u64 (k1 : Int), .int .u64 (k2 : Int), .int .u64 (k3 : Int), .int .i64 n, .int .i64 m, .string (S a), .string (S b), .string (S c), .slice va vl vc]] W fun e w' => e = .returned (.tuple #[.string (S (bb)), .int .i64 0]) ∧ Below W.heap.size W w') := fun W hW => hB W (bel_of B0.out hW (Nat.le_refl _))
  clear hB
  go_enter Try.func7, Try.ntmps7
  go_wp2_with (first
    | (go_at_call 8; refine (shown_any _).mono ?_; rintro e w1 ⟨rfl, b1⟩; (have X1 : Hid (Below (w.alloc (.cells #[.int .i64 cl, .int .i64 kd, .int .u64 (fr : Int), .int .i64 tm, .int .u64 (k1 : Int), .int .u64 (k2 : Int), .int .u64 (k3 : Int), .int .i64 n, .int .i64 m, .string (S a), .string (S b), .string (S c), .slice va vl vc] 25)).heap.size (w.alloc (.cells #[.int .i64 cl, .int .i64 kd, .int .u64 (fr : Int), .int .i64 tm, .int .u64 (k1 : Int), .int .u64 (k2 : Int), .int .u64 (k3 : Int), .int .i64 n, .int .i64 m, .string (S a), .string (S b), .string (S c), .slice va vl vc] 25)) w1) := b1); obtain ⟨c0, c1, c2, c3, c4, c5, c6, c7, c8, c9, c10, c11, c12⟩ := HS.out w1 b1; (have C1 := HB1.out w1 b1); clear b1 HB1)
    | (go_at_call 9; refine C1.mono ?_; rintro e w2 ⟨rfl, b2⟩; (have X2 : Hid (Below (w.alloc (.cells #[.int .i64 cl, .int .i64 kd, .int .u64 (fr : Int), .int .i64 tm, .int .u64 (k1 : Int), .int .u64 (k2 : Int), .int .u64 (k3 : Int), .int .i64 n, .int .i64 m, .string (S a), .string (S b), .string (S c), .slice va vl vc] 25)).heap.size (w.alloc (.cells #[.int .i64 cl, .int .i64 kd, .int .u64 (fr : Int), .int .i64 tm, .int .u64 (k1 : Int), .int .u64 (k2 : Int), .int .u64 (k3 : Int), .int .i64 n, .int .i64 m, .string (S a), .string (S b), .string (S c), .slice va vl vc] 25)) w2) := bel_of X1.out b2 (Nat.le_refl _)); clear b2 C1 X1))
  go_ret
  exact ⟨rfl, bel_of B0.out X2.out (Nat.le_refl _)⟩
theorem other {r q : R12} (hm : May r) (hk : Rk r) (hq : May q) (kq : Rk q) (hne : q ≠ r) : ((S (bytR q)).toList == (S (bytR r)).toList) = false := by
  rw [S_toList, S_toList]
  exact beq_eq_false_iff_ne.2 fun e => hne (pre hm hk hq kq (more := []) (by rw [List.append_nil]; exact e)).1
theorem walkC {r : R12} {w : World} {vv : Value} (f bz : Int) (hby : (bz.tmod 100 == 0) = false) (hm : May r) (hv : Vs w vv r.v) (hk : Rk r) : Calls Try.prog 7 #[rV r vv, .int .i64 f, .int .i64 bz] w fun e w' => e = .returned (.bool true) ∧ Below w.heap.size w w' := by
  have hB : ∀ W, Below w.heap.size w W → Calls Try.prog 9 #[rV r vv] W fun e w' => e = .returned (.tuple #[.string (S (bytR r)), .int .i64 0]) ∧ Below W.heap.size W w' := fun W hW => Bytes_yes (hv.up hW) hk hm
  have hd := tmod_ne hby
  have hla := hm.la
  by_cases g0 : f = 0
  · subst g0
    obtain ⟨x, hx, hx1, hx2⟩ := u64_ne r.k1 hd
    have kq : Rk {r with k1 := x} := ⟨hk.cl, hk.kd, hk.fr, hk.tm, hx1, hk.k2, hk.k3, hk.n, hk.m, hk.a, hk.b, hk.c, hk.vl, hk.vs⟩
    by_cases hq : May {r with k1 := x}
    · exact way0y hby hx hv _ _ (other hm hk hq kq (fun e => hx2 (congrArg R12.k1 e))) hB (fun W hW => Bytes_yes (r := {r with k1 := x}) (hv.up hW) kq hq)
    · exact way0n hby hx hv _ hB (fun W hW => Bytes_no (r := {r with k1 := x}) (hv.up hW) kq hq)
  by_cases g1 : f = 1
  · subst g1
    obtain ⟨x, hx, hx1, hx2⟩ := u64_ne r.k2 hd
    have kq : Rk {r with k2 := x} := ⟨hk.cl, hk.kd, hk.fr, hk.tm, hk.k1, hx1, hk.k3, hk.n, hk.m, hk.a, hk.b, hk.c, hk.vl, hk.vs⟩
    by_cases hq : May {r with k2 := x}
    · exact way1y hby hx hv _ _ (other hm hk hq kq (fun e => hx2 (congrArg R12.k2 e))) hB (fun W hW => Bytes_yes (r := {r with k2 := x}) (hv.up hW) kq hq)
    · exact way1n hby hx hv _ hB (fun W hW => Bytes_no (r := {r with k2 := x}) (hv.up hW) kq hq)
  by_cases g2 : f = 2
  · subst g2
    obtain ⟨x, hx, hx1, hx2⟩ := u64_ne r.k3 hd
    have kq : Rk {r with k3 := x} := ⟨hk.cl, hk.kd, hk.fr, hk.tm, hk.k1, hk.k2, hx1, hk.n, hk.m, hk.a, hk.b, hk.c, hk.vl, hk.vs⟩
    by_cases hq : May {r with k3 := x}
    · exact way2y hby hx hv _ _ (other hm hk hq kq (fun e => hx2 (congrArg R12.k3 e))) hB (fun W hW => Bytes_yes (r := {r with k3 := x}) (hv.up hW) kq hq)
    · exact way2n hby hx hv _ hB (fun W hW => Bytes_no (r := {r with k3 := x}) (hv.up hW) kq hq)
  by_cases g3 : f = 3
  · subst g3
    obtain ⟨x, hx⟩ : ∃ x, bits .xor .i64 r.n (bz.tmod 100) = x := ⟨_, rfl⟩
    have hx1 : -9223372036854775808 ≤ x ∧ x ≤ 9223372036854775807 := hx ▸ xor_in _ _
    have hx2 : x ≠ r.n := hx ▸ xor_ne r.n hd
    have kq : Rk {r with n := x} := ⟨hk.cl, hk.kd, hk.fr, hk.tm, hk.k1, hk.k2, hk.k3, hx1, hk.m, hk.a, hk.b, hk.c, hk.vl, hk.vs⟩
    by_cases hq : May {r with n := x}
    · exact way3y hby hx hv _ _ (other hm hk hq kq (fun e => hx2 (congrArg R12.n e))) hB (fun W hW => Bytes_yes (r := {r with n := x}) (hv.up hW) kq hq)
    · exact way3n hby hx hv _ hB (fun W hW => Bytes_no (r := {r with n := x}) (hv.up hW) kq hq)
  by_cases g4 : f = 4
  · subst g4
    obtain ⟨x, hx⟩ : ∃ x, bits .xor .i64 r.m (bz.tmod 100) = x := ⟨_, rfl⟩
    have hx1 : -9223372036854775808 ≤ x ∧ x ≤ 9223372036854775807 := hx ▸ xor_in _ _
    have hx2 : x ≠ r.m := hx ▸ xor_ne r.m hd
    have kq : Rk {r with m := x} := ⟨hk.cl, hk.kd, hk.fr, hk.tm, hk.k1, hk.k2, hk.k3, hk.n, hx1, hk.a, hk.b, hk.c, hk.vl, hk.vs⟩
    by_cases hq : May {r with m := x}
    · exact way4y hby hx hv _ _ (other hm hk hq kq (fun e => hx2 (congrArg R12.m e))) hB (fun W hW => Bytes_yes (r := {r with m := x}) (hv.up hW) kq hq)
    · exact way4n hby hx hv _ hB (fun W hW => Bytes_no (r := {r with m := x}) (hv.up hW) kq hq)
  by_cases g5 : f = 5
  · subst g5
    obtain ⟨x, hx⟩ : ∃ x, bits .xor .i64 r.tm (bz.tmod 100) = x := ⟨_, rfl⟩
    have hx1 : -9223372036854775808 ≤ x ∧ x ≤ 9223372036854775807 := hx ▸ xor_in _ _
    have hx2 : x ≠ r.tm := hx ▸ xor_ne r.tm hd
    have kq : Rk {r with tm := x} := ⟨hk.cl, hk.kd, hk.fr, hx1, hk.k1, hk.k2, hk.k3, hk.n, hk.m, hk.a, hk.b, hk.c, hk.vl, hk.vs⟩
    by_cases hq : May {r with tm := x}
    · exact way5y hby hx hv _ _ (other hm hk hq kq (fun e => hx2 (congrArg R12.tm e))) hB (fun W hW => Bytes_yes (r := {r with tm := x}) (hv.up hW) kq hq)
    · exact way5n hby hx hv _ hB (fun W hW => Bytes_no (r := {r with tm := x}) (hv.up hW) kq hq)
  by_cases g6 : f = 6
  · subst g6
    obtain ⟨x, hxx⟩ : ∃ x, r.a ++ [120] = x := ⟨_, rfl⟩
    have hx : S r.a ++ ⟨#[120]⟩ = S x := by rw [← hxx]; exact S_append r.a [120]
    have hx1 : x.length = r.a.length + 1 := by rw [← hxx]; simp
    have hz : ¬ 9223372036854775807 < (S r.a).size + 1 := by rw [S_size]; omega
    have kq : Rk {r with a := x} := ⟨hk.cl, hk.kd, hk.fr, hk.tm, hk.k1, hk.k2, hk.k3, hk.n, hk.m, by simp only; omega, hk.b, hk.c, hk.vl, hk.vs⟩
    by_cases hq : May {r with a := x}
    · exact way6y hby hx hz hv _ _ (other hm hk hq kq (fun e => by have h := congrArg (fun r => r.a.length) e; simp only at h; omega)) hB (fun W hW => Bytes_yes (r := {r with a := x}) (hv.up hW) kq hq)
    · exact way6n hby hx hz hv _ hB (fun W hW => Bytes_no (r := {r with a := x}) (hv.up hW) kq hq)
  by_cases g7 : f = 7
  · subst g7
    obtain ⟨x, hxx⟩ : ∃ x, r.b ++ [120] = x := ⟨_, rfl⟩
    have hx : S r.b ++ ⟨#[120]⟩ = S x := by rw [← hxx]; exact S_append r.b [120]
    have hx1 : x.length = r.b.length + 1 := by rw [← hxx]; simp
    have hz : ¬ 9223372036854775807 < (S r.b).size + 1 := by rw [S_size]; omega
    have kq : Rk {r with b := x} := ⟨hk.cl, hk.kd, hk.fr, hk.tm, hk.k1, hk.k2, hk.k3, hk.n, hk.m, hk.a, by simp only; omega, hk.c, hk.vl, hk.vs⟩
    by_cases hq : May {r with b := x}
    · exact way7y hby hx hz hv _ _ (other hm hk hq kq (fun e => by have h := congrArg (fun r => r.b.length) e; simp only at h; omega)) hB (fun W hW => Bytes_yes (r := {r with b := x}) (hv.up hW) kq hq)
    · exact way7n hby hx hz hv _ hB (fun W hW => Bytes_no (r := {r with b := x}) (hv.up hW) kq hq)
  obtain ⟨x, hxx⟩ : ∃ x, r.c ++ [120] = x := ⟨_, rfl⟩
  have hx : S r.c ++ ⟨#[120]⟩ = S x := by rw [← hxx]; exact S_append r.c [120]
  have hx1 : x.length = r.c.length + 1 := by rw [← hxx]; simp
  have hz : ¬ 9223372036854775807 < (S r.c).size + 1 := by rw [S_size]; omega
  have kq : Rk {r with c := x} := ⟨hk.cl, hk.kd, hk.fr, hk.tm, hk.k1, hk.k2, hk.k3, hk.n, hk.m, hk.a, hk.b, by simp only; omega, hk.vl, hk.vs⟩
  by_cases hq : May {r with c := x}
  · exact way8y f g0 g1 g2 g3 g4 g5 g6 g7 hby hx hz hv _ _ (other hm hk hq kq (fun e => by have h := congrArg (fun r => r.c.length) e; simp only at h; omega)) hB (fun W hW => Bytes_yes (r := {r with c := x}) (hv.up hW) kq hq)
  · exact way8n f g0 g1 g2 g3 g4 g5 g6 g7 hby hx hz hv _ hB (fun W hW => Bytes_no (r := {r with c := x}) (hv.up hW) kq hq)
theorem walk {r : R12} {w : World} {vv : Value} (f bz : Int) (hv : Vs w vv r.v) (hk : Rk r) : Calls Try.prog 7 #[rV r vv, .int .i64 f, .int .i64 bz] w fun e w' => e = .returned (.bool true) ∧ Below w.heap.size w w' := by
  by_cases hm : May r
  · cases hz : (bz.tmod 100 == 0) with
    | true => exact walkZ f bz hm hz hv hk
    | false => exact walkC f bz hz hm hv hk
  · exact walkN f bz hm hv hk

set_option maxRecDepth 100000 in
theorem lifted (os : Os) (started : os.Started) (H : Type) (enc : TypeId × Value → H) :
    ReturnsInHanded {} Try.checked os 7 .any (Rows.recFieldsSpec.pre6 enc Try.prog Try.f7 Rows.recFieldsRow.domain false) (Rows.recFieldsSpec.post enc Try.prog Try.f7 false true false false) := by
  refine returnsInHanded_of_change_sized (C := Try.checked) own12 started (by kernel_rfl) Try.func7
    (ChangeSpec.witness6 (enc := enc) (C := Try.checked) false ⟨#[], #[.agg #[.int .i64 0, .int .i64 0, .int .u64 0, .int .i64 0, .int .u64 0, .int .u64 0, .int .u64 0, .int .i64 0, .int .i64 0, .string .empty, .string .empty, .string .empty, .slice none 0 0], .int .i64 0, .int .i64 0], []⟩ 8 (by kernel_rfl) (by kernel_rfl) (by kernel_rfl) (by kernel_rfl)) ?_
  intro W base args ds gs before hval0 hW hcnd hsz0 _
  have hval : ∀ (j : Nat) t v, Try.f7.params[j]? = some t → args[j]? = some v → Value.okWide Try.prog W .any base t v := hval0
  have hsz : (DataW.weightsEach Try.prog (Try.f7.params.toList ++ Rows.recFieldsSpec.plain.varTypes Try.prog) (ds ++ gs)).all (· ≤ reachBytes) = true := hsz0
  have hW' := hW
  obtain ⟨p, q, hA0, hV, rfl, hfz, hnd⟩ := hW
  have hA : DataW.TrodAll enc Try.prog W 0 (fun _ => true) true Try.f7.params.toList args.toList ds p := hA0
  rw [Try.params7] at hA hval hsz
  obtain ⟨v0, vs0, d0, ds0, p0, q0, hargs, rfl, rfl, h0, r0⟩ := trodAll_cons hA
  obtain ⟨v1, vs1, d1, ds1, p1, q1, rfl, rfl, rfl, h1, r1⟩ := trodAll_cons r0
  obtain ⟨v2, vs2, d2, ds2, p2, q2, rfl, rfl, rfl, h2, r2⟩ := trodAll_cons r1
  obtain ⟨rfl, rfl, rfl⟩ := trodAll_nil r2
  obtain rfl : args = #[v0, v1, v2] := by cases args; simp_all
  obtain ⟨rfl, rfl⟩ := trodVars_none hV
  have k0 := h0
  have lt0 : ∀ x ∈ p0, x.block < W.heap.size := by obtain ⟨m, hm⟩ := k0; exact DataW.trod_lt m _ _ _ hm
  obtain ⟨a0, vv0, rfl, hv0, hk0⟩ := openRec (hval 0 25 v0 rfl rfl) h0
  have rk0 := hk0 (sized_at hsz (i := 0) (t := 25) (d := d0) rfl rfl)
  obtain ⟨a1, rfl, rfl, rfl, w1⟩ := open_int Try.underlying3 (hval 1 3 v1 rfl rfl) h1
  obtain ⟨a2, rfl, rfl, rfl, w2⟩ := open_int Try.underlying2 (hval 2 2 v2 rfl rfl) h2
  clear hA0 hval0
  have hwk := walk a1 a2 hv0 rk0
  refine hwk.mono fun e W' ⟨he, bel⟩ => ?_
  subst he
  exact ⟨_, rfl, _, _, _, [], _, [], hW', trodAll_mk1 (shut_bool Try.underlying4 _), (trodAll_cons_mk (Below.trod laidOut12 (by kernel_rfl) (of_decide_eq_true (by kernel_rfl)) k0 bel lt0) (trodAll_cons_mk (shut_int Try.underlying3 w1) (trodAll_cons_mk (shut_int Try.underlying2 w2) trodAll_mk0))), rfl, bel.frame _, fun h => by cases h⟩

theorem proved : Rows.RecFieldsSaid :=
  OpenClaim.holds_of_wide 7 Try.f7 rfl rfl rfl rfl rfl rfl rfl ⟨rfl, rfl, rfl, rfl, rfl⟩ rfl rfl rfl rfl rfl (by kernel_rfl) Try.func7 (by kernel_rfl)
    (of_decide_eq_true (by kernel_rfl)) (by unfold Func.isWrapper; first | (rw [if_pos (by decide +kernel)]; kernel_rfl) | (rw [if_neg (by decide +kernel)]; exact ⟨rfl, rfl⟩))
    (fun os started H enc _ => lifted os started H enc)
end Go.Proofs.Ytippnkendoghpaa.recFields

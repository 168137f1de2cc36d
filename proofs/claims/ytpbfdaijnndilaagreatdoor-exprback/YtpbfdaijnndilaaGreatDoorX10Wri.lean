/-
  Package expr: a part's text.
-/
import Derived.Test.YtpbfdaijnndilaaGreatDoorGMayE
import Derived.Test.YtpbfdaijnndilaaGreatDoorV9Shw
import Derived.Deep.CutRange
namespace Go.Proofs.YtpbfdaijnndilaaGreatDoor.x10
open Go.RowKit Go.Shelf Go.Sort
open Go.Lib hiding intOf

def sgT (op : Int) : List UInt8 := (sgs[op.toNat]?.getD ([], 0)).1
def brk (a : List UInt8) : List UInt8 := ([40, 32] ++ a) ++ [32, 41]
/-- a part's text, by those of its own parts -/
def wrt (l : List P10) (p : P10) (a b : List UInt8) : List UInt8 :=
  if p.1 = 1 then shw p.2.2.2 else if p.1 = 2 then p.2.2.2.2.2 else
  if p.2.2.1 < 0 then (sgT p.1 ++ [32]) ++ (if p.1 = 5 ∨ lbr l p = true then brk a else a)
  else (((((if p.1 = 5 ∨ lbr l p = true then brk a else a) ++ [32]) ++ sgT p.1) ++ [32]) ++ (if rbr l p = true then brk b else b))
theorem S_cat (a b : List UInt8) : S a ++ S b = S (a ++ b) := by apply ByteArray.ext; simp [S]
theorem cap_of {n : Nat} {a b : ByteArray} (h : a.size + b.size ≤ n) (hn : n ≤ 4611686018427387904) : ¬ 9223372036854775807 < a.size + b.size := by omega
/-- two texts one behind the other, as the walk wants it -/
theorem cat_of (a b : List UInt8) (h : a.length + b.length ≤ 4611686018427387904) {A B C : ByteArray} (hA : S a = A) (hB : S b = B) (hC : S (a ++ b) = C) : A ++ B = C ∧ ¬ 9223372036854775807 < A.size + B.size := by
  subst hA hB hC
  exact ⟨S_cat a b, by rw [S_size, S_size]; omega⟩
set_option maxHeartbeats 4000000 in
set_option maxRecDepth 100000 in
theorem wri_val {w : World} {B : Nat} {v : Value} {l : List P10} (hE : Es w v l) (hB : B ≤ w.heap.size) {i : Nat} {p : P10} (hf : Wf l i p) (a b : List UInt8) (hv9 : Gv B w) (hk : Vk p.2.2.2) (ho : p.1 = 1) : Calls Tryz.prog 27 #[v, .int .i64 (i : Int), .string (S a), .string (S b)] w fun e w' => e = .returned (.string (S (wrt l p a b))) ∧ Below w.heap.size w w' := by
  have HR : Hid (wrt l p a b = shw p.2.2.2) := by show _ = _; unfold wrt; rw [if_pos ho]
  obtain ⟨hi, hp⟩ := List.getElem?_eq_some_iff.1 hf.at'
  have hop := hf.op
  obtain ⟨bl, off, cap, hv, hbl, -⟩ := hE.at hi
  subst hv
  have hbb : Below w.heap.size w (w.alloc (.cells #[.int .i64 p.1, .int .i64 p.2.1, .int .i64 p.2.2.1, .int .i64 p.2.2.2.1, .int .i64 p.2.2.2.2.1, .string (S p.2.2.2.2.2)] 68)) := (Below.refl _ w).alloc (Nat.le_refl _) _
  have hc : w.cell? ⟨bl, off + i * 6, none⟩ = some (.int .i64 p.1) ∧ w.cell? ⟨bl, off + i * 6 + 1, none⟩ = some (.int .i64 p.2.1) ∧ w.cell? ⟨bl, off + i * 6 + 2, none⟩ = some (.int .i64 p.2.2.1) ∧ w.cell? ⟨bl, off + i * 6 + 3, none⟩ = some (.int .i64 p.2.2.2.1) ∧ w.cell? ⟨bl, off + i * 6 + 4, none⟩ = some (.int .i64 p.2.2.2.2.1) ∧ w.cell? ⟨bl, off + i * 6 + 5, none⟩ = some (.string (S p.2.2.2.2.2)) := by
    obtain ⟨b', off', cap', e', -, hc⟩ := hE.at hi
    cases e'
    have := hc i hi
    rw [hp] at this
    exact this
  obtain ⟨d0, d1, d2, d3, d4, d5⟩ := hc
  have i1 : (0 : Int) ≤ (i : Int) := by omega
  have i2 : (i : Int) < (l.length : Int) := by omega
  obtain ⟨W1, hW1⟩ : ∃ W1, w.alloc (.cells #[.int .i64 p.1, .int .i64 p.2.1, .int .i64 p.2.2.1, .int .i64 p.2.2.2.1, .int .i64 p.2.2.2.2.1, .string (S p.2.2.2.2.2)] 68) = W1 := ⟨_, rfl⟩
  rw [hW1] at hbb
  have HB1 : Hid (Below w.heap.size w W1) := hbb
  have HP : Hid (∀ W, Below W1.heap.size W1 W → W.cell? ⟨w.heap.size, 0, none⟩ = some (.int .i64 p.1) ∧ W.cell? ⟨w.heap.size, 2, none⟩ = some (.int .i64 p.2.2.1)) := fun W hW => by
    have h1 : W1.heap[w.heap.size]? = some (.cells #[.int .i64 p.1, .int .i64 p.2.1, .int .i64 p.2.2.1, .int .i64 p.2.2.2.1, .int .i64 p.2.2.2.2.1, .string (S p.2.2.2.2.2)] 68 (0, 0)) := by rw [← hW1]; exact heap_alloc_new w _
    have h2 := (hW.block w.heap.size (Array.getElem?_eq_some_iff.1 h1).1).trans h1
    exact ⟨by simp [World.cell?, h2], by simp [World.cell?, h2]⟩
  have HW : Hid (_ = W1) := hW1
  clear hbb hW1
  have CS := Show_any p.2.2.2 hk (hv9.below (HB1.out.mono hB)) (Nat.le_trans hB HB1.out.size)
  unfold vA at CS
  rw [ho] at d0
  have hpe : p = (1, p.2.1, p.2.2.1, p.2.2.2.1, p.2.2.2.2.1, p.2.2.2.2.2) := by rw [← ho]
  have HPP : Hid (p.1 = 1) := ho
  rw [HR.out]
  generalize shw p.2.2.2 = R at *
  rw [ho] at HW HP
  generalize p.2.1 = p1 at *
  generalize p.2.2.1 = p2 at *
  generalize p.2.2.2.1 = p3 at *
  generalize p.2.2.2.2.1 = p4 at *
  generalize p.2.2.2.2.2 = p5 at *
  clear hpe ho hf hp hE hv9 hk hop HP
  go_enter Tryz.func27, Tryz.ntmps27
  go_wp2_with (go_at_call 53; rw [HW.out]; refine CS.mono ?_; rintro e w2 ⟨rfl, hb2⟩; (have H2 : Hid (Below w.heap.size w w2) := bel_of HB1.out hb2 (Nat.le_refl _)); clear hb2 CS)
  go_ret
  exact ⟨rfl, H2.out⟩

set_option maxHeartbeats 4000000 in
set_option maxRecDepth 100000 in
theorem wri_var {w : World} {v : Value} {l : List P10} (hE : Es w v l) {i : Nat} {p : P10} (hf : Wf l i p) (a b : List UInt8) (ho : p.1 = 2) : Calls Tryz.prog 27 #[v, .int .i64 (i : Int), .string (S a), .string (S b)] w fun e w' => e = .returned (.string (S (wrt l p a b))) ∧ Below w.heap.size w w' := by
  have HR : Hid (wrt l p a b = p.2.2.2.2.2) := by show _ = _; unfold wrt; rw [if_neg (by omega), if_pos ho]
  obtain ⟨hi, hp⟩ := List.getElem?_eq_some_iff.1 hf.at'
  have hop := hf.op
  obtain ⟨bl, off, cap, hv, hbl, -⟩ := hE.at hi
  subst hv
  have hbb : Below w.heap.size w (w.alloc (.cells #[.int .i64 p.1, .int .i64 p.2.1, .int .i64 p.2.2.1, .int .i64 p.2.2.2.1, .int .i64 p.2.2.2.2.1, .string (S p.2.2.2.2.2)] 68)) := (Below.refl _ w).alloc (Nat.le_refl _) _
  have hc : w.cell? ⟨bl, off + i * 6, none⟩ = some (.int .i64 p.1) ∧ w.cell? ⟨bl, off + i * 6 + 1, none⟩ = some (.int .i64 p.2.1) ∧ w.cell? ⟨bl, off + i * 6 + 2, none⟩ = some (.int .i64 p.2.2.1) ∧ w.cell? ⟨bl, off + i * 6 + 3, none⟩ = some (.int .i64 p.2.2.2.1) ∧ w.cell? ⟨bl, off + i * 6 + 4, none⟩ = some (.int .i64 p.2.2.2.2.1) ∧ w.cell? ⟨bl, off + i * 6 + 5, none⟩ = some (.string (S p.2.2.2.2.2)) := by
    obtain ⟨b', off', cap', e', -, hc⟩ := hE.at hi
    cases e'
    have := hc i hi
    rw [hp] at this
    exact this
  obtain ⟨d0, d1, d2, d3, d4, d5⟩ := hc
  have i1 : (0 : Int) ≤ (i : Int) := by omega
  have i2 : (i : Int) < (l.length : Int) := by omega
  obtain ⟨W1, hW1⟩ : ∃ W1, w.alloc (.cells #[.int .i64 p.1, .int .i64 p.2.1, .int .i64 p.2.2.1, .int .i64 p.2.2.2.1, .int .i64 p.2.2.2.2.1, .string (S p.2.2.2.2.2)] 68) = W1 := ⟨_, rfl⟩
  rw [hW1] at hbb
  have HB1 : Hid (Below w.heap.size w W1) := hbb
  have HP : Hid (∀ W, Below W1.heap.size W1 W → W.cell? ⟨w.heap.size, 0, none⟩ = some (.int .i64 p.1) ∧ W.cell? ⟨w.heap.size, 2, none⟩ = some (.int .i64 p.2.2.1)) := fun W hW => by
    have h1 : W1.heap[w.heap.size]? = some (.cells #[.int .i64 p.1, .int .i64 p.2.1, .int .i64 p.2.2.1, .int .i64 p.2.2.2.1, .int .i64 p.2.2.2.2.1, .string (S p.2.2.2.2.2)] 68 (0, 0)) := by rw [← hW1]; exact heap_alloc_new w _
    have h2 := (hW.block w.heap.size (Array.getElem?_eq_some_iff.1 h1).1).trans h1
    exact ⟨by simp [World.cell?, h2], by simp [World.cell?, h2]⟩
  have HW : Hid (_ = W1) := hW1
  clear hbb hW1
  rw [ho] at d0
  rw [HR.out]
  rw [ho] at HW HP
  generalize p.2.1 = p1 at *
  generalize p.2.2.1 = p2 at *
  generalize p.2.2.2.1 = p3 at *
  generalize p.2.2.2.2.1 = p4 at *
  generalize p.2.2.2.2.2 = p5 at *
  clear ho hf hp hE hop HP
  go_enter Tryz.func27, Tryz.ntmps27
  go_wp2
  go_ret
  rw [HW.out]
  exact ⟨rfl, HB1.out⟩

set_option maxHeartbeats 4000000 in
set_option maxRecDepth 100000 in
theorem wri_un_y {w : World} {B : Nat} {v : Value} {l : List P10} (hE : Es w v l) (hg : Gx B w) (hB : B ≤ w.heap.size) {i : Nat} {p : P10} (hf : Wf l i p) (hwg : Wg i p) (a b : List UInt8) (ha : a.length ≤ 1000000) (ho : ¬ p.1 = 5) (hL : lbr l p = true) (hh : hnd p.1 = 1) : Calls Tryz.prog 27 #[v, .int .i64 (i : Int), .string (S a), .string (S b)] w fun e w' => e = .returned (.string (S (wrt l p a b))) ∧ Below w.heap.size w w' := by
  have hB1 := (hwg.o hh).2
  have h3 : 3 ≤ p.1 ∧ p.1 ≤ 5 := by rcases hnd_cases hf.op with ⟨q, -⟩ | ⟨-, q, r⟩ | ⟨q, -⟩ <;> omega
  have HR : Hid (wrt l p a b = (sgT p.1 ++ [32]) ++ brk a) := by show _ = _; unfold wrt; rw [if_neg (by omega), if_neg (by omega), if_pos (by omega), if_pos (Or.inr hL)]
  obtain ⟨hi, hp⟩ := List.getElem?_eq_some_iff.1 hf.at'
  have hop := hf.op
  obtain ⟨bl, off, cap, hv, hbl, -⟩ := hE.at hi
  subst hv
  have hbb : Below w.heap.size w (w.alloc (.cells #[.int .i64 p.1, .int .i64 p.2.1, .int .i64 p.2.2.1, .int .i64 p.2.2.2.1, .int .i64 p.2.2.2.2.1, .string (S p.2.2.2.2.2)] 68)) := (Below.refl _ w).alloc (Nat.le_refl _) _
  have hc : w.cell? ⟨bl, off + i * 6, none⟩ = some (.int .i64 p.1) ∧ w.cell? ⟨bl, off + i * 6 + 1, none⟩ = some (.int .i64 p.2.1) ∧ w.cell? ⟨bl, off + i * 6 + 2, none⟩ = some (.int .i64 p.2.2.1) ∧ w.cell? ⟨bl, off + i * 6 + 3, none⟩ = some (.int .i64 p.2.2.2.1) ∧ w.cell? ⟨bl, off + i * 6 + 4, none⟩ = some (.int .i64 p.2.2.2.2.1) ∧ w.cell? ⟨bl, off + i * 6 + 5, none⟩ = some (.string (S p.2.2.2.2.2)) := by
    obtain ⟨b', off', cap', e', -, hc⟩ := hE.at hi
    cases e'
    have := hc i hi
    rw [hp] at this
    exact this
  obtain ⟨d0, d1, d2, d3, d4, d5⟩ := hc
  have i1 : (0 : Int) ≤ (i : Int) := by omega
  have i2 : (i : Int) < (l.length : Int) := by omega
  obtain ⟨W1, hW1⟩ : ∃ W1, w.alloc (.cells #[.int .i64 p.1, .int .i64 p.2.1, .int .i64 p.2.2.1, .int .i64 p.2.2.2.1, .int .i64 p.2.2.2.2.1, .string (S p.2.2.2.2.2)] 68) = W1 := ⟨_, rfl⟩
  rw [hW1] at hbb
  have HB1 : Hid (Below w.heap.size w W1) := hbb
  have HP : Hid (∀ W, Below W1.heap.size W1 W → W.cell? ⟨w.heap.size, 0, none⟩ = some (.int .i64 p.1) ∧ W.cell? ⟨w.heap.size, 2, none⟩ = some (.int .i64 p.2.2.1)) := fun W hW => by
    have h1 : W1.heap[w.heap.size]? = some (.cells #[.int .i64 p.1, .int .i64 p.2.1, .int .i64 p.2.2.1, .int .i64 p.2.2.2.1, .int .i64 p.2.2.2.2.1, .string (S p.2.2.2.2.2)] 68 (0, 0)) := by rw [← hW1]; exact heap_alloc_new w _
    have h2 := (hW.block w.heap.size (Array.getElem?_eq_some_iff.1 h1).1).trans h1
    exact ⟨by simp [World.cell?, h2], by simp [World.cell?, h2]⟩
  have HW : Hid (_ = W1) := hW1
  clear hbb hW1
  have CL := left_wf (hE.below HB1.out) (hg.below (HB1.out.mono hB)) hf (by omega)
  rw [hL] at CL
  obtain ⟨o1, ho1⟩ : ∃ o1 : Nat, p.1 = (o1 : Int) := ⟨p.1.toNat, by omega⟩
  have hl1 : o1 < 19 := by omega
  have HS : Hid (∀ W, Below w.heap.size w W → _) := fun W hW => (sg_cell (hg.below (hW.mono hB)) o1 hl1).1
  have hst : sgT p.1 = (sgs[o1]?.getD ([], 0)).1 := by unfold sgT; rw [ho1, Int.toNat_natCast]
  have hsl : (sgT p.1).length ≤ 3 := by rw [hst]; exact (by decide : ∀ o : Fin 19, ((sgs[o.val]?.getD ([], 0)).1).length ≤ 3) ⟨o1, hl1⟩
  rw [← hst] at HS
  rw [HR.out]
  generalize sgT p.1 = sg at *
  obtain ⟨NA, hNA⟩ : ∃ N, S a = N := ⟨_, rfl⟩
  obtain ⟨NS, hNS⟩ : ∃ N, S sg = N := ⟨_, rfl⟩
  have hb1 : S [40, 32] = ⟨#[40, 32]⟩ := rfl
  have hb2 : S [32, 41] = ⟨#[32, 41]⟩ := rfl
  have hb3 : S [32] = ⟨#[32]⟩ := rfl
  obtain ⟨N1, hN1⟩ : ∃ N, S ([40, 32] ++ a) = N := ⟨_, rfl⟩
  obtain ⟨k1, z1⟩ := cat_of ([40, 32]) (a) (by simp; omega) hb1 hNA hN1
  obtain ⟨N2, hN2⟩ : ∃ N, S (brk a) = N := ⟨_, rfl⟩
  obtain ⟨k2, z2⟩ := cat_of ([40, 32] ++ a) ([32, 41]) (by simp; omega) hN1 hb2 hN2
  obtain ⟨N3, hN3⟩ : ∃ N, S (sg ++ [32]) = N := ⟨_, rfl⟩
  obtain ⟨k3, z3⟩ := cat_of (sg) ([32]) (by simp; omega) hNS hb3 hN3
  obtain ⟨N4, hN4⟩ : ∃ N, S ((sg ++ [32]) ++ brk a) = N := ⟨_, rfl⟩
  obtain ⟨k4, z4⟩ := cat_of (sg ++ [32]) (brk a) (by simp [brk]; omega) hN3 hN2 hN4
  have HN : Hid (S ((sg ++ [32]) ++ brk a) = N4) := hN4
  rw [hNA]
  rw [hNS] at HS
  clear hN3 hN4 hNA hNS hb1 hb2 hb3 hst hsl hN1 hN2
  rw [hB1] at d2 HW HP
  rw [ho1] at d0 HW HP
  have e1 : ¬ (o1 : Int) = 1 := by omega
  have e2 : ¬ (o1 : Int) = 2 := by omega
  have e5 : ¬ (o1 : Int) = 5 := by omega
  have f1 : ((o1 : Int) == 1) = false := beq_eq_false_iff_ne.2 e1
  have f2 : ((o1 : Int) == 2) = false := beq_eq_false_iff_ne.2 e2
  have f5 : ((o1 : Int) == 5) = false := beq_eq_false_iff_ne.2 e5
  have i5 : (0 : Int) ≤ (o1 : Int) := by omega
  have i6 : (o1 : Int) < 19 := by omega
  generalize p.2.1 = p1 at *
  generalize p.2.2.2.1 = p3 at *
  generalize p.2.2.2.2.1 = p4 at *
  generalize p.2.2.2.2.2 = p5 at *
  clear hp hop hwg hf hg hE hB1 h3 hh ha HR
  go_enter Tryz.func27, Tryz.ntmps27
  go_wp2_with (go_at_call 54; rw [HW.out]; refine CL.mono ?_; rintro e w2 ⟨rfl, hb2⟩; (have H2 : Hid (Below w.heap.size w w2) := bel_of HB1.out hb2 (Nat.le_refl _)); (have HP2 : Hid (Below W1.heap.size W1 w2) := hb2); have s1 := HS.out w2 H2.out; obtain ⟨q0, q2⟩ := HP.out w2 hb2; clear hb2 CL)
  go_ret
  rw [HN.out]
  exact ⟨rfl, H2.out⟩

set_option maxHeartbeats 4000000 in
set_option maxRecDepth 100000 in
theorem wri_un_n {w : World} {B : Nat} {v : Value} {l : List P10} (hE : Es w v l) (hg : Gx B w) (hB : B ≤ w.heap.size) {i : Nat} {p : P10} (hf : Wf l i p) (hwg : Wg i p) (a b : List UInt8) (ha : a.length ≤ 1000000) (ho : ¬ p.1 = 5) (hL : lbr l p = false) (hh : hnd p.1 = 1) : Calls Tryz.prog 27 #[v, .int .i64 (i : Int), .string (S a), .string (S b)] w fun e w' => e = .returned (.string (S (wrt l p a b))) ∧ Below w.heap.size w w' := by
  have hB1 := (hwg.o hh).2
  have h3 : 3 ≤ p.1 ∧ p.1 ≤ 5 := by rcases hnd_cases hf.op with ⟨q, -⟩ | ⟨-, q, r⟩ | ⟨q, -⟩ <;> omega
  have HR : Hid (wrt l p a b = (sgT p.1 ++ [32]) ++ a) := by show _ = _; unfold wrt; rw [if_neg (by omega), if_neg (by omega), if_pos (by omega), if_neg (fun e => e.elim ho (fun e => by rw [hL] at e; cases e))]
  obtain ⟨hi, hp⟩ := List.getElem?_eq_some_iff.1 hf.at'
  have hop := hf.op
  obtain ⟨bl, off, cap, hv, hbl, -⟩ := hE.at hi
  subst hv
  have hbb : Below w.heap.size w (w.alloc (.cells #[.int .i64 p.1, .int .i64 p.2.1, .int .i64 p.2.2.1, .int .i64 p.2.2.2.1, .int .i64 p.2.2.2.2.1, .string (S p.2.2.2.2.2)] 68)) := (Below.refl _ w).alloc (Nat.le_refl _) _
  have hc : w.cell? ⟨bl, off + i * 6, none⟩ = some (.int .i64 p.1) ∧ w.cell? ⟨bl, off + i * 6 + 1, none⟩ = some (.int .i64 p.2.1) ∧ w.cell? ⟨bl, off + i * 6 + 2, none⟩ = some (.int .i64 p.2.2.1) ∧ w.cell? ⟨bl, off + i * 6 + 3, none⟩ = some (.int .i64 p.2.2.2.1) ∧ w.cell? ⟨bl, off + i * 6 + 4, none⟩ = some (.int .i64 p.2.2.2.2.1) ∧ w.cell? ⟨bl, off + i * 6 + 5, none⟩ = some (.string (S p.2.2.2.2.2)) := by
    obtain ⟨b', off', cap', e', -, hc⟩ := hE.at hi
    cases e'
    have := hc i hi
    rw [hp] at this
    exact this
  obtain ⟨d0, d1, d2, d3, d4, d5⟩ := hc
  have i1 : (0 : Int) ≤ (i : Int) := by omega
  have i2 : (i : Int) < (l.length : Int) := by omega
  obtain ⟨W1, hW1⟩ : ∃ W1, w.alloc (.cells #[.int .i64 p.1, .int .i64 p.2.1, .int .i64 p.2.2.1, .int .i64 p.2.2.2.1, .int .i64 p.2.2.2.2.1, .string (S p.2.2.2.2.2)] 68) = W1 := ⟨_, rfl⟩
  rw [hW1] at hbb
  have HB1 : Hid (Below w.heap.size w W1) := hbb
  have HP : Hid (∀ W, Below W1.heap.size W1 W → W.cell? ⟨w.heap.size, 0, none⟩ = some (.int .i64 p.1) ∧ W.cell? ⟨w.heap.size, 2, none⟩ = some (.int .i64 p.2.2.1)) := fun W hW => by
    have h1 : W1.heap[w.heap.size]? = some (.cells #[.int .i64 p.1, .int .i64 p.2.1, .int .i64 p.2.2.1, .int .i64 p.2.2.2.1, .int .i64 p.2.2.2.2.1, .string (S p.2.2.2.2.2)] 68 (0, 0)) := by rw [← hW1]; exact heap_alloc_new w _
    have h2 := (hW.block w.heap.size (Array.getElem?_eq_some_iff.1 h1).1).trans h1
    exact ⟨by simp [World.cell?, h2], by simp [World.cell?, h2]⟩
  have HW : Hid (_ = W1) := hW1
  clear hbb hW1
  have CL := left_wf (hE.below HB1.out) (hg.below (HB1.out.mono hB)) hf (by omega)
  rw [hL] at CL
  obtain ⟨o1, ho1⟩ : ∃ o1 : Nat, p.1 = (o1 : Int) := ⟨p.1.toNat, by omega⟩
  have hl1 : o1 < 19 := by omega
  have HS : Hid (∀ W, Below w.heap.size w W → _) := fun W hW => (sg_cell (hg.below (hW.mono hB)) o1 hl1).1
  have hst : sgT p.1 = (sgs[o1]?.getD ([], 0)).1 := by unfold sgT; rw [ho1, Int.toNat_natCast]
  have hsl : (sgT p.1).length ≤ 3 := by rw [hst]; exact (by decide : ∀ o : Fin 19, ((sgs[o.val]?.getD ([], 0)).1).length ≤ 3) ⟨o1, hl1⟩
  rw [← hst] at HS
  rw [HR.out]
  generalize sgT p.1 = sg at *
  obtain ⟨NA, hNA⟩ : ∃ N, S a = N := ⟨_, rfl⟩
  obtain ⟨NS, hNS⟩ : ∃ N, S sg = N := ⟨_, rfl⟩
  have hb3 : S [32] = ⟨#[32]⟩ := rfl
  obtain ⟨N3, hN3⟩ : ∃ N, S (sg ++ [32]) = N := ⟨_, rfl⟩
  obtain ⟨k3, z3⟩ := cat_of (sg) ([32]) (by simp; omega) hNS hb3 hN3
  obtain ⟨N4, hN4⟩ : ∃ N, S ((sg ++ [32]) ++ a) = N := ⟨_, rfl⟩
  obtain ⟨k4, z4⟩ := cat_of (sg ++ [32]) (a) (by simp; omega) hN3 hNA hN4
  have HN : Hid (S ((sg ++ [32]) ++ a) = N4) := hN4
  rw [hNA]
  rw [hNS] at HS
  clear hN3 hN4 hNA hNS hb3 hst hsl
  rw [hB1] at d2 HW HP
  rw [ho1] at d0 HW HP
  have e1 : ¬ (o1 : Int) = 1 := by omega
  have e2 : ¬ (o1 : Int) = 2 := by omega
  have e5 : ¬ (o1 : Int) = 5 := by omega
  have f1 : ((o1 : Int) == 1) = false := beq_eq_false_iff_ne.2 e1
  have f2 : ((o1 : Int) == 2) = false := beq_eq_false_iff_ne.2 e2
  have f5 : ((o1 : Int) == 5) = false := beq_eq_false_iff_ne.2 e5
  have i5 : (0 : Int) ≤ (o1 : Int) := by omega
  have i6 : (o1 : Int) < 19 := by omega
  generalize p.2.1 = p1 at *
  generalize p.2.2.2.1 = p3 at *
  generalize p.2.2.2.2.1 = p4 at *
  generalize p.2.2.2.2.2 = p5 at *
  clear hp hop hwg hf hg hE hB1 h3 hh ha HR
  go_enter Tryz.func27, Tryz.ntmps27
  go_wp2_with (go_at_call 54; rw [HW.out]; refine CL.mono ?_; rintro e w2 ⟨rfl, hb2⟩; (have H2 : Hid (Below w.heap.size w w2) := bel_of HB1.out hb2 (Nat.le_refl _)); (have HP2 : Hid (Below W1.heap.size W1 w2) := hb2); have s1 := HS.out w2 H2.out; obtain ⟨q0, q2⟩ := HP.out w2 hb2; clear hb2 CL)
  go_ret
  rw [HN.out]
  exact ⟨rfl, H2.out⟩

set_option maxHeartbeats 4000000 in
set_option maxRecDepth 100000 in
theorem wri_un_5 {w : World} {B : Nat} {v : Value} {l : List P10} (hE : Es w v l) (hg : Gx B w) (hB : B ≤ w.heap.size) {i : Nat} {p : P10} (hf : Wf l i p) (hwg : Wg i p) (a b : List UInt8) (ha : a.length ≤ 1000000) (ho : p.1 = 5) (hh : hnd p.1 = 1) : Calls Tryz.prog 27 #[v, .int .i64 (i : Int), .string (S a), .string (S b)] w fun e w' => e = .returned (.string (S (wrt l p a b))) ∧ Below w.heap.size w w' := by
  have hB1 := (hwg.o hh).2
  have h3 : 3 ≤ p.1 ∧ p.1 ≤ 5 := by rcases hnd_cases hf.op with ⟨q, -⟩ | ⟨-, q, r⟩ | ⟨q, -⟩ <;> omega
  have HR : Hid (wrt l p a b = (sgT p.1 ++ [32]) ++ brk a) := by show _ = _; unfold wrt; rw [if_neg (by omega), if_neg (by omega), if_pos (by omega), if_pos (Or.inl ho)]
  obtain ⟨hi, hp⟩ := List.getElem?_eq_some_iff.1 hf.at'
  have hop := hf.op
  obtain ⟨bl, off, cap, hv, hbl, -⟩ := hE.at hi
  subst hv
  have hbb : Below w.heap.size w (w.alloc (.cells #[.int .i64 p.1, .int .i64 p.2.1, .int .i64 p.2.2.1, .int .i64 p.2.2.2.1, .int .i64 p.2.2.2.2.1, .string (S p.2.2.2.2.2)] 68)) := (Below.refl _ w).alloc (Nat.le_refl _) _
  have hc : w.cell? ⟨bl, off + i * 6, none⟩ = some (.int .i64 p.1) ∧ w.cell? ⟨bl, off + i * 6 + 1, none⟩ = some (.int .i64 p.2.1) ∧ w.cell? ⟨bl, off + i * 6 + 2, none⟩ = some (.int .i64 p.2.2.1) ∧ w.cell? ⟨bl, off + i * 6 + 3, none⟩ = some (.int .i64 p.2.2.2.1) ∧ w.cell? ⟨bl, off + i * 6 + 4, none⟩ = some (.int .i64 p.2.2.2.2.1) ∧ w.cell? ⟨bl, off + i * 6 + 5, none⟩ = some (.string (S p.2.2.2.2.2)) := by
    obtain ⟨b', off', cap', e', -, hc⟩ := hE.at hi
    cases e'
    have := hc i hi
    rw [hp] at this
    exact this
  obtain ⟨d0, d1, d2, d3, d4, d5⟩ := hc
  have i1 : (0 : Int) ≤ (i : Int) := by omega
  have i2 : (i : Int) < (l.length : Int) := by omega
  obtain ⟨W1, hW1⟩ : ∃ W1, w.alloc (.cells #[.int .i64 p.1, .int .i64 p.2.1, .int .i64 p.2.2.1, .int .i64 p.2.2.2.1, .int .i64 p.2.2.2.2.1, .string (S p.2.2.2.2.2)] 68) = W1 := ⟨_, rfl⟩
  rw [hW1] at hbb
  have HB1 : Hid (Below w.heap.size w W1) := hbb
  have HP : Hid (∀ W, Below W1.heap.size W1 W → W.cell? ⟨w.heap.size, 0, none⟩ = some (.int .i64 p.1) ∧ W.cell? ⟨w.heap.size, 2, none⟩ = some (.int .i64 p.2.2.1)) := fun W hW => by
    have h1 : W1.heap[w.heap.size]? = some (.cells #[.int .i64 p.1, .int .i64 p.2.1, .int .i64 p.2.2.1, .int .i64 p.2.2.2.1, .int .i64 p.2.2.2.2.1, .string (S p.2.2.2.2.2)] 68 (0, 0)) := by rw [← hW1]; exact heap_alloc_new w _
    have h2 := (hW.block w.heap.size (Array.getElem?_eq_some_iff.1 h1).1).trans h1
    exact ⟨by simp [World.cell?, h2], by simp [World.cell?, h2]⟩
  have HW : Hid (_ = W1) := hW1
  clear hbb hW1
  obtain ⟨o1, ho1⟩ : ∃ o1 : Nat, p.1 = (o1 : Int) := ⟨p.1.toNat, by omega⟩
  have hl1 : o1 < 19 := by omega
  have HS : Hid (∀ W, Below w.heap.size w W → _) := fun W hW => (sg_cell (hg.below (hW.mono hB)) o1 hl1).1
  have hst : sgT p.1 = (sgs[o1]?.getD ([], 0)).1 := by unfold sgT; rw [ho1, Int.toNat_natCast]
  have hsl : (sgT p.1).length ≤ 3 := by rw [hst]; exact (by decide : ∀ o : Fin 19, ((sgs[o.val]?.getD ([], 0)).1).length ≤ 3) ⟨o1, hl1⟩
  rw [← hst] at HS
  rw [HR.out]
  generalize sgT p.1 = sg at *
  obtain ⟨NA, hNA⟩ : ∃ N, S a = N := ⟨_, rfl⟩
  obtain ⟨NS, hNS⟩ : ∃ N, S sg = N := ⟨_, rfl⟩
  have hb1 : S [40, 32] = ⟨#[40, 32]⟩ := rfl
  have hb2 : S [32, 41] = ⟨#[32, 41]⟩ := rfl
  have hb3 : S [32] = ⟨#[32]⟩ := rfl
  obtain ⟨N1, hN1⟩ : ∃ N, S ([40, 32] ++ a) = N := ⟨_, rfl⟩
  obtain ⟨k1, z1⟩ := cat_of ([40, 32]) (a) (by simp; omega) hb1 hNA hN1
  obtain ⟨N2, hN2⟩ : ∃ N, S (brk a) = N := ⟨_, rfl⟩
  obtain ⟨k2, z2⟩ := cat_of ([40, 32] ++ a) ([32, 41]) (by simp; omega) hN1 hb2 hN2
  obtain ⟨N3, hN3⟩ : ∃ N, S (sg ++ [32]) = N := ⟨_, rfl⟩
  obtain ⟨k3, z3⟩ := cat_of (sg) ([32]) (by simp; omega) hNS hb3 hN3
  obtain ⟨N4, hN4⟩ : ∃ N, S ((sg ++ [32]) ++ brk a) = N := ⟨_, rfl⟩
  obtain ⟨k4, z4⟩ := cat_of (sg ++ [32]) (brk a) (by simp [brk]; omega) hN3 hN2 hN4
  have HN : Hid (S ((sg ++ [32]) ++ brk a) = N4) := hN4
  rw [hNA]
  rw [hNS] at HS
  clear hN3 hN4 hNA hNS hb1 hb2 hb3 hst hsl hN1 hN2
  rw [hB1] at d2 HW HP
  rw [ho1] at d0 HW HP
  obtain rfl : o1 = 5 := by omega
  rw [show ((5 : Nat) : Int) = 5 from rfl] at d0 HW HP
  generalize p.2.1 = p1 at *
  generalize p.2.2.2.1 = p3 at *
  generalize p.2.2.2.2.1 = p4 at *
  generalize p.2.2.2.2.2 = p5 at *
  clear hp hop hwg hf hg hE hB1 h3 hh ha HR
  go_enter Tryz.func27, Tryz.ntmps27
  have s1 := HS.out W1 HB1.out
  obtain ⟨q0, q2⟩ := HP.out W1 (Below.refl _ _)
  go_upto_region 2 with fail
  rw [HW.out]
  go_wp2
  go_ret
  rw [HN.out]
  exact ⟨rfl, HB1.out⟩

set_option maxHeartbeats 4000000 in
set_option maxRecDepth 100000 in
theorem wri_bi_yy {w : World} {B : Nat} {v : Value} {l : List P10} (hE : Es w v l) (hg : Gx B w) (hB : B ≤ w.heap.size) {i : Nat} {p : P10} (hf : Wf l i p) (hwg : Wg i p) (a b : List UInt8) (ha : a.length ≤ 1000000) (hb : b.length ≤ 1000000) (hL : lbr l p = true) (hRt : rbr l p = true) (hh : hnd p.1 = 2) : Calls Tryz.prog 27 #[v, .int .i64 (i : Int), .string (S a), .string (S b)] w fun e w' => e = .returned (.string (S (wrt l p a b))) ∧ Below w.heap.size w w' := by
  obtain ⟨jb, -, hB2⟩ := (hwg.t hh).2
  have h3 : 6 ≤ p.1 ∧ p.1 ≤ 18 := by have := hf.op.2; rcases hnd_cases hf.op with ⟨q, -⟩ | ⟨q, -⟩ | ⟨-, q⟩ <;> omega
  have ho : ¬ p.1 = 5 := by omega
  have HR : Hid (wrt l p a b = (((((brk a) ++ [32]) ++ sgT p.1) ++ [32]) ++ (brk b))) := by show _ = _; unfold wrt; rw [if_neg (by omega), if_neg (by omega), if_neg (by omega), if_pos (Or.inr hL), if_pos hRt]
  obtain ⟨hi, hp⟩ := List.getElem?_eq_some_iff.1 hf.at'
  have hop := hf.op
  obtain ⟨bl, off, cap, hv, hbl, -⟩ := hE.at hi
  subst hv
  have hbb : Below w.heap.size w (w.alloc (.cells #[.int .i64 p.1, .int .i64 p.2.1, .int .i64 p.2.2.1, .int .i64 p.2.2.2.1, .int .i64 p.2.2.2.2.1, .string (S p.2.2.2.2.2)] 68)) := (Below.refl _ w).alloc (Nat.le_refl _) _
  have hc : w.cell? ⟨bl, off + i * 6, none⟩ = some (.int .i64 p.1) ∧ w.cell? ⟨bl, off + i * 6 + 1, none⟩ = some (.int .i64 p.2.1) ∧ w.cell? ⟨bl, off + i * 6 + 2, none⟩ = some (.int .i64 p.2.2.1) ∧ w.cell? ⟨bl, off + i * 6 + 3, none⟩ = some (.int .i64 p.2.2.2.1) ∧ w.cell? ⟨bl, off + i * 6 + 4, none⟩ = some (.int .i64 p.2.2.2.2.1) ∧ w.cell? ⟨bl, off + i * 6 + 5, none⟩ = some (.string (S p.2.2.2.2.2)) := by
    obtain ⟨b', off', cap', e', -, hc⟩ := hE.at hi
    cases e'
    have := hc i hi
    rw [hp] at this
    exact this
  obtain ⟨d0, d1, d2, d3, d4, d5⟩ := hc
  have i1 : (0 : Int) ≤ (i : Int) := by omega
  have i2 : (i : Int) < (l.length : Int) := by omega
  obtain ⟨W1, hW1⟩ : ∃ W1, w.alloc (.cells #[.int .i64 p.1, .int .i64 p.2.1, .int .i64 p.2.2.1, .int .i64 p.2.2.2.1, .int .i64 p.2.2.2.2.1, .string (S p.2.2.2.2.2)] 68) = W1 := ⟨_, rfl⟩
  rw [hW1] at hbb
  have HB1 : Hid (Below w.heap.size w W1) := hbb
  have HP : Hid (∀ W, Below W1.heap.size W1 W → W.cell? ⟨w.heap.size, 0, none⟩ = some (.int .i64 p.1) ∧ W.cell? ⟨w.heap.size, 2, none⟩ = some (.int .i64 p.2.2.1)) := fun W hW => by
    have h1 : W1.heap[w.heap.size]? = some (.cells #[.int .i64 p.1, .int .i64 p.2.1, .int .i64 p.2.2.1, .int .i64 p.2.2.2.1, .int .i64 p.2.2.2.2.1, .string (S p.2.2.2.2.2)] 68 (0, 0)) := by rw [← hW1]; exact heap_alloc_new w _
    have h2 := (hW.block w.heap.size (Array.getElem?_eq_some_iff.1 h1).1).trans h1
    exact ⟨by simp [World.cell?, h2], by simp [World.cell?, h2]⟩
  have HW : Hid (_ = W1) := hW1
  clear hbb hW1
  have CL := left_wf (hE.below HB1.out) (hg.below (HB1.out.mono hB)) hf (by omega)
  rw [hL] at CL
  have CR : Hid (∀ W, Below W1.heap.size W1 W → _) := fun W hW => right_wf ((hE.below HB1.out).below hW) (hg.below ((bel_of HB1.out hW (Nat.le_refl _)).mono hB)) hf hh
  rw [hRt] at CR
  obtain ⟨o1, ho1⟩ : ∃ o1 : Nat, p.1 = (o1 : Int) := ⟨p.1.toNat, by omega⟩
  have hl1 : o1 < 19 := by omega
  have HS : Hid (∀ W, Below w.heap.size w W → _) := fun W hW => (sg_cell (hg.below (hW.mono hB)) o1 hl1).1
  have hst : sgT p.1 = (sgs[o1]?.getD ([], 0)).1 := by unfold sgT; rw [ho1, Int.toNat_natCast]
  have hsl : (sgT p.1).length ≤ 3 := by rw [hst]; exact (by decide : ∀ o : Fin 19, ((sgs[o.val]?.getD ([], 0)).1).length ≤ 3) ⟨o1, hl1⟩
  rw [← hst] at HS
  rw [HR.out]
  generalize sgT p.1 = sg at *
  obtain ⟨NA, hNA⟩ : ∃ N, S a = N := ⟨_, rfl⟩
  obtain ⟨NS, hNS⟩ : ∃ N, S sg = N := ⟨_, rfl⟩
  obtain ⟨NB, hNB⟩ : ∃ N, S b = N := ⟨_, rfl⟩
  have hb1 : S [40, 32] = ⟨#[40, 32]⟩ := rfl
  have hb2 : S [32, 41] = ⟨#[32, 41]⟩ := rfl
  have hb3 : S [32] = ⟨#[32]⟩ := rfl
  obtain ⟨N1, hN1⟩ : ∃ N, S ([40, 32] ++ a) = N := ⟨_, rfl⟩
  obtain ⟨k1, z1⟩ := cat_of ([40, 32]) (a) (by simp; omega) hb1 hNA hN1
  obtain ⟨N2, hN2⟩ : ∃ N, S (brk a) = N := ⟨_, rfl⟩
  obtain ⟨k2, z2⟩ := cat_of ([40, 32] ++ a) ([32, 41]) (by simp; omega) hN1 hb2 hN2
  obtain ⟨N3, hN3⟩ : ∃ N, S ([40, 32] ++ b) = N := ⟨_, rfl⟩
  obtain ⟨k3, z3⟩ := cat_of ([40, 32]) (b) (by simp; omega) hb1 hNB hN3
  obtain ⟨N4, hN4⟩ : ∃ N, S (brk b) = N := ⟨_, rfl⟩
  obtain ⟨k4, z4⟩ := cat_of ([40, 32] ++ b) ([32, 41]) (by simp; omega) hN3 hb2 hN4
  obtain ⟨N5, hN5⟩ : ∃ N, S (brk a ++ [32]) = N := ⟨_, rfl⟩
  obtain ⟨k5, z5⟩ := cat_of (brk a) ([32]) (by simp [brk]; omega) hN2 hb3 hN5
  obtain ⟨N6, hN6⟩ : ∃ N, S ((brk a ++ [32]) ++ sg) = N := ⟨_, rfl⟩
  obtain ⟨k6, z6⟩ := cat_of ((brk a ++ [32])) (sg) (by simp [brk]; omega) hN5 hNS hN6
  obtain ⟨N7, hN7⟩ : ∃ N, S (((brk a ++ [32]) ++ sg) ++ [32]) = N := ⟨_, rfl⟩
  obtain ⟨k7, z7⟩ := cat_of (((brk a ++ [32]) ++ sg)) ([32]) (by simp [brk]; omega) hN6 hb3 hN7
  obtain ⟨N8, hN8⟩ : ∃ N, S ((((brk a ++ [32]) ++ sg) ++ [32]) ++ brk b) = N := ⟨_, rfl⟩
  obtain ⟨k8, z8⟩ := cat_of ((((brk a ++ [32]) ++ sg) ++ [32])) (brk b) (by simp [brk]; omega) hN7 hN4 hN8
  have HN : Hid (S ((((brk a ++ [32]) ++ sg) ++ [32]) ++ brk b) = N8) := hN8
  rw [hNA, hNB]
  rw [hNS] at HS
  clear hN5 hN6 hN7 hN8 hNA hNB hNS hb1 hb2 hb3 hst hsl hN1 hN2 hN3 hN4
  rw [hB2] at d2 HW HP
  rw [ho1] at d0 HW HP
  have ib : ¬ (jb : Int) < 0 := by omega
  have e1 : ¬ (o1 : Int) = 1 := by omega
  have e2 : ¬ (o1 : Int) = 2 := by omega
  have e5 : ¬ (o1 : Int) = 5 := by omega
  have f1 : ((o1 : Int) == 1) = false := beq_eq_false_iff_ne.2 e1
  have f2 : ((o1 : Int) == 2) = false := beq_eq_false_iff_ne.2 e2
  have f5 : ((o1 : Int) == 5) = false := beq_eq_false_iff_ne.2 e5
  have i5 : (0 : Int) ≤ (o1 : Int) := by omega
  have i6 : (o1 : Int) < 19 := by omega
  generalize p.2.1 = p1 at *
  generalize p.2.2.2.1 = p3 at *
  generalize p.2.2.2.2.1 = p4 at *
  generalize p.2.2.2.2.2 = p5 at *
  clear hp hop hwg hf hg hE hB2 h3 hh ha hb HR ho
  go_enter Tryz.func27, Tryz.ntmps27
  go_wp2_with (first
    | (go_at_call 54; rw [HW.out]; refine CL.mono ?_; rintro e w2 ⟨rfl, hb2⟩; (have H2 : Hid (Below w.heap.size w w2) := bel_of HB1.out hb2 (Nat.le_refl _)); (have HP2 : Hid (Below W1.heap.size W1 w2) := hb2); have s1 := HS.out w2 H2.out; obtain ⟨q0, q2⟩ := HP.out w2 hb2; clear hb2 CL)
    | (go_at_call 55; refine (CR.out w2 HP2.out).mono ?_; rintro e w3 ⟨rfl, hb3⟩; (have H3 : Hid (Below w.heap.size w w3) := bel_of H2.out hb3 (Nat.le_refl _)); clear hb3))
  go_ret
  rw [HN.out]
  exact ⟨rfl, H3.out⟩

set_option maxHeartbeats 4000000 in
set_option maxRecDepth 100000 in
theorem wri_bi_yn {w : World} {B : Nat} {v : Value} {l : List P10} (hE : Es w v l) (hg : Gx B w) (hB : B ≤ w.heap.size) {i : Nat} {p : P10} (hf : Wf l i p) (hwg : Wg i p) (a b : List UInt8) (ha : a.length ≤ 1000000) (hb : b.length ≤ 1000000) (hL : lbr l p = true) (hRt : rbr l p = false) (hh : hnd p.1 = 2) : Calls Tryz.prog 27 #[v, .int .i64 (i : Int), .string (S a), .string (S b)] w fun e w' => e = .returned (.string (S (wrt l p a b))) ∧ Below w.heap.size w w' := by
  obtain ⟨jb, -, hB2⟩ := (hwg.t hh).2
  have h3 : 6 ≤ p.1 ∧ p.1 ≤ 18 := by have := hf.op.2; rcases hnd_cases hf.op with ⟨q, -⟩ | ⟨q, -⟩ | ⟨-, q⟩ <;> omega
  have ho : ¬ p.1 = 5 := by omega
  have HR : Hid (wrt l p a b = (((((brk a) ++ [32]) ++ sgT p.1) ++ [32]) ++ (b))) := by show _ = _; unfold wrt; rw [if_neg (by omega), if_neg (by omega), if_neg (by omega), if_pos (Or.inr hL), if_neg (by rw [hRt]; simp)]
  obtain ⟨hi, hp⟩ := List.getElem?_eq_some_iff.1 hf.at'
  have hop := hf.op
  obtain ⟨bl, off, cap, hv, hbl, -⟩ := hE.at hi
  subst hv
  have hbb : Below w.heap.size w (w.alloc (.cells #[.int .i64 p.1, .int .i64 p.2.1, .int .i64 p.2.2.1, .int .i64 p.2.2.2.1, .int .i64 p.2.2.2.2.1, .string (S p.2.2.2.2.2)] 68)) := (Below.refl _ w).alloc (Nat.le_refl _) _
  have hc : w.cell? ⟨bl, off + i * 6, none⟩ = some (.int .i64 p.1) ∧ w.cell? ⟨bl, off + i * 6 + 1, none⟩ = some (.int .i64 p.2.1) ∧ w.cell? ⟨bl, off + i * 6 + 2, none⟩ = some (.int .i64 p.2.2.1) ∧ w.cell? ⟨bl, off + i * 6 + 3, none⟩ = some (.int .i64 p.2.2.2.1) ∧ w.cell? ⟨bl, off + i * 6 + 4, none⟩ = some (.int .i64 p.2.2.2.2.1) ∧ w.cell? ⟨bl, off + i * 6 + 5, none⟩ = some (.string (S p.2.2.2.2.2)) := by
    obtain ⟨b', off', cap', e', -, hc⟩ := hE.at hi
    cases e'
    have := hc i hi
    rw [hp] at this
    exact this
  obtain ⟨d0, d1, d2, d3, d4, d5⟩ := hc
  have i1 : (0 : Int) ≤ (i : Int) := by omega
  have i2 : (i : Int) < (l.length : Int) := by omega
  obtain ⟨W1, hW1⟩ : ∃ W1, w.alloc (.cells #[.int .i64 p.1, .int .i64 p.2.1, .int .i64 p.2.2.1, .int .i64 p.2.2.2.1, .int .i64 p.2.2.2.2.1, .string (S p.2.2.2.2.2)] 68) = W1 := ⟨_, rfl⟩
  rw [hW1] at hbb
  have HB1 : Hid (Below w.heap.size w W1) := hbb
  have HP : Hid (∀ W, Below W1.heap.size W1 W → W.cell? ⟨w.heap.size, 0, none⟩ = some (.int .i64 p.1) ∧ W.cell? ⟨w.heap.size, 2, none⟩ = some (.int .i64 p.2.2.1)) := fun W hW => by
    have h1 : W1.heap[w.heap.size]? = some (.cells #[.int .i64 p.1, .int .i64 p.2.1, .int .i64 p.2.2.1, .int .i64 p.2.2.2.1, .int .i64 p.2.2.2.2.1, .string (S p.2.2.2.2.2)] 68 (0, 0)) := by rw [← hW1]; exact heap_alloc_new w _
    have h2 := (hW.block w.heap.size (Array.getElem?_eq_some_iff.1 h1).1).trans h1
    exact ⟨by simp [World.cell?, h2], by simp [World.cell?, h2]⟩
  have HW : Hid (_ = W1) := hW1
  clear hbb hW1
  have CL := left_wf (hE.below HB1.out) (hg.below (HB1.out.mono hB)) hf (by omega)
  rw [hL] at CL
  have CR : Hid (∀ W, Below W1.heap.size W1 W → _) := fun W hW => right_wf ((hE.below HB1.out).below hW) (hg.below ((bel_of HB1.out hW (Nat.le_refl _)).mono hB)) hf hh
  rw [hRt] at CR
  obtain ⟨o1, ho1⟩ : ∃ o1 : Nat, p.1 = (o1 : Int) := ⟨p.1.toNat, by omega⟩
  have hl1 : o1 < 19 := by omega
  have HS : Hid (∀ W, Below w.heap.size w W → _) := fun W hW => (sg_cell (hg.below (hW.mono hB)) o1 hl1).1
  have hst : sgT p.1 = (sgs[o1]?.getD ([], 0)).1 := by unfold sgT; rw [ho1, Int.toNat_natCast]
  have hsl : (sgT p.1).length ≤ 3 := by rw [hst]; exact (by decide : ∀ o : Fin 19, ((sgs[o.val]?.getD ([], 0)).1).length ≤ 3) ⟨o1, hl1⟩
  rw [← hst] at HS
  rw [HR.out]
  generalize sgT p.1 = sg at *
  obtain ⟨NA, hNA⟩ : ∃ N, S a = N := ⟨_, rfl⟩
  obtain ⟨NS, hNS⟩ : ∃ N, S sg = N := ⟨_, rfl⟩
  obtain ⟨NB, hNB⟩ : ∃ N, S b = N := ⟨_, rfl⟩
  have hb1 : S [40, 32] = ⟨#[40, 32]⟩ := rfl
  have hb2 : S [32, 41] = ⟨#[32, 41]⟩ := rfl
  have hb3 : S [32] = ⟨#[32]⟩ := rfl
  obtain ⟨N1, hN1⟩ : ∃ N, S ([40, 32] ++ a) = N := ⟨_, rfl⟩
  obtain ⟨k1, z1⟩ := cat_of ([40, 32]) (a) (by simp; omega) hb1 hNA hN1
  obtain ⟨N2, hN2⟩ : ∃ N, S (brk a) = N := ⟨_, rfl⟩
  obtain ⟨k2, z2⟩ := cat_of ([40, 32] ++ a) ([32, 41]) (by simp; omega) hN1 hb2 hN2
  obtain ⟨N5, hN5⟩ : ∃ N, S (brk a ++ [32]) = N := ⟨_, rfl⟩
  obtain ⟨k5, z5⟩ := cat_of (brk a) ([32]) (by simp [brk]; omega) hN2 hb3 hN5
  obtain ⟨N6, hN6⟩ : ∃ N, S ((brk a ++ [32]) ++ sg) = N := ⟨_, rfl⟩
  obtain ⟨k6, z6⟩ := cat_of ((brk a ++ [32])) (sg) (by simp [brk]; omega) hN5 hNS hN6
  obtain ⟨N7, hN7⟩ : ∃ N, S (((brk a ++ [32]) ++ sg) ++ [32]) = N := ⟨_, rfl⟩
  obtain ⟨k7, z7⟩ := cat_of (((brk a ++ [32]) ++ sg)) ([32]) (by simp [brk]; omega) hN6 hb3 hN7
  obtain ⟨N8, hN8⟩ : ∃ N, S ((((brk a ++ [32]) ++ sg) ++ [32]) ++ b) = N := ⟨_, rfl⟩
  obtain ⟨k8, z8⟩ := cat_of ((((brk a ++ [32]) ++ sg) ++ [32])) (b) (by simp [brk]; omega) hN7 hNB hN8
  have HN : Hid (S ((((brk a ++ [32]) ++ sg) ++ [32]) ++ b) = N8) := hN8
  rw [hNA, hNB]
  rw [hNS] at HS
  clear hN5 hN6 hN7 hN8 hNA hNB hNS hb1 hb2 hb3 hst hsl hN1 hN2
  rw [hB2] at d2 HW HP
  rw [ho1] at d0 HW HP
  have ib : ¬ (jb : Int) < 0 := by omega
  have e1 : ¬ (o1 : Int) = 1 := by omega
  have e2 : ¬ (o1 : Int) = 2 := by omega
  have e5 : ¬ (o1 : Int) = 5 := by omega
  have f1 : ((o1 : Int) == 1) = false := beq_eq_false_iff_ne.2 e1
  have f2 : ((o1 : Int) == 2) = false := beq_eq_false_iff_ne.2 e2
  have f5 : ((o1 : Int) == 5) = false := beq_eq_false_iff_ne.2 e5
  have i5 : (0 : Int) ≤ (o1 : Int) := by omega
  have i6 : (o1 : Int) < 19 := by omega
  generalize p.2.1 = p1 at *
  generalize p.2.2.2.1 = p3 at *
  generalize p.2.2.2.2.1 = p4 at *
  generalize p.2.2.2.2.2 = p5 at *
  clear hp hop hwg hf hg hE hB2 h3 hh ha hb HR ho
  go_enter Tryz.func27, Tryz.ntmps27
  go_wp2_with (first
    | (go_at_call 54; rw [HW.out]; refine CL.mono ?_; rintro e w2 ⟨rfl, hb2⟩; (have H2 : Hid (Below w.heap.size w w2) := bel_of HB1.out hb2 (Nat.le_refl _)); (have HP2 : Hid (Below W1.heap.size W1 w2) := hb2); have s1 := HS.out w2 H2.out; obtain ⟨q0, q2⟩ := HP.out w2 hb2; clear hb2 CL)
    | (go_at_call 55; refine (CR.out w2 HP2.out).mono ?_; rintro e w3 ⟨rfl, hb3⟩; (have H3 : Hid (Below w.heap.size w w3) := bel_of H2.out hb3 (Nat.le_refl _)); clear hb3))
  go_ret
  rw [HN.out]
  exact ⟨rfl, H3.out⟩

set_option maxHeartbeats 4000000 in
set_option maxRecDepth 100000 in
theorem wri_bi_ny {w : World} {B : Nat} {v : Value} {l : List P10} (hE : Es w v l) (hg : Gx B w) (hB : B ≤ w.heap.size) {i : Nat} {p : P10} (hf : Wf l i p) (hwg : Wg i p) (a b : List UInt8) (ha : a.length ≤ 1000000) (hb : b.length ≤ 1000000) (hL : lbr l p = false) (hRt : rbr l p = true) (hh : hnd p.1 = 2) : Calls Tryz.prog 27 #[v, .int .i64 (i : Int), .string (S a), .string (S b)] w fun e w' => e = .returned (.string (S (wrt l p a b))) ∧ Below w.heap.size w w' := by
  obtain ⟨jb, -, hB2⟩ := (hwg.t hh).2
  have h3 : 6 ≤ p.1 ∧ p.1 ≤ 18 := by have := hf.op.2; rcases hnd_cases hf.op with ⟨q, -⟩ | ⟨q, -⟩ | ⟨-, q⟩ <;> omega
  have ho : ¬ p.1 = 5 := by omega
  have HR : Hid (wrt l p a b = (((((a) ++ [32]) ++ sgT p.1) ++ [32]) ++ (brk b))) := by show _ = _; unfold wrt; rw [if_neg (by omega), if_neg (by omega), if_neg (by omega), if_neg (fun e => e.elim ho (fun e => by rw [hL] at e; cases e)), if_pos hRt]
  obtain ⟨hi, hp⟩ := List.getElem?_eq_some_iff.1 hf.at'
  have hop := hf.op
  obtain ⟨bl, off, cap, hv, hbl, -⟩ := hE.at hi
  subst hv
  have hbb : Below w.heap.size w (w.alloc (.cells #[.int .i64 p.1, .int .i64 p.2.1, .int .i64 p.2.2.1, .int .i64 p.2.2.2.1, .int .i64 p.2.2.2.2.1, .string (S p.2.2.2.2.2)] 68)) := (Below.refl _ w).alloc (Nat.le_refl _) _
  have hc : w.cell? ⟨bl, off + i * 6, none⟩ = some (.int .i64 p.1) ∧ w.cell? ⟨bl, off + i * 6 + 1, none⟩ = some (.int .i64 p.2.1) ∧ w.cell? ⟨bl, off + i * 6 + 2, none⟩ = some (.int .i64 p.2.2.1) ∧ w.cell? ⟨bl, off + i * 6 + 3, none⟩ = some (.int .i64 p.2.2.2.1) ∧ w.cell? ⟨bl, off + i * 6 + 4, none⟩ = some (.int .i64 p.2.2.2.2.1) ∧ w.cell? ⟨bl, off + i * 6 + 5, none⟩ = some (.string (S p.2.2.2.2.2)) := by
    obtain ⟨b', off', cap', e', -, hc⟩ := hE.at hi
    cases e'
    have := hc i hi
    rw [hp] at this
    exact this
  obtain ⟨d0, d1, d2, d3, d4, d5⟩ := hc
  have i1 : (0 : Int) ≤ (i : Int) := by omega
  have i2 : (i : Int) < (l.length : Int) := by omega
  obtain ⟨W1, hW1⟩ : ∃ W1, w.alloc (.cells #[.int .i64 p.1, .int .i64 p.2.1, .int .i64 p.2.2.1, .int .i64 p.2.2.2.1, .int .i64 p.2.2.2.2.1, .string (S p.2.2.2.2.2)] 68) = W1 := ⟨_, rfl⟩
  rw [hW1] at hbb
  have HB1 : Hid (Below w.heap.size w W1) := hbb
  have HP : Hid (∀ W, Below W1.heap.size W1 W → W.cell? ⟨w.heap.size, 0, none⟩ = some (.int .i64 p.1) ∧ W.cell? ⟨w.heap.size, 2, none⟩ = some (.int .i64 p.2.2.1)) := fun W hW => by
    have h1 : W1.heap[w.heap.size]? = some (.cells #[.int .i64 p.1, .int .i64 p.2.1, .int .i64 p.2.2.1, .int .i64 p.2.2.2.1, .int .i64 p.2.2.2.2.1, .string (S p.2.2.2.2.2)] 68 (0, 0)) := by rw [← hW1]; exact heap_alloc_new w _
    have h2 := (hW.block w.heap.size (Array.getElem?_eq_some_iff.1 h1).1).trans h1
    exact ⟨by simp [World.cell?, h2], by simp [World.cell?, h2]⟩
  have HW : Hid (_ = W1) := hW1
  clear hbb hW1
  have CL := left_wf (hE.below HB1.out) (hg.below (HB1.out.mono hB)) hf (by omega)
  rw [hL] at CL
  have CR : Hid (∀ W, Below W1.heap.size W1 W → _) := fun W hW => right_wf ((hE.below HB1.out).below hW) (hg.below ((bel_of HB1.out hW (Nat.le_refl _)).mono hB)) hf hh
  rw [hRt] at CR
  obtain ⟨o1, ho1⟩ : ∃ o1 : Nat, p.1 = (o1 : Int) := ⟨p.1.toNat, by omega⟩
  have hl1 : o1 < 19 := by omega
  have HS : Hid (∀ W, Below w.heap.size w W → _) := fun W hW => (sg_cell (hg.below (hW.mono hB)) o1 hl1).1
  have hst : sgT p.1 = (sgs[o1]?.getD ([], 0)).1 := by unfold sgT; rw [ho1, Int.toNat_natCast]
  have hsl : (sgT p.1).length ≤ 3 := by rw [hst]; exact (by decide : ∀ o : Fin 19, ((sgs[o.val]?.getD ([], 0)).1).length ≤ 3) ⟨o1, hl1⟩
  rw [← hst] at HS
  rw [HR.out]
  generalize sgT p.1 = sg at *
  obtain ⟨NA, hNA⟩ : ∃ N, S a = N := ⟨_, rfl⟩
  obtain ⟨NS, hNS⟩ : ∃ N, S sg = N := ⟨_, rfl⟩
  obtain ⟨NB, hNB⟩ : ∃ N, S b = N := ⟨_, rfl⟩
  have hb1 : S [40, 32] = ⟨#[40, 32]⟩ := rfl
  have hb2 : S [32, 41] = ⟨#[32, 41]⟩ := rfl
  have hb3 : S [32] = ⟨#[32]⟩ := rfl
  obtain ⟨N3, hN3⟩ : ∃ N, S ([40, 32] ++ b) = N := ⟨_, rfl⟩
  obtain ⟨k3, z3⟩ := cat_of ([40, 32]) (b) (by simp; omega) hb1 hNB hN3
  obtain ⟨N4, hN4⟩ : ∃ N, S (brk b) = N := ⟨_, rfl⟩
  obtain ⟨k4, z4⟩ := cat_of ([40, 32] ++ b) ([32, 41]) (by simp; omega) hN3 hb2 hN4
  obtain ⟨N5, hN5⟩ : ∃ N, S (a ++ [32]) = N := ⟨_, rfl⟩
  obtain ⟨k5, z5⟩ := cat_of (a) ([32]) (by simp; omega) hNA hb3 hN5
  obtain ⟨N6, hN6⟩ : ∃ N, S ((a ++ [32]) ++ sg) = N := ⟨_, rfl⟩
  obtain ⟨k6, z6⟩ := cat_of ((a ++ [32])) (sg) (by simp; omega) hN5 hNS hN6
  obtain ⟨N7, hN7⟩ : ∃ N, S (((a ++ [32]) ++ sg) ++ [32]) = N := ⟨_, rfl⟩
  obtain ⟨k7, z7⟩ := cat_of (((a ++ [32]) ++ sg)) ([32]) (by simp; omega) hN6 hb3 hN7
  obtain ⟨N8, hN8⟩ : ∃ N, S ((((a ++ [32]) ++ sg) ++ [32]) ++ brk b) = N := ⟨_, rfl⟩
  obtain ⟨k8, z8⟩ := cat_of ((((a ++ [32]) ++ sg) ++ [32])) (brk b) (by simp [brk]; omega) hN7 hN4 hN8
  have HN : Hid (S ((((a ++ [32]) ++ sg) ++ [32]) ++ brk b) = N8) := hN8
  rw [hNA, hNB]
  rw [hNS] at HS
  clear hN5 hN6 hN7 hN8 hNA hNB hNS hb1 hb2 hb3 hst hsl hN3 hN4
  rw [hB2] at d2 HW HP
  rw [ho1] at d0 HW HP
  have ib : ¬ (jb : Int) < 0 := by omega
  have e1 : ¬ (o1 : Int) = 1 := by omega
  have e2 : ¬ (o1 : Int) = 2 := by omega
  have e5 : ¬ (o1 : Int) = 5 := by omega
  have f1 : ((o1 : Int) == 1) = false := beq_eq_false_iff_ne.2 e1
  have f2 : ((o1 : Int) == 2) = false := beq_eq_false_iff_ne.2 e2
  have f5 : ((o1 : Int) == 5) = false := beq_eq_false_iff_ne.2 e5
  have i5 : (0 : Int) ≤ (o1 : Int) := by omega
  have i6 : (o1 : Int) < 19 := by omega
  generalize p.2.1 = p1 at *
  generalize p.2.2.2.1 = p3 at *
  generalize p.2.2.2.2.1 = p4 at *
  generalize p.2.2.2.2.2 = p5 at *
  clear hp hop hwg hf hg hE hB2 h3 hh ha hb HR ho
  go_enter Tryz.func27, Tryz.ntmps27
  go_wp2_with (first
    | (go_at_call 54; rw [HW.out]; refine CL.mono ?_; rintro e w2 ⟨rfl, hb2⟩; (have H2 : Hid (Below w.heap.size w w2) := bel_of HB1.out hb2 (Nat.le_refl _)); (have HP2 : Hid (Below W1.heap.size W1 w2) := hb2); have s1 := HS.out w2 H2.out; obtain ⟨q0, q2⟩ := HP.out w2 hb2; clear hb2 CL)
    | (go_at_call 55; refine (CR.out w2 HP2.out).mono ?_; rintro e w3 ⟨rfl, hb3⟩; (have H3 : Hid (Below w.heap.size w w3) := bel_of H2.out hb3 (Nat.le_refl _)); clear hb3))
  go_ret
  rw [HN.out]
  exact ⟨rfl, H3.out⟩

set_option maxHeartbeats 4000000 in
set_option maxRecDepth 100000 in
theorem wri_bi_nn {w : World} {B : Nat} {v : Value} {l : List P10} (hE : Es w v l) (hg : Gx B w) (hB : B ≤ w.heap.size) {i : Nat} {p : P10} (hf : Wf l i p) (hwg : Wg i p) (a b : List UInt8) (ha : a.length ≤ 1000000) (hb : b.length ≤ 1000000) (hL : lbr l p = false) (hRt : rbr l p = false) (hh : hnd p.1 = 2) : Calls Tryz.prog 27 #[v, .int .i64 (i : Int), .string (S a), .string (S b)] w fun e w' => e = .returned (.string (S (wrt l p a b))) ∧ Below w.heap.size w w' := by
  obtain ⟨jb, -, hB2⟩ := (hwg.t hh).2
  have h3 : 6 ≤ p.1 ∧ p.1 ≤ 18 := by have := hf.op.2; rcases hnd_cases hf.op with ⟨q, -⟩ | ⟨q, -⟩ | ⟨-, q⟩ <;> omega
  have ho : ¬ p.1 = 5 := by omega
  have HR : Hid (wrt l p a b = (((((a) ++ [32]) ++ sgT p.1) ++ [32]) ++ (b))) := by show _ = _; unfold wrt; rw [if_neg (by omega), if_neg (by omega), if_neg (by omega), if_neg (fun e => e.elim ho (fun e => by rw [hL] at e; cases e)), if_neg (by rw [hRt]; simp)]
  obtain ⟨hi, hp⟩ := List.getElem?_eq_some_iff.1 hf.at'
  have hop := hf.op
  obtain ⟨bl, off, cap, hv, hbl, -⟩ := hE.at hi
  subst hv
  have hbb : Below w.heap.size w (w.alloc (.cells #[.int .i64 p.1, .int .i64 p.2.1, .int .i64 p.2.2.1, .int .i64 p.2.2.2.1, .int .i64 p.2.2.2.2.1, .string (S p.2.2.2.2.2)] 68)) := (Below.refl _ w).alloc (Nat.le_refl _) _
  have hc : w.cell? ⟨bl, off + i * 6, none⟩ = some (.int .i64 p.1) ∧ w.cell? ⟨bl, off + i * 6 + 1, none⟩ = some (.int .i64 p.2.1) ∧ w.cell? ⟨bl, off + i * 6 + 2, none⟩ = some (.int .i64 p.2.2.1) ∧ w.cell? ⟨bl, off + i * 6 + 3, none⟩ = some (.int .i64 p.2.2.2.1) ∧ w.cell? ⟨bl, off + i * 6 + 4, none⟩ = some (.int .i64 p.2.2.2.2.1) ∧ w.cell? ⟨bl, off + i * 6 + 5, none⟩ = some (.string (S p.2.2.2.2.2)) := by
    obtain ⟨b', off', cap', e', -, hc⟩ := hE.at hi
    cases e'
    have := hc i hi
    rw [hp] at this
    exact this
  obtain ⟨d0, d1, d2, d3, d4, d5⟩ := hc
  have i1 : (0 : Int) ≤ (i : Int) := by omega
  have i2 : (i : Int) < (l.length : Int) := by omega
  obtain ⟨W1, hW1⟩ : ∃ W1, w.alloc (.cells #[.int .i64 p.1, .int .i64 p.2.1, .int .i64 p.2.2.1, .int .i64 p.2.2.2.1, .int .i64 p.2.2.2.2.1, .string (S p.2.2.2.2.2)] 68) = W1 := ⟨_, rfl⟩
  rw [hW1] at hbb
  have HB1 : Hid (Below w.heap.size w W1) := hbb
  have HP : Hid (∀ W, Below W1.heap.size W1 W → W.cell? ⟨w.heap.size, 0, none⟩ = some (.int .i64 p.1) ∧ W.cell? ⟨w.heap.size, 2, none⟩ = some (.int .i64 p.2.2.1)) := fun W hW => by
    have h1 : W1.heap[w.heap.size]? = some (.cells #[.int .i64 p.1, .int .i64 p.2.1, .int .i64 p.2.2.1, .int .i64 p.2.2.2.1, .int .i64 p.2.2.2.2.1, .string (S p.2.2.2.2.2)] 68 (0, 0)) := by rw [← hW1]; exact heap_alloc_new w _
    have h2 := (hW.block w.heap.size (Array.getElem?_eq_some_iff.1 h1).1).trans h1
    exact ⟨by simp [World.cell?, h2], by simp [World.cell?, h2]⟩
  have HW : Hid (_ = W1) := hW1
  clear hbb hW1
  have CL := left_wf (hE.below HB1.out) (hg.below (HB1.out.mono hB)) hf (by omega)
  rw [hL] at CL
  have CR : Hid (∀ W, Below W1.heap.size W1 W → _) := fun W hW => right_wf ((hE.below HB1.out).below hW) (hg.below ((bel_of HB1.out hW (Nat.le_refl _)).mono hB)) hf hh
  rw [hRt] at CR
  obtain ⟨o1, ho1⟩ : ∃ o1 : Nat, p.1 = (o1 : Int) := ⟨p.1.toNat, by omega⟩
  have hl1 : o1 < 19 := by omega
  have HS : Hid (∀ W, Below w.heap.size w W → _) := fun W hW => (sg_cell (hg.below (hW.mono hB)) o1 hl1).1
  have hst : sgT p.1 = (sgs[o1]?.getD ([], 0)).1 := by unfold sgT; rw [ho1, Int.toNat_natCast]
  have hsl : (sgT p.1).length ≤ 3 := by rw [hst]; exact (by decide : ∀ o : Fin 19, ((sgs[o.val]?.getD ([], 0)).1).length ≤ 3) ⟨o1, hl1⟩
  rw [← hst] at HS
  rw [HR.out]
  generalize sgT p.1 = sg at *
  obtain ⟨NA, hNA⟩ : ∃ N, S a = N := ⟨_, rfl⟩
  obtain ⟨NS, hNS⟩ : ∃ N, S sg = N := ⟨_, rfl⟩
  obtain ⟨NB, hNB⟩ : ∃ N, S b = N := ⟨_, rfl⟩
  have hb3 : S [32] = ⟨#[32]⟩ := rfl
  obtain ⟨N5, hN5⟩ : ∃ N, S (a ++ [32]) = N := ⟨_, rfl⟩
  obtain ⟨k5, z5⟩ := cat_of (a) ([32]) (by simp; omega) hNA hb3 hN5
  obtain ⟨N6, hN6⟩ : ∃ N, S ((a ++ [32]) ++ sg) = N := ⟨_, rfl⟩
  obtain ⟨k6, z6⟩ := cat_of ((a ++ [32])) (sg) (by simp; omega) hN5 hNS hN6
  obtain ⟨N7, hN7⟩ : ∃ N, S (((a ++ [32]) ++ sg) ++ [32]) = N := ⟨_, rfl⟩
  obtain ⟨k7, z7⟩ := cat_of (((a ++ [32]) ++ sg)) ([32]) (by simp; omega) hN6 hb3 hN7
  obtain ⟨N8, hN8⟩ : ∃ N, S ((((a ++ [32]) ++ sg) ++ [32]) ++ b) = N := ⟨_, rfl⟩
  obtain ⟨k8, z8⟩ := cat_of ((((a ++ [32]) ++ sg) ++ [32])) (b) (by simp; omega) hN7 hNB hN8
  have HN : Hid (S ((((a ++ [32]) ++ sg) ++ [32]) ++ b) = N8) := hN8
  rw [hNA, hNB]
  rw [hNS] at HS
  clear hN5 hN6 hN7 hN8 hNA hNB hNS hb3 hst hsl
  rw [hB2] at d2 HW HP
  rw [ho1] at d0 HW HP
  have ib : ¬ (jb : Int) < 0 := by omega
  have e1 : ¬ (o1 : Int) = 1 := by omega
  have e2 : ¬ (o1 : Int) = 2 := by omega
  have e5 : ¬ (o1 : Int) = 5 := by omega
  have f1 : ((o1 : Int) == 1) = false := beq_eq_false_iff_ne.2 e1
  have f2 : ((o1 : Int) == 2) = false := beq_eq_false_iff_ne.2 e2
  have f5 : ((o1 : Int) == 5) = false := beq_eq_false_iff_ne.2 e5
  have i5 : (0 : Int) ≤ (o1 : Int) := by omega
  have i6 : (o1 : Int) < 19 := by omega
  generalize p.2.1 = p1 at *
  generalize p.2.2.2.1 = p3 at *
  generalize p.2.2.2.2.1 = p4 at *
  generalize p.2.2.2.2.2 = p5 at *
  clear hp hop hwg hf hg hE hB2 h3 hh ha hb HR ho
  go_enter Tryz.func27, Tryz.ntmps27
  go_wp2_with (first
    | (go_at_call 54; rw [HW.out]; refine CL.mono ?_; rintro e w2 ⟨rfl, hb2⟩; (have H2 : Hid (Below w.heap.size w w2) := bel_of HB1.out hb2 (Nat.le_refl _)); (have HP2 : Hid (Below W1.heap.size W1 w2) := hb2); have s1 := HS.out w2 H2.out; obtain ⟨q0, q2⟩ := HP.out w2 hb2; clear hb2 CL)
    | (go_at_call 55; refine (CR.out w2 HP2.out).mono ?_; rintro e w3 ⟨rfl, hb3⟩; (have H3 : Hid (Below w.heap.size w w3) := bel_of H2.out hb3 (Nat.le_refl _)); clear hb3))
  go_ret
  rw [HN.out]
  exact ⟨rfl, H3.out⟩

theorem written_any {w : World} {B : Nat} {v : Value} {l : List P10} (hE : Es w v l) (hg : Gx B w) (hB : B ≤ w.heap.size) {i : Nat} {p : P10} (hf : Wf l i p) (hwg : Wg i p) (a b : List UInt8) (ha : a.length ≤ 1000000) (hb : b.length ≤ 1000000) (hv9 : Gv B w) (hk : Vk p.2.2.2) : Calls Tryz.prog 27 #[v, .int .i64 (i : Int), .string (S a), .string (S b)] w fun e w' => e = .returned (.string (S (wrt l p a b))) ∧ Below w.heap.size w w' := by
  rcases hnd_cases hf.op with ⟨q, r⟩ | ⟨q, r⟩ | ⟨q, r⟩
  · rcases (show p.1 = 1 ∨ p.1 = 2 by have := hf.op.1; omega) with r | r
    · exact wri_val hE hB hf a b hv9 hk r
    · exact wri_var hE hf a b r
  · by_cases h5 : p.1 = 5
    · exact wri_un_5 hE hg hB hf hwg a b ha h5 q
    · cases hL : lbr l p with
      | true => exact wri_un_y hE hg hB hf hwg a b ha h5 hL q
      | false => exact wri_un_n hE hg hB hf hwg a b ha h5 hL q
  · cases hL : lbr l p with
    | true => cases hR : rbr l p with
      | true => exact wri_bi_yy hE hg hB hf hwg a b ha hb hL hR q
      | false => exact wri_bi_yn hE hg hB hf hwg a b ha hb hL hR q
    | false => cases hR : rbr l p with
      | true => exact wri_bi_ny hE hg hB hf hwg a b ha hb hL hR q
      | false => exact wri_bi_nn hE hg hB hf hwg a b ha hb hL hR q
end Go.Proofs.YtpbfdaijnndilaaGreatDoor.x10

/-
  A log that is nil.
-/
import Derived.Test.YteifkkceldlfnaaGreatDoorG6Shown
import Derived.WalkMore
namespace Go.Proofs.YteifkkceldlfnaaGreatDoor
open Go.RowKit Go.Shelf Go.Sort
open Go.Lib hiding intOf
attribute [local go_sem] Oper.semAt_some

theorem gAppend_nil (av : Value) (w : World) : Calls Tryz.prog 24 #[.pointer none, av] w fun e w' => e = .returned (.tuple #[.int .u64 0, .int .i64 1]) ∧ w' = w := by
  go_enter Tryz.func24, Tryz.ntmps24
  go_wp2
  go_ret2
  exact ⟨rfl, rfl⟩
theorem gFlush_nil (w : World) : Calls Tryz.prog 25 #[.pointer none] w fun e w' => e = .returned (.int .i64 1) ∧ w' = w := by
  go_enter Tryz.func25, Tryz.ntmps25
  go_wp2
  go_ret
  exact ⟨rfl, rfl⟩
theorem gRead_nil (n : Int) (w : World) : Calls Tryz.prog 27 #[.pointer none, .int .u64 n] w fun e w' => e = .returned (.tuple #[.string ⟨#[]⟩, .int .i64 1]) ∧ w' = w := by
  go_enter Tryz.func27, Tryz.ntmps27
  go_wp2
  go_ret2
  exact ⟨rfl, rfl⟩
theorem gDrop_nil (n : Int) (w : World) : Calls Tryz.prog 48 #[.pointer none, .int .u64 n] w fun e w' => e = .returned (.int .i64 1) ∧ w' = w := by
  go_enter Tryz.func48, Tryz.ntmps48
  go_wp2
  go_ret
  exact ⟨rfl, rfl⟩
theorem gFirst_nil (w : World) : Calls Tryz.prog 15 #[.pointer none] w fun e w' => e = .returned (.int .u64 0) ∧ w' = w := by
  go_enter Tryz.func15, Tryz.ntmps15
  go_wp2
  go_ret
  exact ⟨rfl, rfl⟩
theorem gNext_nil (w : World) : Calls Tryz.prog 17 #[.pointer none] w fun e w' => e = .returned (.int .u64 0) ∧ w' = w := by
  go_enter Tryz.func17, Tryz.ntmps17
  go_wp2
  go_ret
  exact ⟨rfl, rfl⟩
theorem gSure_nil (w : World) : Calls Tryz.prog 18 #[.pointer none] w fun e w' => e = .returned (.int .u64 0) ∧ w' = w := by
  go_enter Tryz.func18, Tryz.ntmps18
  go_wp2
  go_ret
  exact ⟨rfl, rfl⟩
theorem wpIn_scope {n : Nat} {P : Program} {c : Code} {Q : Exit → Act → World → Prop} {a : Act} {w : World} (h : c.wpIn Fence.wide n P (Exit.noGoto Q) a w) : (Code.scope c).wpIn Fence.wide n P Q a w := wpIn_wide.2 (wp_scope_straight (wpIn_wide.1 h))
/-- a record with its position, as a range tells it -/
abbrev encE1 (x : Nat × List UInt8) : Value := .int .u64 (x.1 : Int)
abbrev encE2 (x : Nat × List UInt8) : Value := .string (S x.2)
set_option maxRecDepth 100000 in
set_option maxHeartbeats 2000000 in
theorem fromN_runs {W1 : World} {b2 b3 : Nat} (hb : Bx W1 b2 (.pointer none) 28) : Runs (fun x => #[encE1 x, encE2 x]) 63 #[.pointer (some ⟨b2, 0, none⟩), .pointer (some ⟨b3, 0, none⟩)] [] (fun k => k = b2) W1 := by
  intro y J Jx hC
  have HC : Hid (Cons (fun x => #[encE1 x, encE2 x]) y [] (fun k => k = b2) W1 J Jx) := hC
  have hBa : Below W1.heap.size W1 (W1.alloc (.cells #[y] 124)) := (Below.refl _ W1).alloc (Nat.le_refl _) _
  have hc0 := (hb.below hBa hb.lt).cell
  have HJ : Hid (J (W1.alloc (.cells #[y] 124)).heap.size [] (W1.alloc (.cells #[y] 124))) := hC.start _ hBa
  refine (callsIn_wide (n := 9)).1 ?_
  refine callsIn_of_wp_marks Tryz.func63 rfl trivial ?_ rfl
  simp only [Tryz.ntmps63, List.size_toArray, List.length_cons, List.length_nil, Nat.reduceAdd, Nat.reduceSub, Array.replicate_succ, Array.replicate_zero, List.push_toArray, List.append_toArray, List.nil_append, List.cons_append]
  clear hC hb hBa
  obtain ⟨yf, yc, hyf⟩ := HC.out.yk.frm
  subst hyf
  gi_wp2
  refine wpIn_scope ?_
  gi_wp2
  rw [Exit.noGoto_ret]
  exact ⟨_, results_none rfl _ _ _, ⟨_, rfl⟩, .inl ⟨_, HJ.out⟩⟩
theorem fromN_sq {w : World} {b2 b3 : Nat} (hb : Bx w b2 (.pointer none) 28) : Sq (fun x => #[encE1 x, encE2 x]) w (.func (.func 63) #[] #[.pointer (some ⟨b2, 0, none⟩), .pointer (some ⟨b3, 0, none⟩)]) [] (fun k => k = b2) :=
  ⟨_, _, rfl, enters_of Tryz.func63 (by kernel_rfl) rfl, fun k hk => by subst hk; exact hb.lt, fun _ hk => fromN_runs (kq_bx hk rfl hb)⟩
/-- what From makes: two boxes and a function -/
theorem From_mk (p : Option Addr) (n : Int) (w : World) : Calls Tryz.prog 26 #[.pointer p, .int .u64 n] w fun e w' => e = .returned (.func (.func 63) #[] #[.pointer (some ⟨w.heap.size, 0, none⟩), .pointer (some ⟨w.heap.size + 1, 0, none⟩)]) ∧
    Bx w' w.heap.size (.pointer p) 28 ∧ Bx w' (w.heap.size + 1) (.int .u64 n) 36 ∧ Below w.heap.size w w' ∧ w'.heap.size = w.heap.size + 2 := by
  have hmf := mk_func
  obtain ⟨W0, hW0⟩ : ∃ W0, W0 = (w.alloc (.cells #[.pointer p] 28)).alloc (.cells #[.int .u64 n] 36) := ⟨_, rfl⟩
  have HK : Hid (Bx W0 w.heap.size (.pointer p) 28 ∧ Bx W0 (w.heap.size + 1) (.int .u64 n) 36 ∧ Below w.heap.size w W0 ∧ W0.heap.size = w.heap.size + 2) := by
    rw [hW0]
    refine ⟨(Bx.new w _ _).alloc _, ?_, ((Below.refl _ w).alloc (Nat.le_refl _) _).alloc (by simp) _, by simp⟩
    have := Bx.new (w.alloc (.cells #[.pointer p] 28)) (.int .u64 n) 36
    rwa [World.size_alloc] at this
  have HW : Hid (W0 = (w.alloc (.cells #[.pointer p] 28)).alloc (.cells #[.int .u64 n] 36)) := hW0
  clear hW0
  go_enter Tryz.func26, Tryz.ntmps26
  go_wp2
  go_ret
  rw [← HW.out]
  exact ⟨rfl, HK.out⟩
end Go.Proofs.YteifkkceldlfnaaGreatDoor

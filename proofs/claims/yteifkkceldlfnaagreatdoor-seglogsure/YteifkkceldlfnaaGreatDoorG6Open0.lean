/-
  Package seglog's Open of a disk without files; and of what it refuses.
-/
import Derived.Test.YteifkkceldlfnaaGreatDoorG6Read
namespace Go.Proofs.YteifkkceldlfnaaGreatDoor
open Go.RowKit Go.Shelf Go.Sort
open Go.Lib hiding intOf
variable {w w' w1 w2 w3 wr : World} {B lb d g n : Nat} {lg lg' : Lg} {X Y : Nat → Prop} {st st' : Ab} {pre : ByteArray} {p : Int} {off : Bool}

theorem sort_none (pa : Option Addr) (c : Nat) (fv : Value) (w : World) : Calls Tryz.prog 98 #[.slice pa 0 c, fv] w fun e w' => e = .returned (.tuple #[]) ∧ w' = w := AnyF.slices_SortFunc_none sort0Lay pa c fv w
set_option maxHeartbeats 2000000 in
theorem named0 (h : St w B d ([], p, off)) (pre : ByteArray) : Calls Tryz.prog 68 #[.pointer (some ⟨d, 0, none⟩), .string pre] w fun e w' => e = .returned (.slice none 0 0) ∧ Below w.heap.size w w' := by
  have hN := sNames h
  have hS := sort_none none 0 (.func (.func 99) #[] #[])
  clear h
  go_enter Tryz.func68, Tryz.ntmps68
  go_wp2_with (go_at_call 41; refine hN.mono ?_; rintro e w1 ⟨v, rfl, hr, hb⟩; obtain ⟨a, c, rfl, -⟩ := row_slice hr; have HB : Hid _ := hb; clear hr hb)
  go_loopw [5, 13] (fun vf vi wr => vf = .slice none 0 0 ∧ vi = .int .i64 0 ∧ wr = w1) (fun _ _ _ => 0)
  case atStart => exact ⟨rfl, rfl, rfl⟩
  case round =>
    obtain ⟨rfl, rfl, rfl⟩ := hrel
    go_wp2_with (go_at_call 98; refine (hS _).mono ?_; rintro e w2 ⟨rfl, rfl⟩)
    go_ret
    exact ⟨rfl, HB.out⟩
set_option maxHeartbeats 2000000 in
theorem load0 (h : St w B d ([], p, off)) (pre : ByteArray) : Calls Tryz.prog 30 #[.pointer (some ⟨d, 0, none⟩), .string pre] w fun e w' => e = .returned (.tuple #[.slice none 0 0, .bool false, .int .i64 0]) ∧ Below w.heap.size w w' := by
  have hN := named0 h pre
  clear h
  go_enter Tryz.func30, Tryz.ntmps30
  go_wp2_with (go_at_call 68; refine hN.mono ?_; rintro e w1 ⟨rfl, hb⟩; have HB : Hid _ := hb; clear hb)
  go_loopw [8, 19] (fun vf vi wr => vf = .bool false ∧ vi = .int .i64 0 ∧ wr = w1) (fun _ _ _ => 0)
  case atStart => exact ⟨rfl, rfl, rfl⟩
  case round =>
    obtain ⟨rfl, rfl, rfl⟩ := hrel
    go_wp2
    go_ret3
    exact ⟨rfl, HB.out⟩
theorem dskEql (g : Nat) (W : World) : (binOp .eql 24 (.pointer (some ⟨g, 0, none⟩)) (.pointer none)).run Tryz.prog W = .ok (.bool false) W := by kernel_rfl
/-- a log without segments -/
def lg0 (pre : ByteArray) (sz : Nat) : Lg := ⟨pre, sz, [], 1, 1⟩
theorem lg0_ok {sz : Nat} (hp : isP pre = true) (h1 : 64 ≤ sz) (h2 : sz ≤ 65536) : Ok (lg0 pre sz) := by
  unfold isP at hp
  simp only [Bool.and_eq_true, decide_eq_true_eq] at hp
  exact ⟨trivial, fun _ h => (by cases h), ⟨show 1 ≤ 1 by decide, show 1 ≤ 1099511627777 by decide⟩, fun _ => rfl, Nat.le_refl _, ⟨h1, h2⟩, hp.1, fun _ h => (by cases h), fun _ h => (by cases h)⟩
set_option maxRecDepth 100000 in
set_option maxHeartbeats 4000000 in
theorem Open0 {sz : Nat} (h : St w B d ([], p, false)) (hp : isP pre = true) (h1 : 64 ≤ sz) (h2 : sz ≤ 65536) : Calls Tryz.prog 9 #[.pointer (some ⟨d, 0, none⟩), .string pre, .int .i64 (sz : Int)] w fun e w' =>
    ∃ lb, e = .returned (.tuple #[.pointer (some ⟨lb, 0, none⟩), .int .i64 0]) ∧ Ls (fun x => B ≤ x) w' B lb d (lg0 pre sz) ([], p, false) ∧ Below w.heap.size w w' := by
  have ok := lg0_ok hp h1 h2
  have hpz : pre.size ≤ 281474976710656 := by have := ok.pre.2; have e : (lg0 pre sz).pre = pre := rfl; rw [e] at this; omega
  have hq := dskEql d
  have cP := isPrefix_any pre w
  rw [hp] at cP
  have hBw : B ≤ w.heap.size := Nat.le_of_lt (Nat.lt_of_le_of_lt h.lt.1 h.lt.2)
  have cO := fun W (hW : Below w.heap.size w W) => sOff (h.below hW)
  have cL := fun W (hW : Below w.heap.size w W) => load0 (h.below hW) pre
  have k1 : ¬ (sz : Int) < 64 := by omega
  have k2 : ¬ (65536 : Int) < (sz : Int) := by omega
  have HF : Hid (∀ W, Below w.heap.size w W → ∀ (q : Nat), Lw ((((W.alloc (.cells #[.pointer (some ⟨d, 0, none⟩), .string pre, .int .i64 (sz : Int), .slice none 0 0, .int .u64 1, .int .u64 0] 82))).drewN q)) B W.heap.size d ⟨pre, sz, [], 1, 0⟩ [] (.slice none 0 0) ∧
      Ls (fun x => B ≤ x) ((((W.alloc (.cells #[.pointer (some ⟨d, 0, none⟩), .string pre, .int .i64 (sz : Int), .slice none 0 0, .int .u64 1, .int .u64 0] 82))).drewN q).setCell ⟨W.heap.size, 5, none⟩ (.int .u64 1)) B W.heap.size d (lg0 pre sz) ([], p, false) ∧
      Below w.heap.size w ((((W.alloc (.cells #[.pointer (some ⟨d, 0, none⟩), .string pre, .int .i64 (sz : Int), .slice none 0 0, .int .u64 1, .int .u64 0] 82))).drewN q).setCell ⟨W.heap.size, 5, none⟩ (.int .u64 1))) := fun W hW q => by
    have hb1 : Below w.heap.size w ((W.alloc (.cells #[.pointer (some ⟨d, 0, none⟩), .string pre, .int .i64 (sz : Int), .slice none 0 0, .int .u64 1, .int .u64 0] 82)).drewN q) := below_drewN' (hW.alloc hW.size _) q
    have W1 : Lw ((W.alloc (.cells #[.pointer (some ⟨d, 0, none⟩), .string pre, .int .i64 (sz : Int), .slice none 0 0, .int .u64 1, .int .u64 0] 82)).drewN q) B W.heap.size d ⟨pre, sz, [], 1, 0⟩ [] (.slice none 0 0) :=
      ⟨heap_alloc_new W _, World.ownsRow_nil _ _ _ _, fun _ h => (by cases h), List.Pairwise.nil, rfl, Nat.le_trans hBw hW.size⟩
    refine ⟨W1, ?_, ?_⟩
    · obtain ⟨es, mo, L, e⟩ := h.below hb1
      have C : Ch (fun x => x = W.heap.size) _ (((W.alloc (.cells #[.pointer (some ⟨d, 0, none⟩), .string pre, .int .i64 (sz : Int), .slice none 0 0, .int .u64 1, .int .u64 0] 82)).drewN q).setCell ⟨W.heap.size, 5, none⟩ (.int .u64 1)) := (Ch.refl _ ((W.alloc (.cells #[.pointer (some ⟨d, 0, none⟩), .string pre, .int .i64 (sz : Int), .slice none 0 0, .int .u64 1, .int .u64 0] 82)).drewN q)).setCell _ _ (fun _ => rfl)
      have W2 := W1.own (lg' := lg0 pre sz) C rfl rfl (six5 W1.hd _)
      exact ⟨es, mo, [], .slice none 0 0, L.ch C (fun x hx e => W1.not_ld L (.inl e) hx), e, W2, ok, fun x hx => (L.foot_lt hx).2, fun x hx => (W2.foot_lt hx).2⟩
    · exact hb1.trans (((Ch.refl (fun x => x = W.heap.size) _).setCell ⟨W.heap.size, 5, none⟩ _ (fun _ => rfl)).below (Nat.le_trans hW.size (by simp)) (fun k hk e => by have := hW.size; omega))
  clear h ok
  go_enter Tryz.func9, Tryz.ntmps9
  go_wp2_with (first
    | (go_at_call 28; refine cP.mono ?_; rintro e w1 ⟨rfl, hb1⟩; have HB1 : Hid (Below w.heap.size w w1) := hb1; clear hb1)
    | (go_at_call 29; refine (cO _ HB1.out).mono ?_; rintro e w2 ⟨rfl, rfl⟩)
    | (go_at_call 30; refine (cL _ HB1.out).mono ?_; rintro e w3 ⟨rfl, hb3⟩; have HB3 : Hid (Below w.heap.size w w3) := HB1.out.trans (hb3.mono HB1.out.size); clear hb3)
    | (go_at_call 31; refine (clone_any pre _ hpz).mono ?_; rintro e w4 ⟨rfl, hb4⟩; have HB4 : Hid (Below w.heap.size w w4) := HB3.out.trans (hb4.mono HB3.out.size); clear hb4; have hl := (HF.out w4 HB4.out 0).1; have cLa := last_none hl; have n4 := hl.c4; have n5 := hl.c5; have f5 := hl.fro 5; simp only at n4 n5; clear hl)
    | (go_at_call 32; refine cLa.mono ?_; rintro e w6 ⟨rfl, q6, rfl⟩))
  go_ret2
  exact ⟨w4.heap.size, rfl, (HF.out w4 HB4.out q6).2⟩
set_option maxHeartbeats 1000000 in
/-- a size that may not be -/
theorem Open_size {z : Int} (hp : isP pre = true) (hz : z < 64 ∨ 65536 < z) (w : World) : Calls Tryz.prog 9 #[.pointer (some ⟨d, 0, none⟩), .string pre, .int .i64 z] w fun e w' => e = .returned (.tuple #[.pointer none, .int .i64 1]) ∧ Below w.heap.size w w' := by
  have hq := dskEql d
  have cP := isPrefix_any pre w
  rw [hp] at cP
  by_cases h1 : z < 64
  · go_enter Tryz.func9, Tryz.ntmps9
    go_wp2_with (go_at_call 28; refine cP.mono ?_; rintro e w1 ⟨rfl, hb1⟩; have HB1 : Hid (Below w.heap.size w w1) := hb1; clear hb1)
    go_ret2
    exact ⟨rfl, HB1.out⟩
  · have h2 : 65536 < z := by omega
    go_enter Tryz.func9, Tryz.ntmps9
    go_wp2_with (go_at_call 28; refine cP.mono ?_; rintro e w1 ⟨rfl, hb1⟩; have HB1 : Hid (Below w.heap.size w w1) := hb1; clear hb1)
    go_ret2
    exact ⟨rfl, HB1.out⟩
theorem Open_nil (pre : ByteArray) (z : Int) (w : World) : Calls Tryz.prog 9 #[.pointer none, .string pre, .int .i64 z] w fun e w' => e = .returned (.tuple #[.pointer none, .int .i64 1]) ∧ w' = w := by
  go_enter Tryz.func9, Tryz.ntmps9
  go_wp2
  go_ret2
  exact ⟨rfl, rfl⟩
end Go.Proofs.YteifkkceldlfnaaGreatDoor

/-
  Package model: the kinds of nodes; the small functions.
-/
import Derived.Test.YtlmdoiagjepmbaaGreatDoorM11Gen
import Derived.BigQuiet
namespace Go.Proofs.YtlmdoiagjepmbaaGreatDoor.m11
open Go.Proofs.YtlmdoiagjepmbaaGreatDoor.x10
open Go.RowKit Go.Shelf Go.Sort
open Go.Lib hiding intOf

def isSu (k : Int) : Bool := [(8 : Int)].contains k

set_option maxHeartbeats 400000 in
theorem isOf_any (x : Nd) {w : World} {v : Value} {l : List Int} (hv : Is w v l) (hn : l.length ≤ 4611686018427387904) : Calls Tryz.prog 35 #[nA x, v] w fun e w' => e = .returned (.bool (l.contains x.kind)) ∧ Below w.heap.size w w' := by
  obtain ⟨k, p, h, nm, ty, ke, n⟩ := x
  have B1 : Hid (Below w.heap.size w (w.alloc (.cells #[.int .i64 k, .int .i64 p, .int .i64 h, .string (S nm), .string (S ty), .string (S ke), .int .i64 n] 32))) := (Below.refl _ w).alloc (Nat.le_refl _) _
  have CC := contains_any k (hv.up B1.out) hn
  obtain ⟨a, cap, rfl, -⟩ := hv
  unfold nA
  simp only
  generalize l.contains k = r at *
  go_enter Tryz.func35, Tryz.ntmps35
  go_wp2_with (go_at_call 44; refine CC.mono ?_; rintro e w1 ⟨rfl, hw1⟩; rw [hw1]; clear hw1 w1 CC)
  go_ret
  exact ⟨rfl, B1.out⟩
theorem isOf_lit (x : Nd) (w : World) (b : Nat) (hb : b = w.heap.size) (vs : List Int) (hn : vs.length ≤ 100) (t : TypeId) : Calls Tryz.prog 35 #[nA x, .slice (some ⟨b, 0, none⟩) vs.length vs.length] (w.alloc (.cells (vs.map fun x => Value.int .i64 x).toArray t)) fun e w' => e = .returned (.bool (vs.contains x.kind)) ∧ Below w.heap.size w w' := by
  subst hb
  refine (isOf_any x (Is.new w vs t) (by omega)).mono ?_
  rintro e w' ⟨he, hb⟩
  exact ⟨he, ((Below.refl _ w).alloc (Nat.le_refl _) _).trans (hb.mono (by simp))⟩

set_option maxHeartbeats 400000 in
theorem waits_any (x : Nd) (w : World) : Calls Tryz.prog 20 #[nA x] w fun e w' => e = .returned (.bool (wai x.kind)) ∧ Below w.heap.size w w' := by
  obtain ⟨k, p, h, nm, ty, ke, n⟩ := x
  have B1 : Hid (Below w.heap.size w (w.alloc (.cells #[.int .i64 k, .int .i64 p, .int .i64 h, .string (S nm), .string (S ty), .string (S ke), .int .i64 n] 32))) := (Below.refl _ w).alloc (Nat.le_refl _) _
  have CC := isOf_lit ⟨k, p, h, nm, ty, ke, n⟩ (w.alloc (.cells #[.int .i64 k, .int .i64 p, .int .i64 h, .string (S nm), .string (S ty), .string (S ke), .int .i64 n] 32)) (w.heap.size + 1) (by simp) [(3 : Int), 6, 7, 8] (by decide) 3
  have HR : Hid ([(3 : Int), 6, 7, 8].contains k = wai k) := by show _ = _; rfl
  unfold nA at CC ⊢
  simp only [List.length_cons, List.length_nil, Nat.reduceAdd, List.map_cons, List.map_nil] at CC ⊢
  generalize [(3 : Int), 6, 7, 8].contains k = r at CC HR
  go_enter Tryz.func20, Tryz.ntmps20
  go_wp2_with (go_at_call 35; refine CC.mono ?_; rintro e w1 ⟨rfl, hb1⟩; (have B2 : Hid (Below w.heap.size w w1) := bel_of B1.out hb1 (Nat.le_refl _)); clear hb1 CC)
  go_ret
  exact ⟨by rw [HR.out]; rfl, B2.out⟩

set_option maxHeartbeats 400000 in
theorem sits_any (x : Nd) (w : World) : Calls Tryz.prog 65 #[nA x] w fun e w' => e = .returned (.bool (sit x.kind)) ∧ Below w.heap.size w w' := by
  obtain ⟨k, p, h, nm, ty, ke, n⟩ := x
  have B1 : Hid (Below w.heap.size w (w.alloc (.cells #[.int .i64 k, .int .i64 p, .int .i64 h, .string (S nm), .string (S ty), .string (S ke), .int .i64 n] 32))) := (Below.refl _ w).alloc (Nat.le_refl _) _
  have CC := isOf_lit ⟨k, p, h, nm, ty, ke, n⟩ (w.alloc (.cells #[.int .i64 k, .int .i64 p, .int .i64 h, .string (S nm), .string (S ty), .string (S ke), .int .i64 n] 32)) (w.heap.size + 1) (by simp) [(9 : Int), 10] (by decide) 3
  have HR : Hid ([(9 : Int), 10].contains k = sit k) := by show _ = _; rfl
  unfold nA at CC ⊢
  simp only [List.length_cons, List.length_nil, Nat.reduceAdd, List.map_cons, List.map_nil] at CC ⊢
  generalize [(9 : Int), 10].contains k = r at CC HR
  go_enter Tryz.func65, Tryz.ntmps65
  go_wp2_with (go_at_call 35; refine CC.mono ?_; rintro e w1 ⟨rfl, hb1⟩; (have B2 : Hid (Below w.heap.size w w1) := bel_of B1.out hb1 (Nat.le_refl _)); clear hb1 CC)
  go_ret
  exact ⟨by rw [HR.out]; rfl, B2.out⟩

set_option maxHeartbeats 400000 in
theorem sub_any (x : Nd) (w : World) : Calls Tryz.prog 34 #[nA x] w fun e w' => e = .returned (.bool (isSu x.kind)) ∧ Below w.heap.size w w' := by
  obtain ⟨k, p, h, nm, ty, ke, n⟩ := x
  have B1 : Hid (Below w.heap.size w (w.alloc (.cells #[.int .i64 k, .int .i64 p, .int .i64 h, .string (S nm), .string (S ty), .string (S ke), .int .i64 n] 32))) := (Below.refl _ w).alloc (Nat.le_refl _) _
  have CC := isOf_lit ⟨k, p, h, nm, ty, ke, n⟩ (w.alloc (.cells #[.int .i64 k, .int .i64 p, .int .i64 h, .string (S nm), .string (S ty), .string (S ke), .int .i64 n] 32)) (w.heap.size + 1) (by simp) [(8 : Int)] (by decide) 3
  have HR : Hid ([(8 : Int)].contains k = isSu k) := by show _ = _; rfl
  unfold nA at CC ⊢
  simp only [List.length_cons, List.length_nil, Nat.reduceAdd, List.map_cons, List.map_nil] at CC ⊢
  generalize [(8 : Int)].contains k = r at CC HR
  go_enter Tryz.func34, Tryz.ntmps34
  go_wp2_with (go_at_call 35; refine CC.mono ?_; rintro e w1 ⟨rfl, hb1⟩; (have B2 : Hid (Below w.heap.size w w1) := bel_of B1.out hb1 (Nat.le_refl _)); clear hb1 CC)
  go_ret
  exact ⟨by rw [HR.out]; rfl, B2.out⟩

set_option maxHeartbeats 400000 in
theorem noWayIn_any (x : Nd) (w : World) : Calls Tryz.prog 74 #[nA x] w fun e w' => e = .returned (.bool (nwi x.kind)) ∧ Below w.heap.size w w' := by
  obtain ⟨k, p, h, nm, ty, ke, n⟩ := x
  have B1 : Hid (Below w.heap.size w (w.alloc (.cells #[.int .i64 k, .int .i64 p, .int .i64 h, .string (S nm), .string (S ty), .string (S ke), .int .i64 n] 32))) := (Below.refl _ w).alloc (Nat.le_refl _) _
  have c0 : Nc (w.alloc (.cells #[.int .i64 k, .int .i64 p, .int .i64 h, .string (S nm), .string (S ty), .string (S ke), .int .i64 n] 32)) w.heap.size 0 ⟨k, p, h, nm, ty, ke, n⟩ := ⟨World.cell?_alloc_new _ _ _ _, World.cell?_alloc_new _ _ _ _, World.cell?_alloc_new _ _ _ _, World.cell?_alloc_new _ _ _ _, World.cell?_alloc_new _ _ _ _, World.cell?_alloc_new _ _ _ _, World.cell?_alloc_new _ _ _ _⟩
  have CS := sits_any ⟨k, p, h, nm, ty, ke, n⟩ (w.alloc (.cells #[.int .i64 k, .int .i64 p, .int .i64 h, .string (S nm), .string (S ty), .string (S ke), .int .i64 n] 32))
  have HI : Hid (∀ W : World, Calls Tryz.prog 35 #[nA ⟨k, p, h, nm, ty, ke, n⟩, .slice (some ⟨W.heap.size, 0, none⟩) 1 1] (W.alloc (.cells #[.int .i64 1] 3)) fun e w' => e = .returned (.bool ([(1 : Int)].contains k)) ∧ Below W.heap.size W w') := fun W => isOf_lit ⟨k, p, h, nm, ty, ke, n⟩ W W.heap.size rfl [(1 : Int)] (by decide) 3
  have HR : Hid (nwi k = (sit k || [(1 : Int)].contains k)) := by show _ = _; rfl
  have HC : Hid _ := c0
  unfold nA at CS HI ⊢
  simp only at CS HI ⊢
  clear c0
  generalize sit k = r1 at *
  generalize [(1 : Int)].contains k = r2 at *
  cases r1 with
  | true =>
    go_enter Tryz.func74, Tryz.ntmps74
    go_wp2_with (go_at_call 65; refine CS.mono ?_; rintro e w1 ⟨rfl, hb1⟩; (have B2 : Hid (Below w.heap.size w w1) := bel_of B1.out hb1 (Nat.le_refl _)); clear hb1 CS)
    go_ret
    rw [HR.out]
    exact ⟨rfl, B2.out⟩
  | false =>
    go_enter Tryz.func74, Tryz.ntmps74
    go_wp2_with (first
      | (go_at_call 65; refine CS.mono ?_; rintro e w1 ⟨rfl, hb1⟩; (have B2 : Hid (Below w.heap.size w w1) := bel_of B1.out hb1 (Nat.le_refl _)); obtain ⟨d0, d1, d2, d3, d4, d5, d6⟩ := HC.out.below hb1 (by simp); (have CI := HI.out w1); clear hb1 CS)
      | (go_at_call 35; refine CI.mono ?_; rintro e w2 ⟨rfl, hb2⟩; (have B3 : Hid (Below w.heap.size w w2) := bel_of B2.out hb2 (Nat.le_refl _)); clear hb2 CI))
    go_ret
    rw [HR.out]
    exact ⟨rfl, B3.out⟩

set_option maxHeartbeats 400000 in
theorem isPlace_any {w0 w : World} {v : Value} {l : List Nd} (i : Int) (hv : Ns w0 v l) : Calls Tryz.prog 63 #[v, .int .i64 i] w fun e w' => e = .returned (.bool (isPl l.length i)) ∧ w' = w := by
  obtain ⟨a, cap, rfl, -⟩ := hv
  unfold isPl
  by_cases h1 : 0 ≤ i
  · by_cases h2 : i < (l.length : Int)
    · go_enter Tryz.func63, Tryz.ntmps63
      go_wp2
      go_ret
      exact ⟨by simp [h1, h2], rfl⟩
    · go_enter Tryz.func63, Tryz.ntmps63
      go_wp2
      go_ret
      exact ⟨by simp [h2], rfl⟩
  · go_enter Tryz.func63, Tryz.ntmps63
    go_wp2
    go_ret
    exact ⟨by simp; omega, rfl⟩

set_option maxHeartbeats 400000 in
theorem begins_any (x : Nd) (s : Int) (w : World) : Calls Tryz.prog 37 #[nA x, .int .i64 s] w fun e w' => e = .returned (.bool (bgn s x)) ∧ Below w.heap.size w w' := by
  obtain ⟨k, p, h, nm, ty, ke, n⟩ := x
  have B1 : Hid (Below w.heap.size w (w.alloc (.cells #[.int .i64 k, .int .i64 p, .int .i64 h, .string (S nm), .string (S ty), .string (S ke), .int .i64 n] 32))) := (Below.refl _ w).alloc (Nat.le_refl _) _
  unfold nA bgn
  simp only
  by_cases h1 : k = 1
  · subst h1
    by_cases h2 : p = s
    · subst h2
      go_enter Tryz.func37, Tryz.ntmps37
      go_wp2
      go_ret
      exact ⟨by simp, B1.out⟩
    · have h2' : (p == s) = false := by simpa using h2
      go_enter Tryz.func37, Tryz.ntmps37
      go_wp2
      go_ret
      exact ⟨by simp [h2], B1.out⟩
  · have h1' : (k == 1) = false := by simpa using h1
    go_enter Tryz.func37, Tryz.ntmps37
    go_wp2
    go_ret
    exact ⟨by simp [h1], B1.out⟩

set_option maxHeartbeats 400000 in
theorem scope2_any (x : Nd) {s : Int} {b : Nat} (w : World) (hb : w.cell? ⟨b, 0, none⟩ = some (.int .i64 s)) (hlt : b < w.heap.size) : Calls Tryz.prog 36 #[nA x, .pointer (some ⟨b, 0, none⟩)] w fun e w' => e = .returned (.bool (bgn s x)) ∧ Below w.heap.size w w' := by
  obtain ⟨k, p, h, nm, ty, ke, n⟩ := x
  have B1 : Hid (Below w.heap.size w (w.alloc (.cells #[.int .i64 k, .int .i64 p, .int .i64 h, .string (S nm), .string (S ty), .string (S ke), .int .i64 n] 32))) := (Below.refl _ w).alloc (Nat.le_refl _) _
  have CC := begins_any ⟨k, p, h, nm, ty, ke, n⟩ s (w.alloc (.cells #[.int .i64 k, .int .i64 p, .int .i64 h, .string (S nm), .string (S ty), .string (S ke), .int .i64 n] 32))
  unfold nA at CC ⊢
  simp only at CC ⊢
  generalize bgn s ⟨k, p, h, nm, ty, ke, n⟩ = r at *
  go_enter Tryz.func36, Tryz.ntmps36
  go_wp2_with (go_at_call 37; refine CC.mono ?_; rintro e w1 ⟨rfl, hb1⟩; (have B2 : Hid (Below w.heap.size w w1) := bel_of B1.out hb1 (Nat.le_refl _)); clear hb1 CC)
  go_ret
  exact ⟨rfl, B2.out⟩

set_option maxHeartbeats 400000 in
theorem loops1_any (x : Nd) (w : World) : Calls Tryz.prog 19 #[nA x] w fun e w' => e = .returned (.bool (!(wai x.kind))) ∧ Below w.heap.size w w' := by
  obtain ⟨k, p, h, nm, ty, ke, n⟩ := x
  have B1 : Hid (Below w.heap.size w (w.alloc (.cells #[.int .i64 k, .int .i64 p, .int .i64 h, .string (S nm), .string (S ty), .string (S ke), .int .i64 n] 32))) := (Below.refl _ w).alloc (Nat.le_refl _) _
  have CC := waits_any ⟨k, p, h, nm, ty, ke, n⟩ (w.alloc (.cells #[.int .i64 k, .int .i64 p, .int .i64 h, .string (S nm), .string (S ty), .string (S ke), .int .i64 n] 32))
  unfold nA at CC ⊢
  simp only at CC ⊢
  generalize wai k = r at *
  go_enter Tryz.func19, Tryz.ntmps19
  go_wp2_with (go_at_call 20; refine CC.mono ?_; rintro e w1 ⟨rfl, hb1⟩; (have B2 : Hid (Below w.heap.size w w1) := bel_of B1.out hb1 (Nat.le_refl _)); clear hb1 CC)
  go_ret
  exact ⟨rfl, B2.out⟩

set_option maxHeartbeats 400000 in
theorem outs1_any (x : Fl) {s : Int} {b : Nat} (w : World) (hb : w.cell? ⟨b, 0, none⟩ = some (.int .i64 s)) (hlt : b < w.heap.size) : Calls Tryz.prog 83 #[fA x, .pointer (some ⟨b, 0, none⟩)] w fun e w' => e = .returned (.bool (x.src == s)) ∧ Below w.heap.size w w' := by
  obtain ⟨a, z, cd⟩ := x
  have B1 : Hid (Below w.heap.size w (w.alloc (.cells #[.int .i64 a, .int .i64 z, .string (S cd)] 37))) := (Below.refl _ w).alloc (Nat.le_refl _) _
  unfold fA
  simp only
  go_enter Tryz.func83, Tryz.ntmps83
  go_wp2
  go_ret
  exact ⟨rfl, B1.out⟩

set_option maxHeartbeats 400000 in
theorem ins1_any (x : Fl) {s : Int} {b : Nat} (w : World) (hb : w.cell? ⟨b, 0, none⟩ = some (.int .i64 s)) (hlt : b < w.heap.size) : Calls Tryz.prog 103 #[fA x, .pointer (some ⟨b, 0, none⟩)] w fun e w' => e = .returned (.bool (x.dst == s)) ∧ Below w.heap.size w w' := by
  obtain ⟨a, z, cd⟩ := x
  have B1 : Hid (Below w.heap.size w (w.alloc (.cells #[.int .i64 a, .int .i64 z, .string (S cd)] 37))) := (Below.refl _ w).alloc (Nat.le_refl _) _
  unfold fA
  simp only
  go_enter Tryz.func103, Tryz.ntmps103
  go_wp2
  go_ret
  exact ⟨rfl, B1.out⟩

theorem S_beq (a b : List UInt8) : ((S a).toList == (S b).toList) = (a == b) := by rw [S_toList, S_toList]
theorem S_nil_beq (a : List UInt8) : ((S a).toList == (ByteArray.mk #[]).toList) = (a == []) := S_beq a []

set_option maxHeartbeats 400000 in
theorem named1_any (x : Nd) {s : List UInt8} {b : Nat} (w : World) (hb : w.cell? ⟨b, 0, none⟩ = some (.string (S s))) (hlt : b < w.heap.size) : Calls Tryz.prog 100 #[nA x, .pointer (some ⟨b, 0, none⟩)] w fun e w' => e = .returned (.bool (x.name == s)) ∧ Below w.heap.size w w' := by
  obtain ⟨k, p, h, nm, ty, ke, n⟩ := x
  have B1 : Hid (Below w.heap.size w (w.alloc (.cells #[.int .i64 k, .int .i64 p, .int .i64 h, .string (S nm), .string (S ty), .string (S ke), .int .i64 n] 32))) := (Below.refl _ w).alloc (Nat.le_refl _) _
  unfold nA
  simp only
  have HQ : Hid (((S nm).toList == (S s).toList) = (nm == s)) := S_beq nm s
  go_enter Tryz.func100, Tryz.ntmps100
  go_wp2
  go_ret
  exact ⟨by rw [← HQ.out]; rfl, B1.out⟩

set_option maxHeartbeats 400000 in
theorem two1_any (x y : Fl) {b : Nat} (w : World) (hb : Fc w b 0 y) (hlt : b < w.heap.size) : Calls Tryz.prog 77 #[fA x, .pointer (some ⟨b, 0, none⟩)] w fun e w' => e = .returned (.bool (x.src == y.src && x.cond == [])) ∧ Below w.heap.size w w' := by
  obtain ⟨a, z, cd⟩ := x
  obtain ⟨a2, z2, cd2⟩ := y
  have B1 : Hid (Below w.heap.size w (w.alloc (.cells #[.int .i64 a, .int .i64 z, .string (S cd)] 37))) := (Below.refl _ w).alloc (Nat.le_refl _) _
  have c0 := hb.c0
  clear hb
  unfold fA
  simp only at c0 ⊢
  have HQ : Hid (((S cd).toList == (ByteArray.mk #[]).toList) = (cd == [])) := S_nil_beq cd
  by_cases h1 : a = a2
  · subst h1
    go_enter Tryz.func77, Tryz.ntmps77
    go_wp2
    go_ret
    exact ⟨by rw [← HQ.out]; simp, B1.out⟩
  · have h1' : (a == a2) = false := by simpa using h1
    go_enter Tryz.func77, Tryz.ntmps77
    go_wp2
    go_ret
    exact ⟨by simp [h1], B1.out⟩
end Go.Proofs.YtlmdoiagjepmbaaGreatDoor.m11

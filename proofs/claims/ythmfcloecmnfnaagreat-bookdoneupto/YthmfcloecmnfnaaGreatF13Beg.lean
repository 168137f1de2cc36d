/-
  Package fold's began: an instance more, or another one.
-/
import Derived.Test.YthmfcloecmnfnaaGreatF13Ef0
import Derived.Deep.RegionHeld3
import Derived.Deep.RegionWith
namespace Go.Proofs.YthmfcloecmnfnaaGreat.f13
open Go.RowKit Go.Shelf Go.Sort
open Go.Lib hiding intOf

/-- what an effect leaves of a state -/
def Eff (B : Nat) (w : World) (sb : Nat) (s' : St) (w' : World) : Prop := ∃ t : St, Sx B w' sb t ∧ t.e = s' ∧ Below B w w'
theorem Sx.cell {B : Nat} {w : World} {sb : Nat} {s : St} (h : Sx B w sb s) {j : Nat} {u : Value} (hj : s.c[j]? = some u) : w.cell? ⟨sb, j, none⟩ = some u := bx.cell h (List.mem_cons_self ..) hj
theorem Sx.fro {B : Nat} {w : World} {sb : Nat} {s : St} (h : Sx B w sb s) (j : Nat) : w.frozen? ⟨sb, j, none⟩ = false := bx.fro h (List.mem_cons_self ..) j
theorem Sx.up {B : Nat} {w w' : World} {sb : Nat} {s : St} (h : Sx B w sb s) (hb : Below w.heap.size w w') : Sx B w' sb s := Own.up h hb
theorem Sx.lt {B : Nat} {w : World} {sb : Nat} {s : St} (h : Sx B w sb s) : B ≤ sb ∧ sb < w.heap.size := (h.own _ (List.mem_cons_self ..)).lt sb rfl
theorem Sx.below {B : Nat} {u w : World} {sb : Nat} {s : St} (h : Sx B w sb s) (hb : Below B u w) (hB : B ≤ u.heap.size) (j : Nat) (v : Value) : Below B u (w.setCell ⟨sb, j, none⟩ v) := bx.below h (List.mem_cons_self ..) hb hB j v
theorem Sx.rDe {B : Nat} {w : World} {sb : Nat} {s : St} (h : Sx B w sb s) : w.ownsRow B 92 2 s.vDe s.procs.length (s.procs.flatMap De.c) := h.own (De.rw s.vDe s.procs) (List.mem_cons_of_mem _ (List.mem_append_left _ (by simp [St.main])))
theorem Sx.rIn {B : Nat} {w : World} {sb : Nat} {s : St} (h : Sx B w sb s) : w.ownsRow B 95 3 s.vIn s.insts.length (s.insts.flatMap In.c) := h.own (In.rw s.vIn s.insts) (List.mem_cons_of_mem _ (List.mem_append_left _ (by simp [St.main])))
theorem Sx.rTk {B : Nat} {w : World} {sb : Nat} {s : St} (h : Sx B w sb s) : w.ownsRow B 66 6 s.vTk s.tokens.length (s.tokens.flatMap Tk.c) := h.own (Tk.rw s.vTk s.tokens) (List.mem_cons_of_mem _ (List.mem_append_left _ (by simp [St.main])))
theorem Sx.rJb {B : Nat} {w : World} {sb : Nat} {s : St} (h : Sx B w sb s) : w.ownsRow B 46 6 s.vJb s.jobs.length (s.jobs.flatMap Jb.c) := h.own (Jb.rw s.vJb s.jobs) (List.mem_cons_of_mem _ (List.mem_append_left _ (by simp [St.main])))
theorem Sx.rTm {B : Nat} {w : World} {sb : Nat} {s : St} (h : Sx B w sb s) : w.ownsRow B 70 3 s.vTm s.timers.length (s.timers.flatMap Tm.c) := h.own (Tm.rw s.vTm s.timers) (List.mem_cons_of_mem _ (List.mem_append_left _ (by simp [St.main])))
theorem Sx.rSb {B : Nat} {w : World} {sb : Nat} {s : St} (h : Sx B w sb s) : w.ownsRow B 107 6 s.vSb s.subs.length (s.subs.flatMap Sb.c) := h.own (Sb.rw s.vSb s.subs) (List.mem_cons_of_mem _ (List.mem_append_left _ (by simp [St.main])))
theorem Sx.rKp {B : Nat} {w : World} {sb : Nat} {s : St} (h : Sx B w sb s) : w.ownsRow B 110 3 s.vKp s.kept.length (s.kept.flatMap Kp.c) := h.own (Kp.rw s.vKp s.kept) (List.mem_cons_of_mem _ (List.mem_append_left _ (by simp [St.main])))
theorem Sx.rLs {B : Nat} {w : World} {sb : Nat} {s : St} (h : Sx B w sb s) : w.ownsRow B 113 7 s.vLs s.listed.length (s.listed.flatMap Ls.c) := h.own (Ls.rw s.vLs s.listed) (List.mem_cons_of_mem _ (List.mem_append_left _ (by simp [St.main])))
theorem Sx.rMs {B : Nat} {w : World} {sb : Nat} {s : St} (h : Sx B w sb s) : w.ownsRow B 74 7 s.vMs s.msgs.length (s.msgs.flatMap Ms.c) := h.own (Ms.rw s.vMs s.msgs) (List.mem_cons_of_mem _ (List.mem_append_left _ (by simp [St.main])))

/-- a list of instances becomes another one -/
theorem Sx.putIn {B : Nat} {w w1 w2 : World} {sb : Nat} {s : St} {x : In} {v : Value} (h : Sx B w sb s) (hb : Below w.heap.size w w1) (hB : B ≤ w.heap.size) (hx : (In.r x).ok w.heap.size w1) (hp : w2.ownsRow B 95 3 v (putL In.kk ltU s.insts x).length ((putL In.kk ltU s.insts x).flatMap In.c)) (hc : Ch (fun g => s.vIn.ownBlock = some g) w1 w2) (hn : ∀ g, v.ownBlock = some g → s.vIn.ownBlock = some g ∨ w1.heap.size ≤ g) :
    (∀ mn : Nat, Sx B ((w2.setCell ⟨sb, 4, none⟩ v).setCell ⟨sb, 2, none⟩ (.int .u64 (mn : Int))) sb { s with vIn := v, insts := putL In.kk ltU s.insts x, made := mn }) ∧ (∀ (j : Nat) (u : Value), s.c[j]? = some u → w2.cell? ⟨sb, j, none⟩ = some u) ∧ (∀ j : Nat, w2.frozen? ⟨sb, j, none⟩ = false) := by
  have h1 := Own.add (r := In.r x) h hb hx hB
  have h2 := h1.perm (M := In.rw s.vIn s.insts :: (In.r x :: bx sb s.c :: (De.rw s.vDe s.procs :: Tk.rw s.vTk s.tokens :: Jb.rw s.vJb s.jobs :: Tm.rw s.vTm s.timers :: Sb.rw s.vSb s.subs :: Kp.rw s.vKp s.kept :: Ls.rw s.vLs s.listed :: Ms.rw s.vMs s.msgs :: s.inner))) (perm_ac fun z => by
    simp only [St.rows, St.main, List.count_append, List.count_cons, List.count_nil, Nat.zero_add]
    ac_rfl)
  have h3 := h2.turn (r' := In.rw v (putL In.kk ltU s.insts x)) hc hp hn
  have h4 := h3.of_count (M := bx sb s.c :: (De.rw s.vDe s.procs :: In.rw v (putL In.kk ltU s.insts x) :: Tk.rw s.vTk s.tokens :: Jb.rw s.vJb s.jobs :: Tm.rw s.vTm s.timers :: Sb.rw s.vSb s.subs :: Kp.rw s.vKp s.kept :: Ls.rw s.vLs s.listed :: Ms.rw s.vMs s.msgs :: ((putL In.kk ltU s.insts x).map In.r ++ (s.listed.map Ls.r ++ (s.msgs.map Ms.r ++ s.msgs.map Ms.q))))) (fun z => by
    have := putL_count In.kk ltU s.insts x In.r z
    simp only [St.inner, List.count_append, List.count_cons] at this ⊢
    omega)
  exact ⟨fun mn => bx.put (bx.put h4 4 v) 2 (.int .u64 (mn : Int)), fun j u hj => bx.cell h4 (List.mem_cons_self ..) hj, fun j => bx.fro h4 (List.mem_cons_self ..) j⟩

/-- the new instance lies in block xb -/
structure Bgn (W1 w' : World) (xb : Nat) (k : Nat) (a : List UInt8) (v : Value) (l : List Vr) : Prop where
  lt : W1.heap.size ≤ xb
  obj : w'.heap[xb]? = some (.cells #[.int .u64 (k : Int), .string (S a), v] 95 (0, 0))
  row : w'.ownsRow W1.heap.size 101 4 v l.length (l.flatMap Vr.c)
  bel : Below W1.heap.size W1 w'
theorem Bgn.late {W1 u1 : World} {k : Nat} {a : List UInt8} {v : Value} {l : List Vr} (hb : Below W1.heap.size W1 u1) (hr : u1.ownsRow W1.heap.size 101 4 v l.length (l.flatMap Vr.c)) : Bgn W1 (u1.alloc (.cells #[.int .u64 (k : Int), .string (S a), v] 95)) u1.heap.size k a v l :=
  ⟨hb.size, heap_alloc_new _ _, hr.alloc _, hb.trans ((Below.refl _ u1).alloc hb.size _)⟩
theorem Bgn.early {W1 u1 : World} {k : Nat} {a : List UInt8} {v z0 z1 z2 : Value} {l : List Vr} (hb : Below (W1.heap.size + 1) (W1.alloc (.cells #[z0, z1, z2] 95)) u1) (hr : u1.ownsRow (W1.heap.size + 1) 101 4 v l.length (l.flatMap Vr.c)) : Bgn W1 (((u1.setCell ⟨W1.heap.size, 0, none⟩ (.int .u64 (k : Int))).setCell ⟨W1.heap.size, 1, none⟩ (.string (S a))).setCell ⟨W1.heap.size, 2, none⟩ v) W1.heap.size k a v l := by
  have h0 : u1.heap[W1.heap.size]? = some (.cells #[z0, z1, z2] 95 (0, 0)) := (hb.block _ (by omega)).trans (heap_alloc_new _ _)
  have h1 := heap_setCell_same u1 W1.heap.size 0 _ _ (.int .u64 (k : Int)) h0
  have h2 := heap_setCell_same _ W1.heap.size 1 _ _ (.string (S a)) h1
  have h3 := heap_setCell_same _ W1.heap.size 2 _ _ v h2
  have hc : Ch (fun g => g = W1.heap.size) u1 (((u1.setCell ⟨W1.heap.size, 0, none⟩ (.int .u64 (k : Int))).setCell ⟨W1.heap.size, 1, none⟩ (.string (S a))).setCell ⟨W1.heap.size, 2, none⟩ v) := (((Ch.refl (fun g => g = W1.heap.size) u1).setCell ⟨W1.heap.size, 0, none⟩ _ (fun _ => rfl)).setCell ⟨W1.heap.size, 1, none⟩ _ (fun _ => rfl)).setCell ⟨W1.heap.size, 2, none⟩ _ (fun _ => rfl)
  have hr2 := hc.row hr (fun g hg e => by have := (hr.lt g hg).1; omega)
  have hbs := hb.size
  rw [World.size_alloc] at hbs
  refine ⟨Nat.le_refl _, h3, ?_, ?_⟩
  · refine ⟨hr2.1, hr2.2.imp id ?_⟩
    rintro ⟨g, cap, cur, e, hg, rest⟩
    exact ⟨g, cap, cur, e, by omega, rest⟩
  · have b0 : Below W1.heap.size W1 u1 := ((Below.refl _ W1).alloc (Nat.le_refl _) _).trans (hb.mono (by omega))
    exact b0.trans (hc.below (by omega) (fun g hg e => by omega))

set_option maxHeartbeats 8000000 in
set_option maxRecDepth 100000 in
theorem began_any {B : Nat} {w : World} {sb : Nat} {s : St} {r : Rc} (h : Sx B w sb s) (hB : B ≤ w.heap.size) (hz : (s.insts.length + 1) * 48 ≤ 211106232528000) (hr : Rr 4 Vr.c w r.vv r.v) (hv : r.v.length * 48 ≤ 211106232528000) :
    Calls Tryz.prog 59 #[.pointer (some ⟨sb, 0, none⟩), .agg r.cs.toArray] w fun e w' => e = .returned (.tuple #[]) ∧ Eff B w sb (eBegan s.e r) w' := by
  obtain ⟨ra, rp, hra, -⟩ := id hr
  obtain ⟨r0, r1, r2, r3, r4, r5, r6, r7, r8, r9, r10, r11, rvv, rv⟩ := r
  simp only at hra hv hr
  subst hra
  have hsl : ∀ y ∈ s.insts, y.vv.oneCell' = true := fun y hy => (Own.sv (h.sub (List.sublist_cons_self _ _))).iIn y hy |>.oneCell
  simp only [Rc.cs]
  generalize hrn : rv.length = rn at *
  have hb0 : Below w.heap.size w (w.alloc (.cells #[.int .i64 r0, .int .i64 r1, .int .u64 (r2 : Int), .int .i64 r3, .int .u64 (r4 : Int), .int .u64 (r5 : Int), .int .u64 (r6 : Int), .int .i64 r7, .int .i64 r8, .string (S r9), .string (S r10), .string (S r11), .slice ra rn rp] 63)) := (Below.refl _ w).alloc (Nat.le_refl _) _
  have HS : Hid (∀ W, Below (w.alloc (.cells #[.int .i64 r0, .int .i64 r1, .int .u64 (r2 : Int), .int .i64 r3, .int .u64 (r4 : Int), .int .u64 (r5 : Int), .int .u64 (r6 : Int), .int .i64 r7, .int .i64 r8, .string (S r9), .string (S r10), .string (S r11), .slice ra rn rp] 63)).heap.size (w.alloc (.cells #[.int .i64 r0, .int .i64 r1, .int .u64 (r2 : Int), .int .i64 r3, .int .u64 (r4 : Int), .int .u64 (r5 : Int), .int .u64 (r6 : Int), .int .i64 r7, .int .i64 r8, .string (S r9), .string (S r10), .string (S r11), .slice ra rn rp] 63)) W → W.cell? ⟨w.heap.size, 4, none⟩ = some (.int .u64 (r4 : Int)) ∧ W.cell? ⟨w.heap.size, 9, none⟩ = some (.string (S r9)) ∧ W.cell? ⟨w.heap.size, 12, none⟩ = some (.slice ra rn rp)) := by
    intro W hW
    have hsz : w.heap.size < (w.alloc (.cells #[.int .i64 r0, .int .i64 r1, .int .u64 (r2 : Int), .int .i64 r3, .int .u64 (r4 : Int), .int .u64 (r5 : Int), .int .u64 (r6 : Int), .int .i64 r7, .int .i64 r8, .string (S r9), .string (S r10), .string (S r11), .slice ra rn rp] 63)).heap.size := by simp
    exact ⟨(hW.cell (p := ⟨w.heap.size, 4, none⟩) hsz).trans (World.cell?_alloc_new _ _ _ _), (hW.cell (p := ⟨w.heap.size, 9, none⟩) hsz).trans (World.cell?_alloc_new _ _ _ _), (hW.cell (p := ⟨w.heap.size, 12, none⟩) hsz).trans (World.cell?_alloc_new _ _ _ _)⟩
  have CF : Hid (∀ W, Below w.heap.size w W → Calls Tryz.prog 35 #[.slice ra rn rp] W fun e w' => ∃ v', e = .returned v' ∧ w'.ownsRow W.heap.size 101 4 v' rv.length (rv.flatMap Vr.c) ∧ Below W.heap.size W w') := fun W hW => freshVr_any (hr.up hW) (by rw [hrn]; exact hv)
  have HH : Hid (Sx B w sb s) := h
  have B1 : Hid (Below w.heap.size w (w.alloc (.cells #[.int .i64 r0, .int .i64 r1, .int .u64 (r2 : Int), .int .i64 r3, .int .u64 (r4 : Int), .int .u64 (r5 : Int), .int .u64 (r6 : Int), .int .i64 r7, .int .i64 r8, .string (S r9), .string (S r10), .string (S r11), .slice ra rn rp] 63))) := hb0
  clear hb0 h hr
  go_enter Tryz.func59, Tryz.ntmps59
  go_wp2
  generalize (w.alloc (.cells #[.int .i64 r0, .int .i64 r1, .int .u64 (r2 : Int), .int .i64 r3, .int .u64 (r4 : Int), .int .u64 (r5 : Int), .int .u64 (r6 : Int), .int .i64 r7, .int .i64 r8, .string (S r9), .string (S r10), .string (S r11), .slice ra rn rp] 63)) = W1 at *
  obtain ⟨c4, c9, c12⟩ := HS.out _ (Below.refl _ _)
  refine Code.wp_mono (Q := Exit.then (fun a' w' => ∃ a1 p1 xb, a' = { tmps := #[.pointer (some ⟨sb, 0, none⟩), .agg #[.int .i64 r0, .int .i64 r1, .int .u64 (r2 : Int), .int .i64 r3, .int .u64 (r4 : Int), .int .u64 (r5 : Int), .int .u64 (r6 : Int), .int .i64 r7, .int .i64 r8, .string (S r9), .string (S r10), .string (S r11), .slice ra rn rp], undef, .pointer (some ⟨w.heap.size, 0, none⟩), .pointer (some ⟨xb, 0, none⟩), .pointer (some ⟨w.heap.size, 4, none⟩), .int .u64 (r4 : Int), .pointer (some ⟨w.heap.size, 9, none⟩), .string (S r9), .pointer (some ⟨w.heap.size, 12, none⟩), .slice ra rn rp, .slice a1 rn p1, .agg #[.int .u64 (r4 : Int), .string (S r9), .slice a1 rn p1], undef, undef, undef, undef, undef, undef, undef, undef, undef, undef, undef, undef, undef, undef, undef, undef], defers := [] } ∧ Bgn W1 w' xb r4 r9 (.slice a1 rn p1) rv) (fun _ _ _ => False)) ?post ?reg
  case reg =>
    refine wp_region_held_drew (S := fun W => W.cell? ⟨w.heap.size, 4, none⟩ = some (.int .u64 (r4 : Int)) ∧ W.cell? ⟨w.heap.size, 9, none⟩ = some (.string (S r9)) ∧ W.cell? ⟨w.heap.size, 12, none⟩ = some (.slice ra rn rp)) (by kernel_rfl) (by first | go_keep | exact HS.out _ (Below.refl _ _) | exact HS.out _ (Below.refl _ _).drew | exact HS.out _ hX | exact HS.out _ hX.drew | exact HS.out _ (hX.alloc hX.size _) | exact HS.out _ ((Below.refl _ _).alloc (Nat.le_refl _) _) | exact HS.out _ (((Below.refl _ _).alloc (Nat.le_refl _) _).drew) | exact HS.out _ HBG.out.bel) (fun hHeld => ?_)
    refine wpAnyH_take (i := 0) (v := ?_) rfl (by kernel_rfl) (by kernel_rfl) (by kernel_rfl) (fun _ _ _ h => h) (Or.inl ⟨by rfl, ?_⟩) (by assumption) ?_
    rotate_left 1
    · intro w hSw; (try dsimp only at hSw); go_simp; try with_reducible rfl
    refine wpAnyH_take (i := 1) (v := ?_) rfl (by kernel_rfl) (by kernel_rfl) (by kernel_rfl) (fun _ _ _ h => h) (Or.inl ⟨by rfl, ?_⟩) (by assumption) ?_
    rotate_left 1
    · intro w hSw; (try dsimp only at hSw); go_simp; try with_reducible rfl
    change wpAnyH _ _ _ _ _ _ _ { tmps := #[.pointer (some ⟨sb, 0, none⟩), .agg #[.int .i64 r0, .int .i64 r1, .int .u64 (r2 : Int), .int .i64 r3, .int .u64 (r4 : Int), .int .u64 (r5 : Int), .int .u64 (r6 : Int), .int .i64 r7, .int .i64 r8, .string (S r9), .string (S r10), .string (S r11), .slice ra rn rp], undef, .pointer (some ⟨w.heap.size, 0, none⟩), undef, .pointer (some ⟨w.heap.size, 4, none⟩), .int .u64 (r4 : Int), undef, undef, undef, undef, undef, undef, undef, undef, undef, undef, undef, undef, undef, undef, undef, undef, undef, undef, undef, undef, undef, undef], defers := [] } _
    refine wpAnyH_take (i := 2) (v := ?_) rfl (by kernel_rfl) (by kernel_rfl) (by kernel_rfl) (fun _ _ _ h => h) (Or.inl ⟨by rfl, ?_⟩) (by assumption) ?_
    rotate_left 1
    · intro w hSw; (try dsimp only at hSw); go_simp; try with_reducible rfl
    refine wpAnyH_take (i := 3) (v := ?_) rfl (by kernel_rfl) (by kernel_rfl) (by kernel_rfl) (fun _ _ _ h => h) (Or.inl ⟨by rfl, ?_⟩) (by assumption) ?_
    rotate_left 1
    · intro w hSw; (try dsimp only at hSw); go_simp; try with_reducible rfl
    change wpAnyH _ _ _ _ _ _ _ { tmps := #[.pointer (some ⟨sb, 0, none⟩), .agg #[.int .i64 r0, .int .i64 r1, .int .u64 (r2 : Int), .int .i64 r3, .int .u64 (r4 : Int), .int .u64 (r5 : Int), .int .u64 (r6 : Int), .int .i64 r7, .int .i64 r8, .string (S r9), .string (S r10), .string (S r11), .slice ra rn rp], undef, .pointer (some ⟨w.heap.size, 0, none⟩), undef, .pointer (some ⟨w.heap.size, 4, none⟩), .int .u64 (r4 : Int), .pointer (some ⟨w.heap.size, 9, none⟩), .string (S r9), undef, undef, undef, undef, undef, undef, undef, undef, undef, undef, undef, undef, undef, undef, undef, undef, undef, undef, undef, undef], defers := [] } _
    refine wpAnyH_take (i := 4) (v := ?_) rfl (by kernel_rfl) (by kernel_rfl) (by kernel_rfl) (fun _ _ _ h => h) (Or.inl ⟨by rfl, ?_⟩) (by assumption) ?_
    rotate_left 1
    · intro w hSw; (try dsimp only at hSw); go_simp; try with_reducible rfl
    refine wpAnyH_take (i := 5) (v := ?_) rfl (by kernel_rfl) (by kernel_rfl) (by kernel_rfl) (fun _ _ _ h => h) (Or.inl ⟨by rfl, ?_⟩) (by assumption) ?_
    rotate_left 1
    · intro w hSw; (try dsimp only at hSw); go_simp; try with_reducible rfl
    change wpAnyH _ _ _ _ _ _ _ { tmps := #[.pointer (some ⟨sb, 0, none⟩), .agg #[.int .i64 r0, .int .i64 r1, .int .u64 (r2 : Int), .int .i64 r3, .int .u64 (r4 : Int), .int .u64 (r5 : Int), .int .u64 (r6 : Int), .int .i64 r7, .int .i64 r8, .string (S r9), .string (S r10), .string (S r11), .slice ra rn rp], undef, .pointer (some ⟨w.heap.size, 0, none⟩), undef, .pointer (some ⟨w.heap.size, 4, none⟩), .int .u64 (r4 : Int), .pointer (some ⟨w.heap.size, 9, none⟩), .string (S r9), .pointer (some ⟨w.heap.size, 12, none⟩), .slice ra rn rp, undef, undef, undef, undef, undef, undef, undef, undef, undef, undef, undef, undef, undef, undef, undef, undef, undef, undef], defers := [] } _
    refine wpAnyH_ready (rs := [6, 8]) (by kernel_rfl) (by simp) ?_
    refine AllReadyH.cons rfl (fun K hK => ?_) ?_
    · go_simp
      (go_at_call 35; refine (CF.out _ B1.out.drew).mono ?_; rintro e u1 ⟨v1, rfl, q1, hX0⟩; obtain ⟨a1, p1, hs1, -⟩ := row_slice q1; rw [hrn] at hs1; subst hs1; (have hX : Below W1.heap.size W1 u1 := (Below.refl _ W1).drew.trans (hX0.mono (Nat.le_refl _))); (have HBG : Hid (Bgn W1 (u1.alloc (.cells #[.int .u64 (r4 : Int), .string (S r9), .slice a1 rn p1] 95)) u1.heap.size r4 r9 (.slice a1 rn p1) rv) := Bgn.late hX q1))
      go_wp2_with fail
      refine hK.out _ _ (by first | go_keep | exact HS.out _ (Below.refl _ _) | exact HS.out _ (Below.refl _ _).drew | exact HS.out _ hX | exact HS.out _ hX.drew | exact HS.out _ (hX.alloc hX.size _) | exact HS.out _ ((Below.refl _ _).alloc (Nat.le_refl _) _) | exact HS.out _ (((Below.refl _ _).alloc (Nat.le_refl _) _).drew) | exact HS.out _ HBG.out.bel) (fun hHeld => ?_)
      clear hK K
      change wpAnyH _ _ _ _ _ _ _ { tmps := #[.pointer (some ⟨sb, 0, none⟩), .agg #[.int .i64 r0, .int .i64 r1, .int .u64 (r2 : Int), .int .i64 r3, .int .u64 (r4 : Int), .int .u64 (r5 : Int), .int .u64 (r6 : Int), .int .i64 r7, .int .i64 r8, .string (S r9), .string (S r10), .string (S r11), .slice ra rn rp], undef, .pointer (some ⟨w.heap.size, 0, none⟩), undef, .pointer (some ⟨w.heap.size, 4, none⟩), .int .u64 (r4 : Int), .pointer (some ⟨w.heap.size, 9, none⟩), .string (S r9), .pointer (some ⟨w.heap.size, 12, none⟩), .slice ra rn rp, .slice a1 rn p1, undef, undef, undef, undef, undef, undef, undef, undef, undef, undef, undef, undef, undef, undef, undef, undef, undef], defers := [] } _
      refine wpAnyH_take (i := 7) (v := ?_) rfl (by kernel_rfl) (by kernel_rfl) (by kernel_rfl) (fun _ _ _ h => h) (Or.inl ⟨by rfl, ?_⟩) (by assumption) ?_
      rotate_left 1
      · intro w hSw; (try dsimp only at hSw); go_simp; try with_reducible rfl
      change wpAnyH _ _ _ _ _ _ _ { tmps := #[.pointer (some ⟨sb, 0, none⟩), .agg #[.int .i64 r0, .int .i64 r1, .int .u64 (r2 : Int), .int .i64 r3, .int .u64 (r4 : Int), .int .u64 (r5 : Int), .int .u64 (r6 : Int), .int .i64 r7, .int .i64 r8, .string (S r9), .string (S r10), .string (S r11), .slice ra rn rp], undef, .pointer (some ⟨w.heap.size, 0, none⟩), undef, .pointer (some ⟨w.heap.size, 4, none⟩), .int .u64 (r4 : Int), .pointer (some ⟨w.heap.size, 9, none⟩), .string (S r9), .pointer (some ⟨w.heap.size, 12, none⟩), .slice ra rn rp, .slice a1 rn p1, .agg #[.int .u64 (r4 : Int), .string (S r9), .slice a1 rn p1], undef, undef, undef, undef, undef, undef, undef, undef, undef, undef, undef, undef, undef, undef, undef, undef], defers := [] } _
      refine wpAnyH_ready (rs := [8]) (by kernel_rfl) (by simp) ?_
      refine AllReadyH.cons rfl (fun K hK => ?_) AllReadyH.nil
      · go_simp
        refine hK.out _ _ (by first | go_keep | exact HS.out _ (Below.refl _ _) | exact HS.out _ (Below.refl _ _).drew | exact HS.out _ hX | exact HS.out _ hX.drew | exact HS.out _ (hX.alloc hX.size _) | exact HS.out _ ((Below.refl _ _).alloc (Nat.le_refl _) _) | exact HS.out _ (((Below.refl _ _).alloc (Nat.le_refl _) _).drew) | exact HS.out _ HBG.out.bel) (fun hHeld => ?_)
        clear hK K
        change wpAnyH _ _ _ _ _ _ _ { tmps := #[.pointer (some ⟨sb, 0, none⟩), .agg #[.int .i64 r0, .int .i64 r1, .int .u64 (r2 : Int), .int .i64 r3, .int .u64 (r4 : Int), .int .u64 (r5 : Int), .int .u64 (r6 : Int), .int .i64 r7, .int .i64 r8, .string (S r9), .string (S r10), .string (S r11), .slice ra rn rp], undef, .pointer (some ⟨w.heap.size, 0, none⟩), .pointer (some ⟨u1.heap.size, 0, none⟩), .pointer (some ⟨w.heap.size, 4, none⟩), .int .u64 (r4 : Int), .pointer (some ⟨w.heap.size, 9, none⟩), .string (S r9), .pointer (some ⟨w.heap.size, 12, none⟩), .slice ra rn rp, .slice a1 rn p1, .agg #[.int .u64 (r4 : Int), .string (S r9), .slice a1 rn p1], undef, undef, undef, undef, undef, undef, undef, undef, undef, undef, undef, undef, undef, undef, undef, undef], defers := [] } _
        refine wpAnyH_ready (rs := [9]) (by kernel_rfl) (by simp) ?_
        refine AllReadyH.cons rfl (fun K hK => ?_) AllReadyH.nil
        · go_simp
          refine hK.out _ _ (by first | go_keep | exact HS.out _ (Below.refl _ _) | exact HS.out _ (Below.refl _ _).drew | exact HS.out _ hX | exact HS.out _ hX.drew | exact HS.out _ (hX.alloc hX.size _) | exact HS.out _ ((Below.refl _ _).alloc (Nat.le_refl _) _) | exact HS.out _ (((Below.refl _ _).alloc (Nat.le_refl _) _).drew) | exact HS.out _ HBG.out.bel) (fun hHeld => ?_)
          clear hK K
          change wpAnyH _ _ _ _ _ _ _ { tmps := #[.pointer (some ⟨sb, 0, none⟩), .agg #[.int .i64 r0, .int .i64 r1, .int .u64 (r2 : Int), .int .i64 r3, .int .u64 (r4 : Int), .int .u64 (r5 : Int), .int .u64 (r6 : Int), .int .i64 r7, .int .i64 r8, .string (S r9), .string (S r10), .string (S r11), .slice ra rn rp], undef, .pointer (some ⟨w.heap.size, 0, none⟩), .pointer (some ⟨u1.heap.size, 0, none⟩), .pointer (some ⟨w.heap.size, 4, none⟩), .int .u64 (r4 : Int), .pointer (some ⟨w.heap.size, 9, none⟩), .string (S r9), .pointer (some ⟨w.heap.size, 12, none⟩), .slice ra rn rp, .slice a1 rn p1, .agg #[.int .u64 (r4 : Int), .string (S r9), .slice a1 rn p1], undef, undef, undef, undef, undef, undef, undef, undef, undef, undef, undef, undef, undef, undef, undef, undef], defers := [] } _
          refine wpAnyH_done (by kernel_rfl) ?_ _
          exact ⟨a1, p1, _, rfl, HBG.out⟩
    refine AllReadyH.cons rfl (fun K hK => ?_) AllReadyH.nil
    · go_simp
      refine hK.out _ _ (by first | go_keep | exact HS.out _ (Below.refl _ _) | exact HS.out _ (Below.refl _ _).drew | exact HS.out _ hX | exact HS.out _ hX.drew | exact HS.out _ (hX.alloc hX.size _) | exact HS.out _ ((Below.refl _ _).alloc (Nat.le_refl _) _) | exact HS.out _ (((Below.refl _ _).alloc (Nat.le_refl _) _).drew) | exact HS.out _ HBG.out.bel) (fun hHeld => ?_)
      clear hK K
      change wpAnyH _ _ _ _ _ _ _ { tmps := #[.pointer (some ⟨sb, 0, none⟩), .agg #[.int .i64 r0, .int .i64 r1, .int .u64 (r2 : Int), .int .i64 r3, .int .u64 (r4 : Int), .int .u64 (r5 : Int), .int .u64 (r6 : Int), .int .i64 r7, .int .i64 r8, .string (S r9), .string (S r10), .string (S r11), .slice ra rn rp], undef, .pointer (some ⟨w.heap.size, 0, none⟩), .pointer (some ⟨W1.heap.size, 0, none⟩), .pointer (some ⟨w.heap.size, 4, none⟩), .int .u64 (r4 : Int), .pointer (some ⟨w.heap.size, 9, none⟩), .string (S r9), .pointer (some ⟨w.heap.size, 12, none⟩), .slice ra rn rp, undef, undef, undef, undef, undef, undef, undef, undef, undef, undef, undef, undef, undef, undef, undef, undef, undef, undef], defers := [] } _
      refine wpAnyH_ready (rs := [6]) (by kernel_rfl) (by simp) ?_
      refine AllReadyH.cons rfl (fun K hK => ?_) AllReadyH.nil
      · go_simp
        (go_at_call 35; refine (CF.out _ (B1.out.trans ((Below.refl _ W1).alloc B1.out.size _)).drew).mono ?_; rintro e u1 ⟨v1, rfl, q1, hX0⟩; obtain ⟨a1, p1, hs1, -⟩ := row_slice q1; rw [hrn] at hs1; subst hs1; (have hs0 : (W1.alloc (.cells #[.int .u64 0, .string ⟨#[]⟩, .slice none 0 0] 95)).drew.heap.size = W1.heap.size + 1 := by (show (W1.alloc _).heap.size = _; simp)); rw [hs0] at q1 hX0; (have hX1 : Below (W1.heap.size + 1) (W1.alloc (.cells #[.int .u64 0, .string ⟨#[]⟩, .slice none 0 0] 95)) u1 := ⟨hX0.os, hX0.tape, hX0.output, hX0.size, hX0.block⟩); (have hX : Below W1.heap.size W1 u1 := ((Below.refl _ W1).alloc (Nat.le_refl _) _).trans (hX1.mono (by omega))); (have HBG : Hid _ := Bgn.early (k := r4) (a := r9) hX1 q1); (have y0 := (hX1.cell (p := ⟨W1.heap.size, 0, none⟩) (by simp)).trans (World.cell?_alloc_new W1 _ _ _)); (have y1 := (hX1.cell (p := ⟨W1.heap.size, 1, none⟩) (by simp)).trans (World.cell?_alloc_new W1 _ _ _)); (have y2 := (hX1.cell (p := ⟨W1.heap.size, 2, none⟩) (by simp)).trans (World.cell?_alloc_new W1 _ _ _)); (have g0 : u1.frozen? ⟨W1.heap.size, 0, none⟩ = false := (hX1.frozen (p := ⟨W1.heap.size, 0, none⟩) (by simp)).trans (show (W1.alloc (.cells #[.int .u64 0, .string ⟨#[]⟩, .slice none 0 0] 95)).frozen? ⟨W1.heap.size, 0, none⟩ = false by go_simp)); (have g1 : u1.frozen? ⟨W1.heap.size, 1, none⟩ = false := (hX1.frozen (p := ⟨W1.heap.size, 1, none⟩) (by simp)).trans (show (W1.alloc (.cells #[.int .u64 0, .string ⟨#[]⟩, .slice none 0 0] 95)).frozen? ⟨W1.heap.size, 1, none⟩ = false by go_simp)); (have g2 : u1.frozen? ⟨W1.heap.size, 2, none⟩ = false := (hX1.frozen (p := ⟨W1.heap.size, 2, none⟩) (by simp)).trans (show (W1.alloc (.cells #[.int .u64 0, .string ⟨#[]⟩, .slice none 0 0] 95)).frozen? ⟨W1.heap.size, 2, none⟩ = false by go_simp)))
        go_wp2_with fail
        refine hK.out _ _ (by first | go_keep | exact HS.out _ (Below.refl _ _) | exact HS.out _ (Below.refl _ _).drew | exact HS.out _ hX | exact HS.out _ hX.drew | exact HS.out _ (hX.alloc hX.size _) | exact HS.out _ ((Below.refl _ _).alloc (Nat.le_refl _) _) | exact HS.out _ (((Below.refl _ _).alloc (Nat.le_refl _) _).drew) | exact HS.out _ HBG.out.bel) (fun hHeld => ?_)
        clear hK K
        change wpAnyH _ _ _ _ _ _ _ { tmps := #[.pointer (some ⟨sb, 0, none⟩), .agg #[.int .i64 r0, .int .i64 r1, .int .u64 (r2 : Int), .int .i64 r3, .int .u64 (r4 : Int), .int .u64 (r5 : Int), .int .u64 (r6 : Int), .int .i64 r7, .int .i64 r8, .string (S r9), .string (S r10), .string (S r11), .slice ra rn rp], undef, .pointer (some ⟨w.heap.size, 0, none⟩), .pointer (some ⟨W1.heap.size, 0, none⟩), .pointer (some ⟨w.heap.size, 4, none⟩), .int .u64 (r4 : Int), .pointer (some ⟨w.heap.size, 9, none⟩), .string (S r9), .pointer (some ⟨w.heap.size, 12, none⟩), .slice ra rn rp, .slice a1 rn p1, undef, undef, undef, undef, undef, undef, undef, undef, undef, undef, undef, undef, undef, undef, undef, undef, undef], defers := [] } _
        refine wpAnyH_take (i := 7) (v := ?_) rfl (by kernel_rfl) (by kernel_rfl) (by kernel_rfl) (fun _ _ _ h => h) (Or.inl ⟨by rfl, ?_⟩) (by assumption) ?_
        rotate_left 1
        · intro w hSw; (try dsimp only at hSw); go_simp; try with_reducible rfl
        change wpAnyH _ _ _ _ _ _ _ { tmps := #[.pointer (some ⟨sb, 0, none⟩), .agg #[.int .i64 r0, .int .i64 r1, .int .u64 (r2 : Int), .int .i64 r3, .int .u64 (r4 : Int), .int .u64 (r5 : Int), .int .u64 (r6 : Int), .int .i64 r7, .int .i64 r8, .string (S r9), .string (S r10), .string (S r11), .slice ra rn rp], undef, .pointer (some ⟨w.heap.size, 0, none⟩), .pointer (some ⟨W1.heap.size, 0, none⟩), .pointer (some ⟨w.heap.size, 4, none⟩), .int .u64 (r4 : Int), .pointer (some ⟨w.heap.size, 9, none⟩), .string (S r9), .pointer (some ⟨w.heap.size, 12, none⟩), .slice ra rn rp, .slice a1 rn p1, .agg #[.int .u64 (r4 : Int), .string (S r9), .slice a1 rn p1], undef, undef, undef, undef, undef, undef, undef, undef, undef, undef, undef, undef, undef, undef, undef, undef], defers := [] } _
        refine wpAnyH_ready (rs := [9]) (by kernel_rfl) (by simp) ?_
        refine AllReadyH.cons rfl (fun K hK => ?_) AllReadyH.nil
        · go_simp
          refine hK.out _ _ (by first | go_keep | exact HS.out _ (Below.refl _ _) | exact HS.out _ (Below.refl _ _).drew | exact HS.out _ hX | exact HS.out _ hX.drew | exact HS.out _ (hX.alloc hX.size _) | exact HS.out _ ((Below.refl _ _).alloc (Nat.le_refl _) _) | exact HS.out _ (((Below.refl _ _).alloc (Nat.le_refl _) _).drew) | exact HS.out _ HBG.out.bel) (fun hHeld => ?_)
          clear hK K
          change wpAnyH _ _ _ _ _ _ _ { tmps := #[.pointer (some ⟨sb, 0, none⟩), .agg #[.int .i64 r0, .int .i64 r1, .int .u64 (r2 : Int), .int .i64 r3, .int .u64 (r4 : Int), .int .u64 (r5 : Int), .int .u64 (r6 : Int), .int .i64 r7, .int .i64 r8, .string (S r9), .string (S r10), .string (S r11), .slice ra rn rp], undef, .pointer (some ⟨w.heap.size, 0, none⟩), .pointer (some ⟨W1.heap.size, 0, none⟩), .pointer (some ⟨w.heap.size, 4, none⟩), .int .u64 (r4 : Int), .pointer (some ⟨w.heap.size, 9, none⟩), .string (S r9), .pointer (some ⟨w.heap.size, 12, none⟩), .slice ra rn rp, .slice a1 rn p1, .agg #[.int .u64 (r4 : Int), .string (S r9), .slice a1 rn p1], undef, undef, undef, undef, undef, undef, undef, undef, undef, undef, undef, undef, undef, undef, undef, undef], defers := [] } _
          refine wpAnyH_done (by kernel_rfl) ?_ _
          exact ⟨a1, p1, _, rfl, HBG.out⟩
  case post =>
    clear c4 c9 c12 HS CF
    intro e a' w' hq
    obtain ⟨rfl, a1, p1, xb, rfl, hbg⟩ : e = .normal ∧ ∃ a1 p1 xb, a' = { tmps := #[.pointer (some ⟨sb, 0, none⟩), .agg #[.int .i64 r0, .int .i64 r1, .int .u64 (r2 : Int), .int .i64 r3, .int .u64 (r4 : Int), .int .u64 (r5 : Int), .int .u64 (r6 : Int), .int .i64 r7, .int .i64 r8, .string (S r9), .string (S r10), .string (S r11), .slice ra rn rp], undef, .pointer (some ⟨w.heap.size, 0, none⟩), .pointer (some ⟨xb, 0, none⟩), .pointer (some ⟨w.heap.size, 4, none⟩), .int .u64 (r4 : Int), .pointer (some ⟨w.heap.size, 9, none⟩), .string (S r9), .pointer (some ⟨w.heap.size, 12, none⟩), .slice ra rn rp, .slice a1 rn p1, .agg #[.int .u64 (r4 : Int), .string (S r9), .slice a1 rn p1], undef, undef, undef, undef, undef, undef, undef, undef, undef, undef, undef, undef, undef, undef, undef, undef], defers := [] } ∧ Bgn W1 w' xb r4 r9 (.slice a1 rn p1) rv := by
      cases e <;> first | exact ⟨rfl, hq⟩ | exact hq.elim
    have hbw : Below w.heap.size w w' := bel_of B1.out hbg.bel (Nat.le_refl _)
    have hW1 := B1.out.size
    have hx' : (In.r ⟨r4, r9, .slice a1 rn p1, rv⟩).ok w.heap.size w' := (Own.base (Own.single (r := In.r ⟨r4, r9, .slice a1 rn p1, rv⟩) hbg.row) hW1).own _ (List.mem_cons_self ..)
    have hS' := HH.out.up hbw
    obtain ⟨aI, cI, hsI, -⟩ := row_slice hS'.rIn
    have CP : Hid (Calls Tryz.prog 84 #[s.vIn, .agg (In.c ⟨r4, r9, .slice a1 rn p1, rv⟩).toArray, .func (.func 85) #[] #[], .func (.func 86) #[] #[]] w'.drew (PtIn B w'.drew s.vIn (putL In.kk ltU s.insts ⟨r4, r9, .slice a1 rn p1, rv⟩))) := putIn_any ⟨r4, r9, .slice a1 rn p1, rv⟩ (w := w'.drew) hS'.rIn (Nat.le_trans hB hbw.size) hz ⟨_, _, _, rfl⟩ hsl
    have HE : Hid (∀ v3 w3, w3.ownsRow B 95 3 v3 (putL In.kk ltU s.insts ⟨r4, r9, .slice a1 rn p1, rv⟩).length ((putL In.kk ltU s.insts ⟨r4, r9, .slice a1 rn p1, rv⟩).flatMap In.c) → Ch (fun g => s.vIn.ownBlock = some g) w'.drew w3 → (∀ g, v3.ownBlock = some g → s.vIn.ownBlock = some g ∨ w'.drew.heap.size ≤ g) → Eff B w sb (eBegan s.e ⟨r0, r1, r2, r3, r4, r5, r6, r7, r8, r9, r10, r11, .slice ra rn rp, rv⟩) ((w3.setCell ⟨sb, 4, none⟩ v3).setCell ⟨sb, 2, none⟩ (.int .u64 (up1 s.made : Int))) ∧ (∀ (j : Nat) (u : Value), s.c[j]? = some u → w3.cell? ⟨sb, j, none⟩ = some u) ∧ (∀ j : Nat, w3.frozen? ⟨sb, j, none⟩ = false)) := by
      intro v3 w3 hr3 hc3 hn3
      obtain ⟨k1, k2, k3⟩ := HH.out.putIn (w1 := w'.drew) (w2 := w3) hbw.drew hB hx' hr3 hc3 hn3
      have hb3 : Below B w w3 := (hbw.drew.mono hB).trans ((Own.ge hc3 (Nat.le_trans hB hbw.size) (fun g hg => (hS'.rIn.lt g hg).1)))
      refine ⟨⟨_, k1 _, ?_, ?_⟩, k2, k3⟩
      · simp only [St.e, eBegan]
        rw [putL_map In.kk ltU s.insts _ In.e (fun y => rfl)]
        rfl
      · have hl := HH.out.lt
        refine (hb3.trans (Ch.below (((Ch.refl (fun b => b = sb) w3).setCell ⟨sb, 4, none⟩ v3 (fun _ => rfl)).setCell ⟨sb, 2, none⟩ _ (fun _ => rfl)) (Nat.le_trans hB (Nat.le_trans hbw.size hc3.size)) (fun g hg e => by omega)))
    have m4 := hS'.cell (j := 4) (u := s.vIn) rfl
    have f4 := hS'.fro 4
    have hxo := hbg.obj
    have z0 : w'.cell? ⟨xb, 0, none⟩ = some (.int .u64 (r4 : Int)) := by simp [World.cell?, hxo]
    have z1 : w'.cell? ⟨xb, 1, none⟩ = some (.string (S r9)) := by simp [World.cell?, hxo]
    have z2 : w'.cell? ⟨xb, 2, none⟩ = some (.slice a1 rn p1) := by simp [World.cell?, hxo]
    have HU : Hid (IntKind.u64.wrap ((s.made : Int) + 1) = ((up1 s.made : Nat) : Int)) := up1_wrap _
    simp only [In.c] at CP
    rw [hsI] at CP HE m4
    have HSI : Hid (s.vIn = .slice aI s.insts.length cI) := hsI
    clear hq hx' hS' hbg hxo hsI hbw hsl hz hB
    have hU := HU.out
    go_wp2
    go_region_with (first
      | (go_at_call 84; refine CP.out.mono ?_; rintro e w3 ⟨v3, rfl, hr3, hc3, hn3⟩; obtain ⟨a3, d3, hs3, -⟩ := row_slice hr3; subst hs3; obtain ⟨k1, k2, k3⟩ := HE.out _ w3 hr3 hc3 hn3; (have K1 : Hid _ := k1); (have m2 := k2 2 _ rfl); (have m5 := k2 4 _ rfl); (have f2 := k3 2); (have f5 := k3 4); clear k1 k2 k3 hr3 hc3 hn3))
    all_goals
      go_wp2
      go_end0
      exact ⟨rfl, K1.out⟩
end Go.Proofs.YthmfcloecmnfnaaGreat.f13

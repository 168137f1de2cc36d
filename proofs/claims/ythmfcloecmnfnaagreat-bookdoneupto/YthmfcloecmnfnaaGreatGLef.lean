/-
  What left.
-/
import Derived.Test.YthmfcloecmnfnaaGreatF13Ent
import Derived.Test.YthmfcloecmnfnaaGreatF13Del
namespace Go.Proofs.YthmfcloecmnfnaaGreat.f13
open Go.RowKit Go.Shelf Go.Sort
open Go.Lib hiding intOf

/-- the list of one kind becomes another one (with nothing within) -/
theorem Sx.toJb {B : Nat} {w w2 : World} {sb : Nat} {s : St} {l : List Jb} {v : Value} (h : Sx B w sb s) (hp : w2.ownsRow B 46 6 v l.length (l.flatMap Jb.c)) (hc : Ch (fun g => s.vJb.ownBlock = some g) w w2) (hn : ∀ g, v.ownBlock = some g → s.vJb.ownBlock = some g ∨ w.heap.size ≤ g) :
    Sx B (w2.setCell ⟨sb, 6, none⟩ v) sb { s with vJb := v, jobs := l } ∧ (∀ (j : Nat) (u : Value), s.c[j]? = some u → w2.cell? ⟨sb, j, none⟩ = some u) ∧ (∀ j : Nat, w2.frozen? ⟨sb, j, none⟩ = false) := by
  have h2 := Own.perm (M := Jb.rw s.vJb s.jobs :: (bx sb s.c :: (De.rw s.vDe s.procs :: In.rw s.vIn s.insts :: Tk.rw s.vTk s.tokens :: Tm.rw s.vTm s.timers :: Sb.rw s.vSb s.subs :: Kp.rw s.vKp s.kept :: Ls.rw s.vLs s.listed :: Ms.rw s.vMs s.msgs :: s.inner))) h (perm_ac fun z => by
    simp only [St.rows, St.main, List.count_append, List.count_cons, List.count_nil, Nat.zero_add]
    ac_rfl)
  have h3 := h2.turn (r' := Jb.rw v l) hc hp hn
  have h4 := h3.perm (M := bx sb s.c :: (De.rw s.vDe s.procs :: In.rw s.vIn s.insts :: Tk.rw s.vTk s.tokens :: Jb.rw v l :: Tm.rw s.vTm s.timers :: Sb.rw s.vSb s.subs :: Kp.rw s.vKp s.kept :: Ls.rw s.vLs s.listed :: Ms.rw s.vMs s.msgs :: s.inner)) (perm_ac fun z => by
    simp only [List.count_cons]
    ac_rfl)
  exact ⟨bx.put h4 6 v, fun j u hj => bx.cell h4 (List.mem_cons_self ..) hj, fun j => bx.fro h4 (List.mem_cons_self ..) j⟩

/-- the list of one kind becomes another one (with nothing within) -/
theorem Sx.toTm {B : Nat} {w w2 : World} {sb : Nat} {s : St} {l : List Tm} {v : Value} (h : Sx B w sb s) (hp : w2.ownsRow B 70 3 v l.length (l.flatMap Tm.c)) (hc : Ch (fun g => s.vTm.ownBlock = some g) w w2) (hn : ∀ g, v.ownBlock = some g → s.vTm.ownBlock = some g ∨ w.heap.size ≤ g) :
    Sx B (w2.setCell ⟨sb, 7, none⟩ v) sb { s with vTm := v, timers := l } ∧ (∀ (j : Nat) (u : Value), s.c[j]? = some u → w2.cell? ⟨sb, j, none⟩ = some u) ∧ (∀ j : Nat, w2.frozen? ⟨sb, j, none⟩ = false) := by
  have h2 := Own.perm (M := Tm.rw s.vTm s.timers :: (bx sb s.c :: (De.rw s.vDe s.procs :: In.rw s.vIn s.insts :: Tk.rw s.vTk s.tokens :: Jb.rw s.vJb s.jobs :: Sb.rw s.vSb s.subs :: Kp.rw s.vKp s.kept :: Ls.rw s.vLs s.listed :: Ms.rw s.vMs s.msgs :: s.inner))) h (perm_ac fun z => by
    simp only [St.rows, St.main, List.count_append, List.count_cons, List.count_nil, Nat.zero_add]
    ac_rfl)
  have h3 := h2.turn (r' := Tm.rw v l) hc hp hn
  have h4 := h3.perm (M := bx sb s.c :: (De.rw s.vDe s.procs :: In.rw s.vIn s.insts :: Tk.rw s.vTk s.tokens :: Jb.rw s.vJb s.jobs :: Tm.rw v l :: Sb.rw s.vSb s.subs :: Kp.rw s.vKp s.kept :: Ls.rw s.vLs s.listed :: Ms.rw s.vMs s.msgs :: s.inner)) (perm_ac fun z => by
    simp only [List.count_cons]
    ac_rfl)
  exact ⟨bx.put h4 7 v, fun j u hj => bx.cell h4 (List.mem_cons_self ..) hj, fun j => bx.fro h4 (List.mem_cons_self ..) j⟩

/-- the list of one kind becomes another one (with nothing within) -/
theorem Sx.toSb {B : Nat} {w w2 : World} {sb : Nat} {s : St} {l : List Sb} {v : Value} (h : Sx B w sb s) (hp : w2.ownsRow B 107 6 v l.length (l.flatMap Sb.c)) (hc : Ch (fun g => s.vSb.ownBlock = some g) w w2) (hn : ∀ g, v.ownBlock = some g → s.vSb.ownBlock = some g ∨ w.heap.size ≤ g) :
    Sx B (w2.setCell ⟨sb, 8, none⟩ v) sb { s with vSb := v, subs := l } ∧ (∀ (j : Nat) (u : Value), s.c[j]? = some u → w2.cell? ⟨sb, j, none⟩ = some u) ∧ (∀ j : Nat, w2.frozen? ⟨sb, j, none⟩ = false) := by
  have h2 := Own.perm (M := Sb.rw s.vSb s.subs :: (bx sb s.c :: (De.rw s.vDe s.procs :: In.rw s.vIn s.insts :: Tk.rw s.vTk s.tokens :: Jb.rw s.vJb s.jobs :: Tm.rw s.vTm s.timers :: Kp.rw s.vKp s.kept :: Ls.rw s.vLs s.listed :: Ms.rw s.vMs s.msgs :: s.inner))) h (perm_ac fun z => by
    simp only [St.rows, St.main, List.count_append, List.count_cons, List.count_nil, Nat.zero_add]
    ac_rfl)
  have h3 := h2.turn (r' := Sb.rw v l) hc hp hn
  have h4 := h3.perm (M := bx sb s.c :: (De.rw s.vDe s.procs :: In.rw s.vIn s.insts :: Tk.rw s.vTk s.tokens :: Jb.rw s.vJb s.jobs :: Tm.rw s.vTm s.timers :: Sb.rw v l :: Kp.rw s.vKp s.kept :: Ls.rw s.vLs s.listed :: Ms.rw s.vMs s.msgs :: s.inner)) (perm_ac fun z => by
    simp only [List.count_cons]
    ac_rfl)
  exact ⟨bx.put h4 8 v, fun j u hj => bx.cell h4 (List.mem_cons_self ..) hj, fun j => bx.fro h4 (List.mem_cons_self ..) j⟩

set_option maxHeartbeats 1000000 in
theorem waitJb_any (x : Jb) {w : World} {ib kf : Nat} {caps : Array Value} {b : Bool} (hi : w.cell? ⟨ib, 0, none⟩ = some (.func (.func kf) #[] caps)) (ek : Ent0 kf) (hq : ∀ W, Below w.heap.size w W → Calls Tryz.prog kf (#[.int .u64 (x.token : Int)] ++ caps) W fun e W' => e = .returned (.bool b) ∧ Below W.heap.size W W') :
    Calls Tryz.prog 149 #[.agg (Jb.c x).toArray, .pointer (some ⟨ib, 0, none⟩)] w fun e w' => e = .returned (.bool b) ∧ Below w.heap.size w w' := by
  have hil := World.block_lt_of_cell? w _ hi
  obtain ⟨x0, x1, x2, x3, x4, x5⟩ := x
  simp only [Jb.c] at hq ⊢
  have hb0 : Below w.heap.size w (w.alloc (.cells #[.int .u64 (x0 : Int), .int .u64 (x1 : Int), .string (S x2), .int .i64 x3, .string (S x4), .int .i64 x5] 46)) := (Below.refl _ w).alloc (Nat.le_refl _) _
  have CQ := hq _ hb0
  have mi := (hb0.cell (p := ⟨ib, 0, none⟩) hil).trans hi
  have B1 : Hid (Below w.heap.size w (w.alloc (.cells #[.int .u64 (x0 : Int), .int .u64 (x1 : Int), .string (S x2), .int .i64 x3, .string (S x4), .int .i64 x5] 46))) := hb0
  unfold Ent0 at ek
  clear hb0 hq hi
  go_enter Tryz.func149, Tryz.ntmps149
  go_wp2
  refine CQ.mono ?_
  rintro e w1 ⟨rfl, b1⟩
  have B2 : Hid (Below w.heap.size w w1) := bel_of B1.out b1 (Nat.le_refl _)
  clear b1 CQ
  go_wp2
  go_ret
  exact ⟨rfl, B2.out⟩

set_option maxHeartbeats 1000000 in
theorem waitTm_any (x : Tm) {w : World} {ib kf : Nat} {caps : Array Value} {b : Bool} (hi : w.cell? ⟨ib, 0, none⟩ = some (.func (.func kf) #[] caps)) (ek : Ent0 kf) (hq : ∀ W, Below w.heap.size w W → Calls Tryz.prog kf (#[.int .u64 (x.token : Int)] ++ caps) W fun e W' => e = .returned (.bool b) ∧ Below W.heap.size W W') :
    Calls Tryz.prog 151 #[.agg (Tm.c x).toArray, .pointer (some ⟨ib, 0, none⟩)] w fun e w' => e = .returned (.bool b) ∧ Below w.heap.size w w' := by
  have hil := World.block_lt_of_cell? w _ hi
  obtain ⟨x0, x1, x2⟩ := x
  simp only [Tm.c] at hq ⊢
  have hb0 : Below w.heap.size w (w.alloc (.cells #[.int .u64 (x0 : Int), .int .i64 x1, .int .i64 x2] 70)) := (Below.refl _ w).alloc (Nat.le_refl _) _
  have CQ := hq _ hb0
  have mi := (hb0.cell (p := ⟨ib, 0, none⟩) hil).trans hi
  have B1 : Hid (Below w.heap.size w (w.alloc (.cells #[.int .u64 (x0 : Int), .int .i64 x1, .int .i64 x2] 70))) := hb0
  unfold Ent0 at ek
  clear hb0 hq hi
  go_enter Tryz.func151, Tryz.ntmps151
  go_wp2
  refine CQ.mono ?_
  rintro e w1 ⟨rfl, b1⟩
  have B2 : Hid (Below w.heap.size w w1) := bel_of B1.out b1 (Nat.le_refl _)
  clear b1 CQ
  go_wp2
  go_ret
  exact ⟨rfl, B2.out⟩

set_option maxHeartbeats 1000000 in
theorem waitSb_any (x : Sb) {w : World} {ib kf : Nat} {caps : Array Value} {b : Bool} (hi : w.cell? ⟨ib, 0, none⟩ = some (.func (.func kf) #[] caps)) (ek : Ent0 kf) (hq : ∀ W, Below w.heap.size w W → Calls Tryz.prog kf (#[.int .u64 (x.token : Int)] ++ caps) W fun e W' => e = .returned (.bool b) ∧ Below W.heap.size W W') :
    Calls Tryz.prog 153 #[.agg (Sb.c x).toArray, .pointer (some ⟨ib, 0, none⟩)] w fun e w' => e = .returned (.bool b) ∧ Below w.heap.size w w' := by
  have hil := World.block_lt_of_cell? w _ hi
  obtain ⟨x0, x1, x2, x3, x4, x5⟩ := x
  simp only [Sb.c] at hq ⊢
  have hb0 : Below w.heap.size w (w.alloc (.cells #[.int .u64 (x0 : Int), .int .u64 (x1 : Int), .int .i64 x2, .string (S x3), .string (S x4), .bool x5] 107)) := (Below.refl _ w).alloc (Nat.le_refl _) _
  have CQ := hq _ hb0
  have mi := (hb0.cell (p := ⟨ib, 0, none⟩) hil).trans hi
  have B1 : Hid (Below w.heap.size w (w.alloc (.cells #[.int .u64 (x0 : Int), .int .u64 (x1 : Int), .int .i64 x2, .string (S x3), .string (S x4), .bool x5] 107))) := hb0
  unfold Ent0 at ek
  clear hb0 hq hi
  go_enter Tryz.func153, Tryz.ntmps153
  go_wp2
  refine CQ.mono ?_
  rintro e w1 ⟨rfl, b1⟩
  have B2 : Hid (Below w.heap.size w w1) := bel_of B1.out b1 (Nat.le_refl _)
  clear b1 CQ
  go_wp2
  go_ret
  exact ⟨rfl, B2.out⟩

set_option maxHeartbeats 1000000 in
set_option maxRecDepth 100000 in
/-- one list of what tokens wait for, at whatever world behind w that differs below M alone -/
theorem stepJb {B M : Nat} {w W : World} {sb kf ib : Nat} {s : St} {caps : Array Value} (q : Nat → Bool) (h : Sx B W sb s) (hM : M ≤ ib) (hC : Ch (fun g => g < M) w W) (hi : w.cell? ⟨ib, 0, none⟩ = some (.func (.func kf) #[] caps)) (ek : Ent0 kf) (K : Nat → Prop) (hq : ∀ tok : Nat, K tok → Say (fun g => g < M) w kf caps #[.int .u64 (tok : Int)] (q tok)) (hK : ∀ x ∈ s.jobs, K x.token) (hl : ∀ g, s.vJb.ownBlock = some g → g < M) (hls : sb < M) (hn : s.jobs.length * 64 ≤ 211106232528000) (hB : B ≤ W.heap.size) :
    Calls Tryz.prog 148 #[s.vJb, .func (.func 149) #[] #[.pointer (some ⟨ib, 0, none⟩)]] W fun e w' => ∃ a n c, e = .returned (.slice a n c) ∧ Sx B (w'.setCell ⟨sb, 6, none⟩ (.slice a n c)) sb { s with vJb := .slice a n c, jobs := s.jobs.filter fun x => !q x.token } ∧ Ch (fun g => g < M) w (w'.setCell ⟨sb, 6, none⟩ (.slice a n c)) ∧ Below B W (w'.setCell ⟨sb, 6, none⟩ (.slice a n c)) ∧ (∃ u, w'.cell? ⟨sb, 6, none⟩ = some u) ∧ w'.frozen? ⟨sb, 6, none⟩ = false := by
  have ek1 : Ent0 149 := enters_of Tryz.func149 (by kernel_rfl) rfl
  have hsay : ∀ x ∈ s.jobs, Say (fun g => s.vJb.ownBlock = some g) W 149 #[.pointer (some ⟨ib, 0, none⟩)] #[.agg (Jb.c x).toArray] (q x.token) := by
    intro x hx W' hW'
    have hC' : Ch (fun g => g < M) w W' := hC.trans (hW'.mono (fun g _ e => hl g e))
    have hi' : W'.cell? ⟨ib, 0, none⟩ = some (.func (.func kf) #[] caps) := hC'.cell hi (fun e => by simp only at e; omega)
    exact waitJb_any x hi' ek (fun W'' hW'' => hq x.token (hK x hx) W'' (hC'.trans (Ch.of_below hW'')))
  have hlen : s.jobs.length ≤ 4611686018427387904 := by omega
  refine (takeJb_any (B := B) (fun x => q x.token) h.rJb hlen ek1 hsay).mono ?_
  rintro e w1 ⟨v1, rfl, r1, c1, o1⟩
  obtain ⟨a, c, rfl, -⟩ := row_slice r1
  obtain ⟨k1, k2, k3⟩ := h.toJb r1 c1 (fun g hg => .inl (by rw [← o1]; exact hg))
  refine ⟨a, _, c, rfl, k1, ?_, ?_, ⟨_, k2 6 _ rfl⟩, k3 6⟩
  · exact (hC.trans (c1.mono (fun g _ e => hl g e))).setCell _ _ (fun _ => hls)
  · have hb1 : Below B W w1 := Own.ge c1 hB (fun g hg => (h.rJb.lt g hg).1)
    exact hb1.trans (((Ch.refl (fun b => b = sb) w1).setCell ⟨sb, 6, none⟩ _ (fun _ => rfl)).below (Nat.le_trans hB c1.size) (fun g hg e => by have := h.lt.1; omega))

set_option maxHeartbeats 1000000 in
set_option maxRecDepth 100000 in
/-- one list of what tokens wait for, at whatever world behind w that differs below M alone -/
theorem stepTm {B M : Nat} {w W : World} {sb kf ib : Nat} {s : St} {caps : Array Value} (q : Nat → Bool) (h : Sx B W sb s) (hM : M ≤ ib) (hC : Ch (fun g => g < M) w W) (hi : w.cell? ⟨ib, 0, none⟩ = some (.func (.func kf) #[] caps)) (ek : Ent0 kf) (K : Nat → Prop) (hq : ∀ tok : Nat, K tok → Say (fun g => g < M) w kf caps #[.int .u64 (tok : Int)] (q tok)) (hK : ∀ x ∈ s.timers, K x.token) (hl : ∀ g, s.vTm.ownBlock = some g → g < M) (hls : sb < M) (hn : s.timers.length * 24 ≤ 211106232528000) (hB : B ≤ W.heap.size) :
    Calls Tryz.prog 150 #[s.vTm, .func (.func 151) #[] #[.pointer (some ⟨ib, 0, none⟩)]] W fun e w' => ∃ a n c, e = .returned (.slice a n c) ∧ Sx B (w'.setCell ⟨sb, 7, none⟩ (.slice a n c)) sb { s with vTm := .slice a n c, timers := s.timers.filter fun x => !q x.token } ∧ Ch (fun g => g < M) w (w'.setCell ⟨sb, 7, none⟩ (.slice a n c)) ∧ Below B W (w'.setCell ⟨sb, 7, none⟩ (.slice a n c)) ∧ (∃ u, w'.cell? ⟨sb, 7, none⟩ = some u) ∧ w'.frozen? ⟨sb, 7, none⟩ = false := by
  have ek1 : Ent0 151 := enters_of Tryz.func151 (by kernel_rfl) rfl
  have hsay : ∀ x ∈ s.timers, Say (fun g => s.vTm.ownBlock = some g) W 151 #[.pointer (some ⟨ib, 0, none⟩)] #[.agg (Tm.c x).toArray] (q x.token) := by
    intro x hx W' hW'
    have hC' : Ch (fun g => g < M) w W' := hC.trans (hW'.mono (fun g _ e => hl g e))
    have hi' : W'.cell? ⟨ib, 0, none⟩ = some (.func (.func kf) #[] caps) := hC'.cell hi (fun e => by simp only at e; omega)
    exact waitTm_any x hi' ek (fun W'' hW'' => hq x.token (hK x hx) W'' (hC'.trans (Ch.of_below hW'')))
  have hlen : s.timers.length ≤ 4611686018427387904 := by omega
  refine (takeTm_any (B := B) (fun x => q x.token) h.rTm hlen ek1 hsay).mono ?_
  rintro e w1 ⟨v1, rfl, r1, c1, o1⟩
  obtain ⟨a, c, rfl, -⟩ := row_slice r1
  obtain ⟨k1, k2, k3⟩ := h.toTm r1 c1 (fun g hg => .inl (by rw [← o1]; exact hg))
  refine ⟨a, _, c, rfl, k1, ?_, ?_, ⟨_, k2 7 _ rfl⟩, k3 7⟩
  · exact (hC.trans (c1.mono (fun g _ e => hl g e))).setCell _ _ (fun _ => hls)
  · have hb1 : Below B W w1 := Own.ge c1 hB (fun g hg => (h.rTm.lt g hg).1)
    exact hb1.trans (((Ch.refl (fun b => b = sb) w1).setCell ⟨sb, 7, none⟩ _ (fun _ => rfl)).below (Nat.le_trans hB c1.size) (fun g hg e => by have := h.lt.1; omega))

set_option maxHeartbeats 1000000 in
set_option maxRecDepth 100000 in
/-- one list of what tokens wait for, at whatever world behind w that differs below M alone -/
theorem stepSb {B M : Nat} {w W : World} {sb kf ib : Nat} {s : St} {caps : Array Value} (q : Nat → Bool) (h : Sx B W sb s) (hM : M ≤ ib) (hC : Ch (fun g => g < M) w W) (hi : w.cell? ⟨ib, 0, none⟩ = some (.func (.func kf) #[] caps)) (ek : Ent0 kf) (K : Nat → Prop) (hq : ∀ tok : Nat, K tok → Say (fun g => g < M) w kf caps #[.int .u64 (tok : Int)] (q tok)) (hK : ∀ x ∈ s.subs, K x.token) (hl : ∀ g, s.vSb.ownBlock = some g → g < M) (hls : sb < M) (hn : s.subs.length * 64 ≤ 211106232528000) (hB : B ≤ W.heap.size) :
    Calls Tryz.prog 152 #[s.vSb, .func (.func 153) #[] #[.pointer (some ⟨ib, 0, none⟩)]] W fun e w' => ∃ a n c, e = .returned (.slice a n c) ∧ Sx B (w'.setCell ⟨sb, 8, none⟩ (.slice a n c)) sb { s with vSb := .slice a n c, subs := s.subs.filter fun x => !q x.token } ∧ Ch (fun g => g < M) w (w'.setCell ⟨sb, 8, none⟩ (.slice a n c)) ∧ Below B W (w'.setCell ⟨sb, 8, none⟩ (.slice a n c)) ∧ (∃ u, w'.cell? ⟨sb, 8, none⟩ = some u) ∧ w'.frozen? ⟨sb, 8, none⟩ = false := by
  have ek1 : Ent0 153 := enters_of Tryz.func153 (by kernel_rfl) rfl
  have hsay : ∀ x ∈ s.subs, Say (fun g => s.vSb.ownBlock = some g) W 153 #[.pointer (some ⟨ib, 0, none⟩)] #[.agg (Sb.c x).toArray] (q x.token) := by
    intro x hx W' hW'
    have hC' : Ch (fun g => g < M) w W' := hC.trans (hW'.mono (fun g _ e => hl g e))
    have hi' : W'.cell? ⟨ib, 0, none⟩ = some (.func (.func kf) #[] caps) := hC'.cell hi (fun e => by simp only at e; omega)
    exact waitSb_any x hi' ek (fun W'' hW'' => hq x.token (hK x hx) W'' (hC'.trans (Ch.of_below hW'')))
  have hlen : s.subs.length ≤ 4611686018427387904 := by omega
  refine (takeSb_any (B := B) (fun x => q x.token) h.rSb hlen ek1 hsay).mono ?_
  rintro e w1 ⟨v1, rfl, r1, c1, o1⟩
  obtain ⟨a, c, rfl, -⟩ := row_slice r1
  obtain ⟨k1, k2, k3⟩ := h.toSb r1 c1 (fun g hg => .inl (by rw [← o1]; exact hg))
  refine ⟨a, _, c, rfl, k1, ?_, ?_, ⟨_, k2 8 _ rfl⟩, k3 8⟩
  · exact (hC.trans (c1.mono (fun g _ e => hl g e))).setCell _ _ (fun _ => hls)
  · have hb1 : Below B W w1 := Own.ge c1 hB (fun g hg => (h.rSb.lt g hg).1)
    exact hb1.trans (((Ch.refl (fun b => b = sb) w1).setCell ⟨sb, 8, none⟩ _ (fun _ => rfl)).below (Nat.le_trans hB c1.size) (fun g hg e => by have := h.lt.1; omega))

/-- what is left of a state whose tokens' things are taken away -/
def eWait (s : St) (q : Nat → Bool) : St := { s with jobs := s.jobs.filter (fun x => !q x.token), timers := s.timers.filter (fun x => !q x.token), subs := s.subs.filter (fun x => !q x.token) }
set_option maxHeartbeats 4000000 in
set_option maxRecDepth 100000 in
theorem waitNoMore_any {B M : Nat} {w : World} {sb kf : Nat} {s : St} {caps : Array Value} (q : Nat → Bool) (h : Sx B w sb s) (hB : B ≤ w.heap.size) (hM : M ≤ w.heap.size) (ek : Ent0 kf) (K : Nat → Prop) (hq : ∀ tok : Nat, K tok → Say (fun g => g < M) w kf caps #[.int .u64 (tok : Int)] (q tok)) (kJ : ∀ x ∈ s.jobs, K x.token) (kT : ∀ x ∈ s.timers, K x.token) (kS : ∀ x ∈ s.subs, K x.token) (lJ : ∀ g, s.vJb.ownBlock = some g → g < M) (lT : ∀ g, s.vTm.ownBlock = some g → g < M) (lS : ∀ g, s.vSb.ownBlock = some g → g < M) (hls : sb < M) (nJ : s.jobs.length * 64 ≤ 211106232528000) (nT : s.timers.length * 24 ≤ 211106232528000) (nS : s.subs.length * 64 ≤ 211106232528000) :
    Calls Tryz.prog 91 #[.pointer (some ⟨sb, 0, none⟩), .func (.func kf) #[] caps] w fun e w' => e = .returned (.tuple #[]) ∧ Eff B w sb (eWait s.e q) w' := by
  have hb0 : Below w.heap.size w (w.alloc (.cells #[.func (.func kf) #[] caps] 148)) := (Below.refl _ w).alloc (Nat.le_refl _) _
  have hC0 : Ch (fun g => g < M) w (w.alloc (.cells #[.func (.func kf) #[] caps] 148)) := Ch.of_below hb0
  have hi0 : (w.alloc (.cells #[.func (.func kf) #[] caps] 148)).cell? ⟨w.heap.size, 0, none⟩ = some (.func (.func kf) #[] caps) := World.cell?_alloc_new _ _ _ _
  have hq0 := fun tok hk => (hq tok hk).ch hC0
  have hS0 := h.up hb0
  have hB0 : B ≤ (w.alloc (.cells #[.func (.func kf) #[] caps] 148)).heap.size := Nat.le_trans hB hb0.size
  have CJ := stepJb q hS0 hM (Ch.refl _ _) hi0 ek K hq0 kJ lJ hls nJ hB0
  have HT : Hid (∀ W t, Sx B W sb t → Ch (fun g => g < M) (w.alloc (.cells #[.func (.func kf) #[] caps] 148)) W → t.vTm = s.vTm → t.timers = s.timers → _) := fun W t hS hC e1 e2 => stepTm (s := t) q hS hM hC hi0 ek K hq0 (by rw [e2]; exact kT) (by rw [e1]; exact lT) hls (by rw [e2]; exact nT) (Nat.le_trans hB0 hC.size)
  have HSb : Hid (∀ W t, Sx B W sb t → Ch (fun g => g < M) (w.alloc (.cells #[.func (.func kf) #[] caps] 148)) W → t.vSb = s.vSb → t.subs = s.subs → _) := fun W t hS hC e1 e2 => stepSb (s := t) q hS hM hC hi0 ek K hq0 (by rw [e2]; exact kS) (by rw [e1]; exact lS) hls (by rw [e2]; exact nS) (Nat.le_trans hB0 hC.size)
  have mJ := hS0.cell (j := 6) (u := s.vJb) rfl
  obtain ⟨aJ, dJ, hsJ, -⟩ := row_slice h.rJb
  obtain ⟨aT, dT, hsT, -⟩ := row_slice h.rTm
  obtain ⟨aS, dS, hsS, -⟩ := row_slice h.rSb
  have HJ : Hid (s.vJb = .slice aJ s.jobs.length dJ) := hsJ
  have HTv : Hid (s.vTm = .slice aT s.timers.length dT) := hsT
  have HSv : Hid (s.vSb = .slice aS s.subs.length dS) := hsS
  have BB : Hid (Below B w (w.alloc (.cells #[.func (.func kf) #[] caps] 148))) := hb0.mono hB
  rw [hsJ] at CJ mJ
  clear h hb0 hC0 hq hq0 hS0 kJ kT kS lJ lT lS hsJ hsT hsS hi0 ek
  go_enter Tryz.func91, Tryz.ntmps91
  go_wp2_with (first
    | (go_at_call 148; refine CJ.mono ?_; rintro e w1 ⟨a1, n1, c1, rfl, k1, k2, k3, ⟨u1, p1⟩, f1⟩; (have CT := HT.out _ _ k1 k2 rfl rfl); (have mT := k1.cell (j := 7) (u := s.vTm) rfl); rw [HTv.out] at mT; simp only [HTv.out] at CT; (have BB1 : Hid (Below B w _) := BB.out.trans k3); clear k1 k2 k3 CJ HT mJ)
    | (go_at_call 150; refine CT.mono ?_; rintro e w2 ⟨a2, n2, c2, rfl, k1, k2, k3, ⟨u2, p2⟩, f2⟩; (have CS := HSb.out _ _ k1 k2 rfl rfl); (have mS := k1.cell (j := 8) (u := s.vSb) rfl); rw [HSv.out] at mS; simp only [HSv.out] at CS; (have BB2 : Hid (Below B w _) := BB1.out.trans k3); clear k1 k2 k3 CT HSb mT)
    | (go_at_call 152; refine CS.mono ?_; rintro e w3 ⟨a3, n3, c3, rfl, k1, k2, k3, ⟨u3, p3⟩, f3⟩; (have KK : Hid (Sx B _ sb _ ∧ Below B w _) := ⟨k1, BB2.out.trans k3⟩); clear k1 k2 k3 CS mS))
  go_end0
  exact ⟨rfl, _, KK.out.1, rfl, KK.out.2⟩
end Go.Proofs.YthmfcloecmnfnaaGreat.f13
namespace Go.Proofs.YthmfcloecmnfnaaGreat.f13
open Go.RowKit Go.Shelf Go.Sort
open Go.Lib hiding intOf

/-- what left does -/
def eLeft (s : St) (r : Rc) : St := eWait { s with tokens := s.tokens.filter fun x => !(x.kk == r.k1) } (fun tok => tok == r.k1)
set_option maxHeartbeats 400000 in
theorem left1_any (tok k : Nat) {w : World} {rb : Nat} (h : w.cell? ⟨rb, 4, none⟩ = some (.int .u64 (k : Int))) : Calls Tryz.prog 92 #[.int .u64 (tok : Int), .pointer (some ⟨rb, 0, none⟩)] w fun e w' => e = .returned (.bool (tok == k)) ∧ Below w.heap.size w w' := by
  have hE : Hid ((tok == k) = ((tok : Int) == (k : Int))) := by show _ = _; rw [Bool.eq_iff_iff, beq_iff_eq, beq_iff_eq]; omega
  go_enter Tryz.func92, Tryz.ntmps92
  go_wp2
  go_ret
  rw [hE.out]
  exact ⟨by simp, Below.refl _ _⟩
set_option maxHeartbeats 8000000 in
set_option maxRecDepth 100000 in
theorem left_any {B : Nat} {w : World} {sb : Nat} {s : St} {r : Rc} (h : Sx B w sb s) (hB : B ≤ w.heap.size) (nT : s.tokens.length * 56 ≤ 211106232528000) (nJ : s.jobs.length * 64 ≤ 211106232528000) (nM : s.timers.length * 24 ≤ 211106232528000) (nS : s.subs.length * 64 ≤ 211106232528000) (hr : Rr 4 Vr.c w r.vv r.v) :
    Calls Tryz.prog 61 #[.pointer (some ⟨sb, 0, none⟩), .agg r.cs.toArray] w fun e w' => e = .returned (.tuple #[]) ∧ Eff B w sb (eLeft s.e r) w' := by
  obtain ⟨ra, rp, hra, -⟩ := id hr
  obtain ⟨r0, r1, r2, r3, r4, r5, r6, r7, r8, r9, r10, r11, rvv, rv⟩ := r
  simp only at hra hr
  subst hra
  clear hr
  simp only [Rc.cs]
  generalize hrn : rv.length = rn at *
  have hbw : Below w.heap.size w (w.alloc (.cells #[.int .i64 r0, .int .i64 r1, .int .u64 (r2 : Int), .int .i64 r3, .int .u64 (r4 : Int), .int .u64 (r5 : Int), .int .u64 (r6 : Int), .int .i64 r7, .int .i64 r8, .string (S r9), .string (S r10), .string (S r11), .slice ra rn rp] 63)) := (Below.refl _ w).alloc (Nat.le_refl _) _
  have ekO : Ent0 147 := enters_of Tryz.func147 (by kernel_rfl) rfl
  have ekL : Ent0 92 := enters_of Tryz.func92 (by kernel_rfl) rfl
  have hcr : (w.alloc (.cells #[.int .i64 r0, .int .i64 r1, .int .u64 (r2 : Int), .int .i64 r3, .int .u64 (r4 : Int), .int .u64 (r5 : Int), .int .u64 (r6 : Int), .int .i64 r7, .int .i64 r8, .string (S r9), .string (S r10), .string (S r11), .slice ra rn rp] 63)).cell? ⟨w.heap.size, 4, none⟩ = some (.int .u64 (r4 : Int)) := World.cell?_alloc_new _ _ _ _
  have hszR : (w.alloc (.cells #[.int .i64 r0, .int .i64 r1, .int .u64 (r2 : Int), .int .i64 r3, .int .u64 (r4 : Int), .int .u64 (r5 : Int), .int .u64 (r6 : Int), .int .i64 r7, .int .i64 r8, .string (S r9), .string (S r10), .string (S r11), .slice ra rn rp] 63)).heap.size = w.heap.size + 1 := by simp
  have HA : Hid (∀ w1 caps, Below (w.alloc (.cells #[.int .i64 r0, .int .i64 r1, .int .u64 (r2 : Int), .int .i64 r3, .int .u64 (r4 : Int), .int .u64 (r5 : Int), .int .u64 (r6 : Int), .int .i64 r7, .int .i64 r8, .string (S r9), .string (S r10), .string (S r11), .slice ra rn rp] 63)).heap.size (w.alloc (.cells #[.int .i64 r0, .int .i64 r1, .int .u64 (r2 : Int), .int .i64 r3, .int .u64 (r4 : Int), .int .u64 (r5 : Int), .int .u64 (r6 : Int), .int .i64 r7, .int .i64 r8, .string (S r9), .string (S r10), .string (S r11), .slice ra rn rp] 63)) w1 → (∀ (X : Nat → Prop), (∀ g, X g → g < w.heap.size + 1) → ∀ x : Tk, Say X w1 147 caps #[.agg (Tk.c x).toArray] (x.kk == r4)) → Calls Tryz.prog 89 #[s.vTk, .func (.func 147) #[] caps] w1 fun e w2 => ∃ a n c, e = .returned (.slice a n c) ∧ (∃ u, w2.cell? ⟨sb, 5, none⟩ = some u) ∧ w2.frozen? ⟨sb, 5, none⟩ = false ∧ Hid (Calls Tryz.prog 91 #[.pointer (some ⟨sb, 0, none⟩), .func (.func 92) #[] #[.pointer (some ⟨w.heap.size, 0, none⟩)]] (w2.setCell ⟨sb, 5, none⟩ (.slice a n c)) fun e w' => e = .returned (.tuple #[]) ∧ Eff B w sb (eLeft s.e ⟨r0, r1, r2, r3, r4, r5, r6, r7, r8, r9, r10, r11, .slice ra rn rp, rv⟩) w')) := by
    intro w1 caps hb1 hsay
    have hb1w : Below w.heap.size w w1 := bel_of hbw hb1 (Nat.le_refl _)
    have hS1 := h.up hb1w
    refine (takeTk_any (B := B) (fun x => x.kk == r4) hS1.rTk (by omega) ekO (fun x _ => hsay (fun g => s.vTk.ownBlock = some g) (fun g hg => by have := (h.rTk.lt g hg).2; omega) x)).mono ?_
    rintro e w2 ⟨v2, rfl, q2, c2, o2⟩
    obtain ⟨a, c, rfl, -⟩ := row_slice q2
    obtain ⟨k1, k2, k3⟩ := hS1.toTk q2 c2 (fun g hg => .inl (by rw [← o2]; exact hg))
    have hlt := h.lt
    have hC : Ch (fun g => g < w.heap.size) w1 (w2.setCell ⟨sb, 5, none⟩ (.slice a (List.filter (fun x => !(x.kk == r4)) s.tokens).length c)) := (c2.mono (fun g _ e => (h.rTk.lt g e).2)).setCell _ _ (fun _ => hlt.2)
    have hBw : Below B w (w2.setCell ⟨sb, 5, none⟩ (.slice a (List.filter (fun x => !(x.kk == r4)) s.tokens).length c)) := by
      have b1 : Below B w w2 := (hb1w.mono hB).trans (Own.ge c2 (Nat.le_trans hB hb1w.size) (fun g hg => (hS1.rTk.lt g hg).1))
      exact b1.trans (((Ch.refl (fun b => b = sb) w2).setCell ⟨sb, 5, none⟩ _ (fun _ => rfl)).below (Nat.le_trans hB (Nat.le_trans hb1w.size c2.size)) (fun g hg e => by omega))
    refine ⟨a, _, c, rfl, ⟨_, k2 5 _ rfl⟩, k3 5, ?_⟩
    show Calls _ _ _ _ _
    refine (waitNoMore_any (M := w.heap.size) (fun tok => tok == r4) k1 (Nat.le_trans hB (Nat.le_trans hb1w.size hC.size)) (Nat.le_trans hb1w.size hC.size) ekL (fun _ => True) ?_ (fun _ _ => trivial) (fun _ _ => trivial) (fun _ _ => trivial) (fun g hg => (h.rJb.lt g hg).2) (fun g hg => (h.rTm.lt g hg).2) (fun g hg => (h.rSb.lt g hg).2) hlt.2 nJ nM nS).mono ?_
    · intro tok _ W hW
      refine left1_any tok r4 (hW.cell (hC.cell ((hb1.cell (p := ⟨w.heap.size, 4, none⟩) (by simp)).trans hcr) ?_) ?_) <;> simp
    · rintro e w' ⟨rfl, t, t1, t2, t3⟩
      exact ⟨rfl, t, t1, t2, hBw.trans t3⟩
  obtain ⟨aI, cI, hsI, -⟩ := row_slice h.rTk
  have HS : Hid (∀ W, Below (w.alloc (.cells #[.int .i64 r0, .int .i64 r1, .int .u64 (r2 : Int), .int .i64 r3, .int .u64 (r4 : Int), .int .u64 (r5 : Int), .int .u64 (r6 : Int), .int .i64 r7, .int .i64 r8, .string (S r9), .string (S r10), .string (S r11), .slice ra rn rp] 63)).heap.size (w.alloc (.cells #[.int .i64 r0, .int .i64 r1, .int .u64 (r2 : Int), .int .i64 r3, .int .u64 (r4 : Int), .int .u64 (r5 : Int), .int .u64 (r6 : Int), .int .i64 r7, .int .i64 r8, .string (S r9), .string (S r10), .string (S r11), .slice ra rn rp] 63)) W → W.cell? ⟨sb, 5, none⟩ = some s.vTk ∧ W.frozen? ⟨sb, 5, none⟩ = false ∧ W.cell? ⟨w.heap.size, 4, none⟩ = some (.int .u64 (r4 : Int))) := fun W hW => ⟨(h.up (bel_of hbw hW (Nat.le_refl _))).cell (j := 5) rfl, (h.up (bel_of hbw hW (Nat.le_refl _))).fro 5, (hW.cell (p := ⟨w.heap.size, 4, none⟩) (by simp)).trans hcr⟩
  have CO := fun W => ofTk_any r4 W
  rw [hsI] at HA HS
  clear h nT nJ nM nS ekO ekL hsI hB
  obtain ⟨m5, f5, m4⟩ := HS.out _ (Below.refl _ _)
  simp only [kU] at CO
  clear hcr
  go_enter Tryz.func61, Tryz.ntmps61
  go_wp2
  generalize (w.alloc (.cells #[.int .i64 r0, .int .i64 r1, .int .u64 (r2 : Int), .int .i64 r3, .int .u64 (r4 : Int), .int .u64 (r5 : Int), .int .u64 (r6 : Int), .int .i64 r7, .int .i64 r8, .string (S r9), .string (S r10), .string (S r11), .slice ra rn rp] 63)) = W1 at *
  go_region_with (first
    | (go_at_call 90; refine (CO _).mono ?_; rintro e w1 ⟨caps, rfl, hsay, hb1⟩; (have hX : Below W1.heap.size W1 w1 := (Below.refl _ W1).drew.trans (hb1.mono (Nat.le_refl _))); obtain ⟨n5, g5, n4⟩ := HS.out w1 hX; (have CA := HA.out w1 caps hX (fun X hX => hsay X (fun g hg => by (have := hX g hg; show g < W1.heap.size; omega)))); clear hsay hb1 CO HA)
    | (go_at_call 89; refine CA.mono ?_; rintro e w2 ⟨a2, n2, c2, rfl, ⟨u2, p2⟩, g2, CW⟩; clear CA))
  all_goals
    go_wp2_with (go_at_call 91; refine CW.out.mono ?_; rintro e w3 ⟨rfl, hE⟩; (have K1 : Hid _ := hE); clear hE CW)
    go_end0
    exact ⟨rfl, K1.out⟩
end Go.Proofs.YthmfcloecmnfnaaGreat.f13

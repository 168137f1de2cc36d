/-
  Ranges of keys and cells: one that may be ranged over whatever it is (orderly).
-/
import Derived.Test.YtiaeicfmdnmeeaaH7Pure
import Derived.Test.YtiaeicfmdnmeeaaXSeq2
import Derived.Stop.RegionWithIn
namespace Go.Proofs.Ytiaeicfmdnmeeaa
open Go.RowKit Go.Shelf Go.Sort
open Go.Lib hiding intOf

attribute [local go_sem] Oper.semAt_some

/-- a cell, as a value; what is told -/
def cv (c : List UInt8 × Bool) : Value := .agg #[.string (S c.1), .bool c.2]
def encc (x : R7) : Array Value := #[.string (S x.1), cv x.2]
/-- a cell in a block of its own -/
def cbx (x : R7) : Obj := .cells #[.string (S x.2.1), .bool x.2.2] 37
/-- a range, or nil: one over nothing -/
def Sn (w : World) (f : Value) (l : List R7) (X : Nat → Prop) : Prop := (∀ k, X k → k < w.heap.size) ∧ ((f = .nilFunc ∧ l = []) ∨ Sq encc w f l X)
theorem Sq.sn {w : World} {f : Value} {l : List R7} {X : Nat → Prop} (h : Sq encc w f l X) : Sn w f l X := ⟨by obtain ⟨_, _, _, _, hX, _⟩ := h; exact hX, .inr h⟩
theorem Sn.kq {w w' : World} {f : Value} {l : List R7} {X : Nat → Prop} (h : Sn w f l X) (hb : Kq X w w') : Sn w' f l X := ⟨fun k hk => Nat.lt_of_lt_of_le (h.1 k hk) hb.1, h.2.imp id (fun h => h.kq hb)⟩
theorem Sn.below {w w' : World} {f : Value} {l : List R7} {X : Nat → Prop} (h : Sn w f l X) (hb : Below w.heap.size w w') : Sn w' f l X := h.kq (Kq.of_below hb)
theorem Sn.wide {w : World} {f : Value} {l : List R7} {X Y : Nat → Prop} (h : Sn w f l X) (hXY : ∀ k, X k → Y k) (hY : ∀ k, Y k → k < w.heap.size) : Sn w f l Y := ⟨hY, h.2.imp id (fun h => h.wide hXY hY)⟩
theorem Sn.nil (w : World) (X : Nat → Prop) (hX : ∀ k, X k → k < w.heap.size) : Sn w .nilFunc [] X := ⟨hX, .inl ⟨rfl, rfl⟩⟩
theorem Sn.form {w : World} {f : Value} {l : List R7} {X : Nat → Prop} (h : Sn w f l X) : f = .nilFunc ∨ ∃ gf lb, f = .func (.func gf) #[] lb := by
  rcases h.2 with ⟨h, _⟩ | ⟨gf, lb, h, _⟩
  · exact .inl h
  · exact .inr ⟨gf, lb, h⟩

theorem fn_seq (fn : Fn) (c : Array Value) (w : World) : (binOp .eql 48 (.func fn #[] c) .nilFunc).run Try.prog w = .ok (.bool false) w := by kernel_rfl
theorem nil_seq (w : World) : (binOp .eql 48 .nilFunc .nilFunc).run Try.prog w = .ok (.bool true) w := by kernel_rfl
theorem fn_fun (fn : Fn) (c : Array Value) (w : World) : (binOp .eql 88 (.func fn #[] c) .nilFunc).run Try.prog w = .ok (.bool false) w := by kernel_rfl
theorem nil_fun (w : World) : (binOp .eql 88 .nilFunc .nilFunc).run Try.prog w = .ok (.bool true) w := by kernel_rfl
theorem Yk.form {y : Value} (h : Yk y) : ∃ fn caps, y = .func fn #[] caps := by
  rcases h with ⟨l, rfl⟩ | ⟨gf, caps, rfl, _⟩
  · exact ⟨_, _, rfl⟩
  · exact ⟨_, _, rfl⟩
set_option maxRecDepth 100000 in
set_option maxHeartbeats 2000000 in
/-- the function that orderly hands on -/
theorem ord2_any {W : World} {n₁ : Nat} {y : Value} (x : R7) (hk : Yk y) (hon : Bx W (n₁ + 1) (.bool true) 4) (hy : Bx W n₁ y 88) (R : Ending → World → Prop)
    (h : Yd y (encc x) (W.alloc (cbx x)) fun e W' => ∃ b, e = .returned (.bool b) ∧ Bx W' (n₁ + 1) (.bool true) 4 ∧ R e (W'.setCell ⟨n₁ + 1, 0, none⟩ (.bool b))) :
    Calls Try.prog 65 (encc x ++ #[.pointer (some ⟨n₁ + 1, 0, none⟩), .pointer (some ⟨n₁, 0, none⟩)]) W R := by
  have h1 := (hon.alloc (cbx x)).cell
  have h2 := (hy.alloc (cbx x)).cell
  unfold cbx at h h1 h2
  rcases hk with ⟨l, rfl⟩ | ⟨gf, caps, rfl, eg⟩
  · obtain ⟨fn, tmps, assign, body, hyl, hR⟩ := h.yield
    simp only [encc, cv] at hyl
    have HR : Hid _ := hR
    clear hR h
    refine (callsIn_wide (n := 9)).1 ?_
    refine callsIn_of_wp Try.func65 rfl trivial ?_ rfl
    simp only [encc, cv, Try.ntmps65, List.size_toArray, List.length_cons, List.length_nil, Nat.reduceAdd, Nat.reduceSub, Array.replicate_succ, Array.replicate_zero, List.push_toArray, List.append_toArray, List.nil_append, List.cons_append]
    gi_wp2
    refine (HR.out _).mono ?_
    rintro e W3 ⟨b, rfl, hb, hr⟩
    have c1 := hb.cell
    have c2 := hb.fro
    have c3 := (one0 hb (.bool b)).cell
    have HR3 : Hid _ := hr
    clear hr
    gi_wp2
    exact HR3.out
  · have hc := h.func
    simp only [encc, cv] at hc
    unfold Ent0 at eg
    clear h
    refine (callsIn_wide (n := 9)).1 ?_
    refine callsIn_of_wp Try.func65 rfl trivial ?_ rfl
    simp only [encc, cv, Try.ntmps65, List.size_toArray, List.length_cons, List.length_nil, Nat.reduceAdd, Nat.reduceSub, Array.replicate_succ, Array.replicate_zero, List.push_toArray, List.append_toArray, List.nil_append, List.cons_append]
    gi_wp2
    refine ⟨trivial, ?_⟩
    refine (callsIn_wide.2 hc).mono ?_
    rintro e W3 ⟨b, rfl, hb, hr⟩
    have c1 := hb.cell
    have c2 := hb.fro
    have c3 := (one0 hb (.bool b)).cell
    have HR3 : Hid _ := hr
    clear hr
    gi_wp2
    exact HR3.out

theorem Kq.setCell {X : Nat → Prop} {W W' : World} (h : Kq X W W') {b : Nat} {v u : Value} {t : TypeId} (_hb : Bx W' b v t) (hX : ¬ X b) : Kq X W (W'.setCell ⟨b, 0, none⟩ u) :=
  h.trans ⟨by simp, fun k o hk hko _ => by rw [heap_setCell_other W' ⟨b, 0, none⟩ k u (fun e => hX (by subst e; exact hk))]; exact hko⟩
theorem KeepsFrom.setCell {B : Nat} {W W' : World} (h : KeepsFrom B W W') {b : Nat} {v u : Value} {t : TypeId} (hb : Bx W' b v t) : KeepsFrom B W (W'.setCell ⟨b, 0, none⟩ u) :=
  h.trans (KeepsFrom.of_ch (Y := fun k => k = b) ((Ch.refl _ W').setCell ⟨b, 0, none⟩ u (fun _ => rfl)) (fun k e => by subst e; exact ⟨_, hb, rfl⟩))

set_option maxRecDepth 100000 in
set_option maxHeartbeats 2000000 in
/-- orderly's range over a range -/
theorem ord1_sq {W1 : World} {bs : Nat} {sv : Value} {l : List R7} {X : Nat → Prop} (hb : Bx W1 bs sv 48) (hS : Sq encc W1 sv l X) : Runs encc 64 #[.pointer (some ⟨bs, 0, none⟩)] l (fun k => X k ∨ k = bs) W1 := by
  intro y J Jx hC
  obtain ⟨yf, yc, rfl⟩ := hC.yk.form
  have hmf : ∀ (fn : Fn) (first cap : Array Value) (w : World), (Instr.makeFunc fn first cap).run Try.prog w = .ok (.func fn first cap) w := fun _ _ _ _ => rfl
  obtain ⟨W2, hW2⟩ : ∃ W2, W2 = (W1.alloc (.cells #[.func yf #[] yc] 88)).alloc (.cells #[.bool true] 4) := ⟨_, rfl⟩
  have hs2 : W2.heap.size = W1.heap.size + 1 + 1 := by rw [hW2]; simp
  have hB2 : Below W1.heap.size W1 W2 := by rw [hW2]; exact ((Below.refl _ W1).alloc (Nat.le_refl _) _).alloc (by simp) _
  have by2 : Bx W2 W1.heap.size (.func yf #[] yc) 88 := by rw [hW2]; exact (Bx.new W1 _ _).alloc _
  have bo2 : Bx W2 (W1.heap.size + 1) (.bool true) 4 := by
    rw [hW2]
    have := Bx.new (W1.alloc (.cells #[.func yf #[] yc] 88)) (.bool true) 4
    rwa [World.size_alloc] at this
  obtain ⟨gf, lb, rfl, eg, hX, hrun⟩ := hS
  have hc0 := cell?_alloc_some (.cells #[.func yf #[] yc] 88) hb.cell
  have hc1 := (hb.below hB2 hb.lt).cell
  have hbl := hb.lt
  have main := hrun W2 (Kq.of_below hB2) (.func (.func 65) #[] #[.pointer (some ⟨W1.heap.size + 1, 0, none⟩), .pointer (some ⟨W1.heap.size, 0, none⟩)])
    (fun s pre W => J s pre W ∧ Bx W W1.heap.size (.func yf #[] yc) 88 ∧ Bx W (W1.heap.size + 1) (.bool true) 4 ∧ W2.heap.size ≤ s ∧ W2.heap.size ≤ W.heap.size)
    (fun s pre W => Jx s pre W ∧ (∃ v, Bx W (W1.heap.size + 1) v 4) ∧ W2.heap.size ≤ s) ⟨?_, ?_, ?_, ?_, ?_⟩
  rotate_left
  · exact .inr ⟨_, _, rfl, enters_of Try.func65 (by kernel_rfl) rfl⟩
  · rintro s pre W W' ⟨h1, h2, h3, h4, h5⟩ hc
    exact ⟨hC.st s pre W W' h1 (hc.low (by omega)), hc.bx h2 (.inl (by omega)), hc.bx h3 (.inl (by omega)), h4, Nat.le_trans h5 hc.size⟩
  · rintro s pre W W' ⟨h1, ⟨v, h3⟩, h4⟩ hc
    exact ⟨hC.stx s pre W W' h1 (hc.low (by omega)), ⟨v, hc.bx h3 (.inl (by omega))⟩, h4⟩
  · intro W0 hB
    exact ⟨hC.start W0 (hB2.trans (hB.mono (by omega))), by2.below hB (by omega), bo2.below hB (by omega), hB.size, hB.size⟩
  · rintro s pre x Wp W ⟨h1, h2, h3, h4, h5⟩ hsb hp
    replace h2 := hsb.bx h2 (.inl (by omega))
    replace h3 := hsb.bx h3 (.inl (by omega))
    have hsbB : Sb W1.heap.size s Wp (W.alloc (cbx x)) := (hsb.low (by omega)).trans (Sb.of_below ((Below.refl _ W).alloc (Nat.le_refl _) _))
    refine .inr ⟨_, _, rfl, enters_of Try.func65 (by kernel_rfl) rfl, ord2_any x hC.yk h3 h2 _ ((hC.go s pre x Wp (W.alloc (cbx x)) h1 hsbB hp).mono ?_)⟩
    have k0 : ∀ Z : Nat → Prop, Kq Z W (W.alloc (cbx x)) := fun Z => (Kq.refl Z W).alloc _
    have kf0 : KeepsFrom W1.heap.size W (W.alloc (cbx x)) := KeepsFrom.of_ch (Y := fun _ => False) ((Ch.refl _ W).alloc _) (fun _ h => h.elim)
    have hkeep : ∀ W' : World, Kq (fun k => (X k ∨ k = bs) ∨ (W1.heap.size ≤ k ∧ k < s) ∨ (Wp.heap.size ≤ k ∧ k < W.heap.size)) W W' → Bx W' W1.heap.size (.func yf #[] yc) 88 ∧ Bx W' (W1.heap.size + 1) (.bool true) 4 := fun W' hq => ⟨kq_bx hq (.inr (.inl (by omega))) h2, kq_bx hq (.inr (.inl (by omega))) h3⟩
    have fin : ∀ (W' : World) (b : Bool), KeepsFrom W1.heap.size W W' → Kq (fun k => (X k ∨ k = bs) ∨ (W1.heap.size ≤ k ∧ k < s) ∨ (Wp.heap.size ≤ k ∧ k < W.heap.size)) W W' → KeepsFrom W2.heap.size W (W'.setCell ⟨W1.heap.size + 1, 0, none⟩ (.bool b)) ∧ Kq (fun k => X k ∨ (W2.heap.size ≤ k ∧ k < s) ∨ (Wp.heap.size ≤ k ∧ k < W.heap.size)) W (W'.setCell ⟨W1.heap.size + 1, 0, none⟩ (.bool b)) ∧ Ch (fun k => W1.heap.size ≤ k ∧ k < s) W' (W'.setCell ⟨W1.heap.size + 1, 0, none⟩ (.bool b)) := fun W' b hk hq => by
      obtain ⟨_, hb'⟩ := hkeep W' hq
      refine ⟨KeepsFrom.setCell (KeepsFrom.up hk (by omega)) hb', (hq.sub (fun k hk => ?_)).setCell hb' ?_, (Ch.refl _ W').setCell _ _ (fun _ => by simp; omega)⟩
      · rcases hk with h | h | h
        · exact .inl (.inl h)
        · exact .inr (.inl (by omega))
        · exact .inr (.inr h)
      · rintro (h | h | h)
        · have := hX _ h; omega
        · omega
        · omega
    rintro e W' ⟨hk, hq, hjj⟩
    replace hk := kf0.trans hk
    replace hq := (k0 _).trans (hq.sub (Y := fun k => (X k ∨ k = bs) ∨ (W1.heap.size ≤ k ∧ k < s) ∨ (Wp.heap.size ≤ k ∧ k < W.heap.size)) (fun k hk => hk.imp id (fun h => h.imp id (fun h => ⟨h.1, by rw [World.size_alloc]; omega⟩))))
    rcases hjj with ⟨rfl, hj⟩ | ⟨rfl, hj⟩
    · obtain ⟨f1, f2, f3⟩ := fin W' true hk hq
      obtain ⟨g1, g2⟩ := hkeep W' hq
      exact ⟨true, rfl, g2, f1, f2, .inl ⟨rfl, hC.st s _ _ _ hj (Sb.of_ch f3), (Bx.below (B := W1.heap.size + 1) g1 ⟨rfl, rfl, rfl, by simp, fun k hk => heap_setCell_other W' ⟨W1.heap.size + 1, 0, none⟩ k _ (by simp; omega)⟩ (by omega)), one0 g2 _, h4, Nat.le_trans h5 (Nat.le_trans hsb.size (Nat.le_trans hq.1 (by simp)))⟩⟩
    · obtain ⟨f1, f2, f3⟩ := fin W' false hk hq
      obtain ⟨g1, g2⟩ := hkeep W' hq
      exact ⟨false, rfl, g2, f1, f2, .inr ⟨rfl, hC.stx s _ _ _ hj (Sb.of_ch f3), ⟨_, one0 g2 _⟩, h4⟩⟩
  have HC : Hid (Cons encc (.func yf #[] yc) l (fun k => X k ∨ k = bs) W1 J Jx) := hC
  clear hC hrun
  unfold Ent0 at eg
  have hnf := fn_seq
  refine (callsIn_wide (n := 9)).1 ?_
  refine callsIn_of_wp Try.func64 rfl trivial ?_ rfl
  simp only [Try.ntmps64, List.size_toArray, List.length_cons, List.length_nil, Nat.reduceAdd, Nat.reduceSub, Array.replicate_succ, Array.replicate_zero, List.push_toArray, List.append_toArray, List.nil_append, List.cons_append]
  gi_wp2
  rw [← hW2]
  gi_wp2
  refine ⟨trivial, ?_⟩
  refine (callsIn_wide.2 main).mono ?_
  have sl : ∀ (s : Nat) (W : World), W2.heap.size ≤ s → Ch (fun k => W1.heap.size ≤ k ∧ k < s) W (W.setCell ⟨W1.heap.size + 1, 0, none⟩ (.bool false)) := fun s W h => (Ch.refl _ W).setCell _ _ (fun _ => by simp; omega)
  rintro e W3 ⟨⟨v, rfl⟩, ⟨s, h1, h2, h3, h4, -⟩ | ⟨s, pre, h1, ⟨u, h3⟩, h4⟩⟩
  · have c1 := h3.cell
    have c2 := h3.fro
    have HJ := HC.out.st s _ _ _ h1 (Sb.of_ch (sl s W3 h4))
    clear h1
    gi_wp2
    go_end0
    exact ⟨⟨_, rfl⟩, .inl ⟨s, HJ⟩⟩
  · have c1 := h3.cell
    have c2 := h3.fro
    have HJ := HC.out.stx s _ _ _ h1 (Sb.of_ch (sl s W3 h4))
    clear h1
    gi_wp2
    go_end0
    exact ⟨⟨_, rfl⟩, .inr ⟨s, _, HJ⟩⟩

set_option maxRecDepth 100000 in
set_option maxHeartbeats 1000000 in
/-- orderly's range over nil -/
theorem ord1_nil {W1 : World} {bs : Nat} (hb : Bx W1 bs .nilFunc 48) (X : Nat → Prop) : Runs encc 64 #[.pointer (some ⟨bs, 0, none⟩)] [] X W1 := by
  intro y J Jx hC
  obtain ⟨yf, yc, rfl⟩ := hC.yk.form
  have hst := hC.start _ ((Below.refl _ W1).alloc (Nat.le_refl _) (.cells #[.func yf #[] yc] 88))
  have hc0 := cell?_alloc_some (.cells #[.func yf #[] yc] 88) hb.cell
  have hnf := nil_seq
  have HS : Hid _ := hst
  clear hst hC
  refine (callsIn_wide (n := 9)).1 ?_
  refine callsIn_of_wp Try.func64 rfl trivial ?_ rfl
  simp only [Try.ntmps64, List.size_toArray, List.length_cons, List.length_nil, Nat.reduceAdd, Nat.reduceSub, Array.replicate_succ, Array.replicate_zero, List.push_toArray, List.append_toArray, List.nil_append, List.cons_append]
  gi_wp2
  refine bodyPost_ret (results_none rfl _ _ _) rfl ?_
  exact ⟨⟨_, rfl⟩, .inl ⟨_, HS.out⟩⟩

set_option maxHeartbeats 1000000 in
theorem orderly_any {w : World} {sv : Value} {l : List R7} {X : Nat → Prop} (h : Sn w sv l X) : Calls Try.prog 50 #[sv] w fun e w' => ∃ f, e = .returned f ∧ Sq encc w' f l (fun k => X k ∨ k = w.heap.size) ∧ Below w.heap.size w w' := by
  have hmf : ∀ (fn : Fn) (first cap : Array Value) (w : World), (Instr.makeFunc fn first cap).run Try.prog w = .ok (.func fn first cap) w := fun _ _ _ _ => rfl
  have hB : Below w.heap.size w (w.alloc (.cells #[sv] 48)) := (Below.refl _ w).alloc (Nat.le_refl _) _
  have hbx := Bx.new w sv 48
  have hres : Sq encc (w.alloc (.cells #[sv] 48)) (.func (.func 64) #[] #[.pointer (some ⟨w.heap.size, 0, none⟩)]) l (fun k => X k ∨ k = w.heap.size) := by
    refine ⟨_, _, rfl, enters_of Try.func64 (by kernel_rfl) rfl, ?_, ?_⟩
    · rintro k (hk | rfl)
      · have := h.1 k hk; simp; omega
      · simp
    · intro W1 hk
      have hbW := kq_bx hk (.inr rfl) hbx
      rcases h.2 with ⟨rfl, rfl⟩ | hS
      · exact ord1_nil hbW _
      · exact ord1_sq hbW ((hS.below hB).kq (hk.sub (fun k h => .inl h)))
  have HR : Hid _ := hres
  rcases h.form with rfl | ⟨gf, lb, rfl⟩
  · clear hres hbx h
    go_enter Try.func50, Try.ntmps50
    go_wp2
    go_ret
    exact ⟨_, rfl, HR.out, hB⟩
  · clear hres hbx h
    go_enter Try.func50, Try.ntmps50
    go_wp2
    go_ret
    exact ⟨_, rfl, HR.out, hB⟩
end Go.Proofs.Ytiaeicfmdnmeeaa

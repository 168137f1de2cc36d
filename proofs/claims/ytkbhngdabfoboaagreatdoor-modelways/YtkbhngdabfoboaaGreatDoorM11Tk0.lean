/-
  Package model: taking a process, number by number and text by text.
-/
import Derived.Test.YtkbhngdabfoboaaGreatDoorM11Mem
import Derived.Test.YtkbhngdabfoboaaGreatDoorGWire
import Derived.Test.YtkbhngdabfoboaaGreatDoorGExprA
import Derived.OwnWalk
namespace Go.Proofs.YtkbhngdabfoboaaGreatDoor.m11
open Go.Proofs.YtkbhngdabfoboaaGreatDoor.x10
open Go.RowKit Go.Shelf Go.Sort
open Go.Lib hiding intOf

/-- a taker: what its reader has left, the reader's error, its own -/
structure Ts where
  l : List UInt8
  e : Nat
  t : Nat
def ref1 (t er : Nat) : Nat := if t = 0 then er else t
def tNum (s : Ts) : Int × Ts :=
  let r := rdU s.l s.e
  if Lib.unzigzag r.1 < -2147483648 ∨ 2147483647 < Lib.unzigzag r.1 then (0, ⟨r.2.1, r.2.2, ref1 s.t 3⟩) else (Lib.unzigzag r.1, ⟨r.2.1, r.2.2, s.t⟩)
def tInt (s : Ts) : Int × Ts := (Lib.unzigzag (rdU s.l s.e).1, ⟨(rdU s.l s.e).2.1, (rdU s.l s.e).2.2, s.t⟩)
def tTxt (m : Int) (s : Ts) : List UInt8 × Ts := ((rdT m s.l s.e).1, ⟨(rdT m s.l s.e).2.1, (rdT m s.l s.e).2.2, s.t⟩)
/-- the taker in block tb, its reader in block rb -/
structure Tk (w : World) (tb rb : Nat) (s : Ts) : Prop where
  o : w.heap[tb]? = some (.cells #[.pointer (some ⟨rb, 0, none⟩), .int .i64 (s.t : Int)] 68 (0, 0))
  r : Rd w rb s.l s.e
  ne : tb ≠ rb
  le : s.l.length ≤ 8192
def X2 (tb rb : Nat) : Nat → Prop := fun k => k = tb ∨ k = rb
theorem Tk.lt {w : World} {tb rb : Nat} {s : Ts} (h : Tk w tb rb s) : tb < w.heap.size := (Array.getElem?_eq_some_iff.1 h.o).1
theorem Tk.c0 {w : World} {tb rb : Nat} {s : Ts} (h : Tk w tb rb s) : w.cell? ⟨tb, 0, none⟩ = some (.pointer (some ⟨rb, 0, none⟩)) := by simp [World.cell?, h.o]
theorem Tk.c1 {w : World} {tb rb : Nat} {s : Ts} (h : Tk w tb rb s) : w.cell? ⟨tb, 1, none⟩ = some (.int .i64 (s.t : Int)) := by simp [World.cell?, h.o]
theorem Tk.f1 {w : World} {tb rb : Nat} {s : Ts} (h : Tk w tb rb s) : w.frozen? ⟨tb, 1, none⟩ = false := by simp [World.frozen?, h.o]
theorem rd_of {w w' : World} {b : Nat} {l : List UInt8} {e : Nat} (h : Rd w b l e) (hb : w'.heap[b]? = w.heap[b]?) (hs : w.heap.size ≤ w'.heap.size) : Rd w' b l e := by
  have hc : ∀ i, w'.cell? ⟨b, i, none⟩ = w.cell? ⟨b, i, none⟩ := fun i => by simp only [World.cell?, hb]
  have hf : ∀ i, w'.frozen? ⟨b, i, none⟩ = w.frozen? ⟨b, i, none⟩ := fun i => by simp only [World.frozen?, hb]
  exact ⟨(hc 0).trans h.rest, (hc 1).trans h.err, (hf 0).trans h.fr, (hf 1).trans h.fe, Nat.lt_of_lt_of_le h.lt hs⟩
theorem Tk.same {w w' : World} {tb rb : Nat} {s : Ts} (h : Tk w tb rb s) (h1 : w'.heap[tb]? = w.heap[tb]?) (h2 : w'.heap[rb]? = w.heap[rb]?) (hs : w.heap.size ≤ w'.heap.size) : Tk w' tb rb s := ⟨h1.trans h.o, rd_of h.r h2 hs, h.ne, h.le⟩
theorem Tk.below {w w' : World} {tb rb : Nat} {s : Ts} (h : Tk w tb rb s) (hb : Below w.heap.size w w') : Tk w' tb rb s := h.same (hb.block _ h.lt) (hb.block _ h.r.lt) hb.size
theorem Tk.ch {w w' : World} {tb rb : Nat} {s : Ts} (h : Tk w tb rb s) {X : Nat → Prop} (hc : Ch X w w') (h1 : ¬ X tb) (h2 : ¬ X rb) : Tk w' tb rb s := h.same (hc.block _ h.lt h1) (hc.block _ h.r.lt h2) hc.size
theorem but_ch {b : Nat} {X : Nat → Prop} {w w' : World} (h : But b w w') (hX : X b) : Ch X w w' := ⟨h.os, h.tape, h.output, h.size, fun k hk hn => h.block k hk (fun e => hn (e ▸ hX))⟩
/-- the reader has read on -/
theorem Tk.read {w w' : World} {tb rb : Nat} {s : Ts} (h : Tk w tb rb s) {l : List UInt8} {e : Nat} (hb : But rb w w') (hr : Rd w' rb l e) (hl : l.length ≤ 8192) : Tk w' tb rb ⟨l, e, s.t⟩ := ⟨(hb.block _ h.lt h.ne).trans h.o, hr, h.ne, hl⟩
theorem Tk.err {w : World} {tb rb : Nat} {s : Ts} (h : Tk w tb rb s) (t : Nat) : Tk (w.setCell ⟨tb, 1, none⟩ (.int .i64 (t : Int))) tb rb ⟨s.l, s.e, t⟩ := by
  refine ⟨heap_setCell_same w tb 1 _ _ _ h.o, rd_of h.r ?_ (by simp), h.ne, h.le⟩
  exact heap_setCell_other w _ rb _ h.ne.symm
theorem rdU_le (l : List UInt8) (e : Nat) : (rdU l e).2.1.length ≤ l.length := by
  unfold rdU
  split
  · split
    · exact numb_le l 0 0
    · exact Nat.le_refl _
  · exact Nat.le_refl _
theorem rdT_le (m : Int) (l : List UInt8) (e : Nat) : (rdT m l e).2.1.length ≤ l.length := by
  unfold rdT
  split
  · split
    · exact tex_le m l
    · exact Nat.le_refl _
  · exact Nat.le_refl _

set_option maxHeartbeats 400000 in
theorem refuse_any {w : World} {tb rb : Nat} {s : Ts} (h : Tk w tb rb s) (er : Nat) : Calls Tryz.prog 128 #[.pointer (some ⟨tb, 0, none⟩), .int .i64 (er : Int)] w fun e w' => e = .returned (.tuple #[]) ∧ Tk w' tb rb ⟨s.l, s.e, ref1 s.t er⟩ ∧ Ch (X2 tb rb) w w' := by
  have c1 := h.c1
  have f1 := h.f1
  by_cases h0 : s.t = 0
  · have HR : Hid (Tk (w.setCell ⟨tb, 1, none⟩ (.int .i64 (er : Int))) tb rb ⟨s.l, s.e, ref1 s.t er⟩ ∧ Ch (X2 tb rb) w (w.setCell ⟨tb, 1, none⟩ (.int .i64 (er : Int)))) := by
      refine ⟨?_, (Ch.refl _ w).setCell _ _ (fun _ => .inl rfl)⟩
      unfold ref1; rw [if_pos h0]; exact h.err er
    rw [h0] at c1
    clear h
    go_enter Tryz.func128, Tryz.ntmps128
    go_wp2
    go_end0
    exact ⟨rfl, HR.out⟩
  · have HR : Hid (Tk w tb rb ⟨s.l, s.e, ref1 s.t er⟩) := by
      unfold ref1; rw [if_neg h0]; exact h
    have hne : ((s.t : Int) == 0) = false := by rw [beq_eq_false_iff_ne]; omega
    have hne2 : ¬ (s.t : Int) = 0 := by omega
    clear h h0
    generalize (s.t : Int) = q at *
    go_enter Tryz.func128, Tryz.ntmps128
    go_wp2
    go_end0
    exact ⟨rfl, HR.out, Ch.refl _ _⟩

set_option maxHeartbeats 400000 in
theorem tnum_any {w : World} {tb rb : Nat} {s : Ts} (h : Tk w tb rb s) : Calls Tryz.prog 129 #[.pointer (some ⟨tb, 0, none⟩)] w fun e w' => e = .returned (.int .i64 (tNum s).1) ∧ Tk w' tb rb (tNum s).2 ∧ Ch (X2 tb rb) w w' := by
  obtain ⟨v, l2, e2, hr⟩ : ∃ v l2 e2, rdU s.l s.e = (v, l2, e2) := ⟨_, _, _, rfl⟩
  have hl2 : l2.length ≤ 8192 := by have := rdU_le s.l s.e; rw [hr] at this; exact Nat.le_trans this h.le
  have CI := Int_all h.r hr
  have HT : Hid (∀ w1, But rb w w1 → Rd w1 rb l2 e2 → Tk w1 tb rb ⟨l2, e2, s.t⟩ ∧ Ch (X2 tb rb) w w1) := fun w1 hb h1 => ⟨h.read hb h1 hl2, but_ch hb (.inr rfl)⟩
  have c0 := h.c0
  unfold tNum
  rw [hr]
  simp only
  generalize Lib.unzigzag v = x at *
  clear h hr
  by_cases q1 : x < -2147483648
  · rw [if_pos (.inl q1)]
    go_enter Tryz.func129, Tryz.ntmps129
    go_wp2_with (first
      | (go_at_call 130; refine CI.mono ?_; rintro e w1 ⟨rfl, h1, hb1⟩; obtain ⟨t1, k1⟩ := HT.out w1 hb1 h1; (have CR := refuse_any t1 3); (have K1 : Hid (Ch (X2 tb rb) w w1) := k1); clear h1 hb1 t1 k1 CI)
      | (go_at_call 128; refine CR.mono ?_; rintro e w2 ⟨rfl, t2, k2⟩; (have K2 : Hid (Tk w2 tb rb ⟨l2, e2, ref1 s.t 3⟩ ∧ Ch (X2 tb rb) w w2) := ⟨t2, K1.out.trans k2⟩); clear t2 k2 CR))
    go_ret
    exact ⟨rfl, K2.out⟩
  · by_cases q2 : 2147483647 < x
    · rw [if_pos (.inr q2)]
      go_enter Tryz.func129, Tryz.ntmps129
      go_wp2_with (first
        | (go_at_call 130; refine CI.mono ?_; rintro e w1 ⟨rfl, h1, hb1⟩; obtain ⟨t1, k1⟩ := HT.out w1 hb1 h1; (have CR := refuse_any t1 3); (have K1 : Hid (Ch (X2 tb rb) w w1) := k1); clear h1 hb1 t1 k1 CI)
        | (go_at_call 128; refine CR.mono ?_; rintro e w2 ⟨rfl, t2, k2⟩; (have K2 : Hid (Tk w2 tb rb ⟨l2, e2, ref1 s.t 3⟩ ∧ Ch (X2 tb rb) w w2) := ⟨t2, K1.out.trans k2⟩); clear t2 k2 CR))
      go_ret
      exact ⟨rfl, K2.out⟩
    · rw [if_neg (by omega)]
      go_enter Tryz.func129, Tryz.ntmps129
      go_wp2_with (go_at_call 130; refine CI.mono ?_; rintro e w1 ⟨rfl, h1, hb1⟩; (have K1 : Hid (Tk w1 tb rb ⟨l2, e2, s.t⟩ ∧ Ch (X2 tb rb) w w1) := HT.out w1 hb1 h1); clear h1 hb1 CI)
      go_ret
      exact ⟨rfl, K1.out⟩
theorem tint_any {w : World} {tb rb : Nat} {s : Ts} (h : Tk w tb rb s) : Calls Tryz.prog 130 #[.pointer (some ⟨rb, 0, none⟩)] w fun e w' => e = .returned (.int .i64 (tInt s).1) ∧ Tk w' tb rb (tInt s).2 ∧ Ch (X2 tb rb) w w' :=
  (Int_all h.r (show rdU s.l s.e = ((rdU s.l s.e).1, (rdU s.l s.e).2.1, (rdU s.l s.e).2.2) from rfl)).mono fun _ _ ⟨he, h1, hb⟩ => ⟨he, h.read hb h1 (Nat.le_trans (rdU_le _ _) h.le), but_ch hb (.inr rfl)⟩
theorem ttxt_any {w : World} {tb rb : Nat} {s : Ts} (h : Tk w tb rb s) (m : Int) (hm : m ≤ 512) : Calls Tryz.prog 84 #[.pointer (some ⟨rb, 0, none⟩), .int .i64 m] w fun e w' => e = .returned (.string (S (tTxt m s).1)) ∧ Tk w' tb rb (tTxt m s).2 ∧ Ch (X2 tb rb) w w' :=
  (Text_all h.r (by have := h.le; omega) (by omega) (show rdT m s.l s.e = ((rdT m s.l s.e).1, (rdT m s.l s.e).2.1, (rdT m s.l s.e).2.2) from rfl)).mono fun _ _ ⟨he, h1, hb⟩ => ⟨he, h.read hb h1 (Nat.le_trans (rdT_le _ _ _) h.le), but_ch hb (.inr rfl)⟩
/-- a block of its own -/
def Bo (t : TypeId) (w : World) (b : Nat) (a : Array Value) : Prop := w.heap[b]? = some (.cells a t (0, 0))
theorem Bo.lt {t : TypeId} {w : World} {b : Nat} {a : Array Value} (h : Bo t w b a) : b < w.heap.size := (Array.getElem?_eq_some_iff.1 h).1
theorem Bo.c {t : TypeId} {w : World} {b : Nat} {a : Array Value} (h : Bo t w b a) (i : Nat) : w.cell? ⟨b, i, none⟩ = a[i]? := by unfold Bo at h; simp [World.cell?, h]
theorem Bo.f {t : TypeId} {w : World} {b : Nat} {a : Array Value} (h : Bo t w b a) (i : Nat) : w.frozen? ⟨b, i, none⟩ = false := by unfold Bo at h; simp [World.frozen?, h]
theorem Bo.set {t : TypeId} {w : World} {b : Nat} {a : Array Value} (h : Bo t w b a) (i : Nat) (v : Value) : Bo t (w.setCell ⟨b, i, none⟩ v) b (a.setIfInBounds i v) := heap_setCell_same w b i _ _ v h
theorem Bo.ch {t : TypeId} {w w' : World} {b : Nat} {a : Array Value} (h : Bo t w b a) {X : Nat → Prop} (hc : Ch X w w') (hX : ¬ X b) : Bo t w' b a := (hc.block b h.lt hX).trans h
theorem Bo.far {t : TypeId} {w : World} {b : Nat} {a : Array Value} (h : Bo t w b a) {k : Nat} (hk : b ≠ k) (i : Nat) (v : Value) : Bo t (w.setCell ⟨k, i, none⟩ v) b a := (heap_setCell_other w _ b v hk).trans h
theorem Tk.far {w : World} {tb rb : Nat} {s : Ts} (h : Tk w tb rb s) {k : Nat} (h1 : tb ≠ k) (h2 : rb ≠ k) (i : Nat) (v : Value) : Tk (w.setCell ⟨k, i, none⟩ v) tb rb s := h.same (heap_setCell_other w _ tb v h1) (heap_setCell_other w _ rb v h2) (by simp)
end Go.Proofs.YtkbhngdabfoboaaGreatDoor.m11

/-
  Package model: the taker.
-/
import Derived.Test.YtlmdoiagjepmbaaGreatDoorM11Mem
import Derived.Test.YtlmdoiagjepmbaaGreatDoorGWire
import Derived.Test.YtlmdoiagjepmbaaGreatDoorGExprT
import Derived.OwnWalk
namespace Go.Proofs.YtlmdoiagjepmbaaGreatDoor.m11
open Go.Proofs.YtlmdoiagjepmbaaGreatDoor.x10
open Go.RowKit Go.Shelf Go.Sort
open Go.Lib hiding intOf

/-- a taker: what its reader has left, the reader's error, its own -/
structure Ts where
  l : List UInt8
  e : Nat
  t : Nat
def ref1 (t er : Nat) : Nat := if t = 0 then er else t
def tNum (s : Ts) : Int × Ts :=
  let r := rdU s.l s.e
  if Lib.unzigzag r.1 < -2147483648 ∨ 2147483647 < Lib.unzigzag r.1 then (0, ⟨r.2.1, r.2.2, ref1 s.t 3⟩) else (Lib.unzigzag r.1, ⟨r.2.1, r.2.2, s.t⟩)
def tInt (s : Ts) : Int × Ts := (Lib.unzigzag (rdU s.l s.e).1, ⟨(rdU s.l s.e).2.1, (rdU s.l s.e).2.2, s.t⟩)
def tTxt (m : Int) (s : Ts) : List UInt8 × Ts := ((rdT m s.l s.e).1, ⟨(rdT m s.l s.e).2.1, (rdT m s.l s.e).2.2, s.t⟩)
/-- the taker in block tb, its reader in block rb -/
structure Tk (w : World) (tb rb : Nat) (s : Ts) : Prop where
  o : w.heap[tb]? = some (.cells #[.pointer (some ⟨rb, 0, none⟩), .int .i64 (s.t : Int)] 54 (0, 0))
  r : Rd w rb s.l s.e
  ne : tb ≠ rb
  le : s.l.length ≤ 8192
def X2 (tb rb : Nat) : Nat → Prop := fun k => k = tb ∨ k = rb
theorem Tk.lt {w : World} {tb rb : Nat} {s : Ts} (h : Tk w tb rb s) : tb < w.heap.size := (Array.getElem?_eq_some_iff.1 h.o).1
theorem Tk.c0 {w : World} {tb rb : Nat} {s : Ts} (h : Tk w tb rb s) : w.cell? ⟨tb, 0, none⟩ = some (.pointer (some ⟨rb, 0, none⟩)) := by simp [World.cell?, h.o]
theorem Tk.c1 {w : World} {tb rb : Nat} {s : Ts} (h : Tk w tb rb s) : w.cell? ⟨tb, 1, none⟩ = some (.int .i64 (s.t : Int)) := by simp [World.cell?, h.o]
theorem Tk.f1 {w : World} {tb rb : Nat} {s : Ts} (h : Tk w tb rb s) : w.frozen? ⟨tb, 1, none⟩ = false := by simp [World.frozen?, h.o]
theorem rd_of {w w' : World} {b : Nat} {l : List UInt8} {e : Nat} (h : Rd w b l e) (hb : w'.heap[b]? = w.heap[b]?) (hs : w.heap.size ≤ w'.heap.size) : Rd w' b l e := by
  have hc : ∀ i, w'.cell? ⟨b, i, none⟩ = w.cell? ⟨b, i, none⟩ := fun i => by simp only [World.cell?, hb]
  have hf : ∀ i, w'.frozen? ⟨b, i, none⟩ = w.frozen? ⟨b, i, none⟩ := fun i => by simp only [World.frozen?, hb]
  exact ⟨(hc 0).trans h.rest, (hc 1).trans h.err, (hf 0).trans h.fr, (hf 1).trans h.fe, Nat.lt_of_lt_of_le h.lt hs⟩
theorem Tk.same {w w' : World} {tb rb : Nat} {s : Ts} (h : Tk w tb rb s) (h1 : w'.heap[tb]? = w.heap[tb]?) (h2 : w'.heap[rb]? = w.heap[rb]?) (hs : w.heap.size ≤ w'.heap.size) : Tk w' tb rb s := ⟨h1.trans h.o, rd_of h.r h2 hs, h.ne, h.le⟩
theorem Tk.below {w w' : World} {tb rb : Nat} {s : Ts} (h : Tk w tb rb s) (hb : Below w.heap.size w w') : Tk w' tb rb s := h.same (hb.block _ h.lt) (hb.block _ h.r.lt) hb.size
theorem Tk.ch {w w' : World} {tb rb : Nat} {s : Ts} (h : Tk w tb rb s) {X : Nat → Prop} (hc : Ch X w w') (h1 : ¬ X tb) (h2 : ¬ X rb) : Tk w' tb rb s := h.same (hc.block _ h.lt h1) (hc.block _ h.r.lt h2) hc.size
theorem but_ch {b : Nat} {X : Nat → Prop} {w w' : World} (h : But b w w') (hX : X b) : Ch X w w' := ⟨h.os, h.tape, h.output, h.size, fun k hk hn => h.block k hk (fun e => hn (e ▸ hX))⟩
/-- the reader has read on -/
theorem Tk.read {w w' : World} {tb rb : Nat} {s : Ts} (h : Tk w tb rb s) {l : List UInt8} {e : Nat} (hb : But rb w w') (hr : Rd w' rb l e) (hl : l.length ≤ 8192) : Tk w' tb rb ⟨l, e, s.t⟩ := ⟨(hb.block _ h.lt h.ne).trans h.o, hr, h.ne, hl⟩
theorem Tk.err {w : World} {tb rb : Nat} {s : Ts} (h : Tk w tb rb s) (t : Nat) : Tk (w.setCell ⟨tb, 1, none⟩ (.int .i64 (t : Int))) tb rb ⟨s.l, s.e, t⟩ := by
  refine ⟨heap_setCell_same w tb 1 _ _ _ h.o, rd_of h.r ?_ (by simp), h.ne, h.le⟩
  exact heap_setCell_other w _ rb _ h.ne.symm
theorem rdU_le (l : List UInt8) (e : Nat) : (rdU l e).2.1.length ≤ l.length := by
  unfold rdU
  split
  · split
    · exact numb_le l 0 0
    · exact Nat.le_refl _
  · exact Nat.le_refl _
theorem rdT_le (m : Int) (l : List UInt8) (e : Nat) : (rdT m l e).2.1.length ≤ l.length := by
  unfold rdT
  split
  · split
    · exact tex_le m l
    · exact Nat.le_refl _
  · exact Nat.le_refl _

set_option maxHeartbeats 400000 in
theorem refuse_any {w : World} {tb rb : Nat} {s : Ts} (h : Tk w tb rb s) (er : Nat) : Calls Tryz.prog 89 #[.pointer (some ⟨tb, 0, none⟩), .int .i64 (er : Int)] w fun e w' => e = .returned (.tuple #[]) ∧ Tk w' tb rb ⟨s.l, s.e, ref1 s.t er⟩ ∧ Ch (X2 tb rb) w w' := by
  have c1 := h.c1
  have f1 := h.f1
  by_cases h0 : s.t = 0
  · have HR : Hid (Tk (w.setCell ⟨tb, 1, none⟩ (.int .i64 (er : Int))) tb rb ⟨s.l, s.e, ref1 s.t er⟩ ∧ Ch (X2 tb rb) w (w.setCell ⟨tb, 1, none⟩ (.int .i64 (er : Int)))) := by
      refine ⟨?_, (Ch.refl _ w).setCell _ _ (fun _ => .inl rfl)⟩
      unfold ref1; rw [if_pos h0]; exact h.err er
    rw [h0] at c1
    clear h
    go_enter Tryz.func89, Tryz.ntmps89
    go_wp2
    go_end0
    exact ⟨rfl, HR.out⟩
  · have HR : Hid (Tk w tb rb ⟨s.l, s.e, ref1 s.t er⟩) := by
      unfold ref1; rw [if_neg h0]; exact h
    have hne : ((s.t : Int) == 0) = false := by rw [beq_eq_false_iff_ne]; omega
    have hne2 : ¬ (s.t : Int) = 0 := by omega
    clear h h0
    generalize (s.t : Int) = q at *
    go_enter Tryz.func89, Tryz.ntmps89
    go_wp2
    go_end0
    exact ⟨rfl, HR.out, Ch.refl _ _⟩

set_option maxHeartbeats 400000 in
theorem tnum_any {w : World} {tb rb : Nat} {s : Ts} (h : Tk w tb rb s) : Calls Tryz.prog 90 #[.pointer (some ⟨tb, 0, none⟩)] w fun e w' => e = .returned (.int .i64 (tNum s).1) ∧ Tk w' tb rb (tNum s).2 ∧ Ch (X2 tb rb) w w' := by
  obtain ⟨v, l2, e2, hr⟩ : ∃ v l2 e2, rdU s.l s.e = (v, l2, e2) := ⟨_, _, _, rfl⟩
  have hl2 : l2.length ≤ 8192 := by have := rdU_le s.l s.e; rw [hr] at this; exact Nat.le_trans this h.le
  have CI := Int_all h.r hr
  have HT : Hid (∀ w1, But rb w w1 → Rd w1 rb l2 e2 → Tk w1 tb rb ⟨l2, e2, s.t⟩ ∧ Ch (X2 tb rb) w w1) := fun w1 hb h1 => ⟨h.read hb h1 hl2, but_ch hb (.inr rfl)⟩
  have c0 := h.c0
  unfold tNum
  rw [hr]
  simp only
  generalize Lib.unzigzag v = x at *
  clear h hr
  by_cases q1 : x < -2147483648
  · rw [if_pos (.inl q1)]
    go_enter Tryz.func90, Tryz.ntmps90
    go_wp2_with (first
      | (go_at_call 91; refine CI.mono ?_; rintro e w1 ⟨rfl, h1, hb1⟩; obtain ⟨t1, k1⟩ := HT.out w1 hb1 h1; (have CR := refuse_any t1 3); (have K1 : Hid (Ch (X2 tb rb) w w1) := k1); clear h1 hb1 t1 k1 CI)
      | (go_at_call 89; refine CR.mono ?_; rintro e w2 ⟨rfl, t2, k2⟩; (have K2 : Hid (Tk w2 tb rb ⟨l2, e2, ref1 s.t 3⟩ ∧ Ch (X2 tb rb) w w2) := ⟨t2, K1.out.trans k2⟩); clear t2 k2 CR))
    go_ret
    exact ⟨rfl, K2.out⟩
  · by_cases q2 : 2147483647 < x
    · rw [if_pos (.inr q2)]
      go_enter Tryz.func90, Tryz.ntmps90
      go_wp2_with (first
        | (go_at_call 91; refine CI.mono ?_; rintro e w1 ⟨rfl, h1, hb1⟩; obtain ⟨t1, k1⟩ := HT.out w1 hb1 h1; (have CR := refuse_any t1 3); (have K1 : Hid (Ch (X2 tb rb) w w1) := k1); clear h1 hb1 t1 k1 CI)
        | (go_at_call 89; refine CR.mono ?_; rintro e w2 ⟨rfl, t2, k2⟩; (have K2 : Hid (Tk w2 tb rb ⟨l2, e2, ref1 s.t 3⟩ ∧ Ch (X2 tb rb) w w2) := ⟨t2, K1.out.trans k2⟩); clear t2 k2 CR))
      go_ret
      exact ⟨rfl, K2.out⟩
    · rw [if_neg (by omega)]
      go_enter Tryz.func90, Tryz.ntmps90
      go_wp2_with (go_at_call 91; refine CI.mono ?_; rintro e w1 ⟨rfl, h1, hb1⟩; (have K1 : Hid (Tk w1 tb rb ⟨l2, e2, s.t⟩ ∧ Ch (X2 tb rb) w w1) := HT.out w1 hb1 h1); clear h1 hb1 CI)
      go_ret
      exact ⟨rfl, K1.out⟩
theorem tint_any {w : World} {tb rb : Nat} {s : Ts} (h : Tk w tb rb s) : Calls Tryz.prog 91 #[.pointer (some ⟨rb, 0, none⟩)] w fun e w' => e = .returned (.int .i64 (tInt s).1) ∧ Tk w' tb rb (tInt s).2 ∧ Ch (X2 tb rb) w w' :=
  (Int_all h.r (show rdU s.l s.e = ((rdU s.l s.e).1, (rdU s.l s.e).2.1, (rdU s.l s.e).2.2) from rfl)).mono fun _ _ ⟨he, h1, hb⟩ => ⟨he, h.read hb h1 (Nat.le_trans (rdU_le _ _) h.le), but_ch hb (.inr rfl)⟩
theorem ttxt_any {w : World} {tb rb : Nat} {s : Ts} (h : Tk w tb rb s) (m : Int) (hm : m ≤ 512) : Calls Tryz.prog 45 #[.pointer (some ⟨rb, 0, none⟩), .int .i64 m] w fun e w' => e = .returned (.string (S (tTxt m s).1)) ∧ Tk w' tb rb (tTxt m s).2 ∧ Ch (X2 tb rb) w w' :=
  (Text_all h.r (by have := h.le; omega) (by omega) (show rdT m s.l s.e = ((rdT m s.l s.e).1, (rdT m s.l s.e).2.1, (rdT m s.l s.e).2.2) from rfl)).mono fun _ _ ⟨he, h1, hb⟩ => ⟨he, h.read hb h1 (Nat.le_trans (rdT_le _ _ _) h.le), but_ch hb (.inr rfl)⟩
/-- a block of its own -/
def Bo (t : TypeId) (w : World) (b : Nat) (a : Array Value) : Prop := w.heap[b]? = some (.cells a t (0, 0))
theorem Bo.lt {t : TypeId} {w : World} {b : Nat} {a : Array Value} (h : Bo t w b a) : b < w.heap.size := (Array.getElem?_eq_some_iff.1 h).1
theorem Bo.c {t : TypeId} {w : World} {b : Nat} {a : Array Value} (h : Bo t w b a) (i : Nat) : w.cell? ⟨b, i, none⟩ = a[i]? := by unfold Bo at h; simp [World.cell?, h]
theorem Bo.f {t : TypeId} {w : World} {b : Nat} {a : Array Value} (h : Bo t w b a) (i : Nat) : w.frozen? ⟨b, i, none⟩ = false := by unfold Bo at h; simp [World.frozen?, h]
theorem Bo.set {t : TypeId} {w : World} {b : Nat} {a : Array Value} (h : Bo t w b a) (i : Nat) (v : Value) : Bo t (w.setCell ⟨b, i, none⟩ v) b (a.setIfInBounds i v) := heap_setCell_same w b i _ _ v h
theorem Bo.ch {t : TypeId} {w w' : World} {b : Nat} {a : Array Value} (h : Bo t w b a) {X : Nat → Prop} (hc : Ch X w w') (hX : ¬ X b) : Bo t w' b a := (hc.block b h.lt hX).trans h
theorem Bo.far {t : TypeId} {w : World} {b : Nat} {a : Array Value} (h : Bo t w b a) {k : Nat} (hk : b ≠ k) (i : Nat) (v : Value) : Bo t (w.setCell ⟨k, i, none⟩ v) b a := (heap_setCell_other w _ b v hk).trans h
theorem Tk.far {w : World} {tb rb : Nat} {s : Ts} (h : Tk w tb rb s) {k : Nat} (h1 : tb ≠ k) (h2 : rb ≠ k) (i : Nat) (v : Value) : Tk (w.setCell ⟨k, i, none⟩ v) tb rb s := h.same (heap_setCell_other w _ tb v h1) (heap_setCell_other w _ rb v h2) (by simp)
end Go.Proofs.YtlmdoiagjepmbaaGreatDoor.m11
namespace Go.Proofs.YtlmdoiagjepmbaaGreatDoor.m11
open Go.Proofs.YtlmdoiagjepmbaaGreatDoor.x10
open Go.RowKit Go.Shelf Go.Sort
open Go.Lib hiding intOf

def tNode (s : Ts) : Nd × Ts :=
  let a := tNum s; let b := tNum a.2; let c := tNum b.2; let d := tTxt 32 c.2; let e := tTxt 32 d.2; let f := tTxt 512 e.2; let g := tInt f.2
  (⟨a.1, b.1, c.1, d.1, e.1, f.1, g.1⟩, g.2)
def tFlow (s : Ts) : Fl × Ts :=
  let a := tNum s; let b := tNum a.2; let c := tTxt 512 b.2
  (⟨a.1, b.1, c.1⟩, c.2)
/-- while it is taken: the taker, what is built, the result's place -/
structure NNode (w w1 : World) (tb rb : Nat) (s : Ts) (cs : Array Value) : Prop where
  tk : Tk w1 tb rb s
  bo : Bo 32 w1 (w.heap.size + 1) cs
  br : Bo 32 w1 w.heap.size #[.int .i64 0, .int .i64 0, .int .i64 0, .string ⟨#[]⟩, .string ⟨#[]⟩, .string ⟨#[]⟩, .int .i64 0]
  ch : Ch (X2 tb rb) w w1
  l1 : tb < w.heap.size
  l2 : rb < w.heap.size
theorem nNode_new {w : World} {tb rb : Nat} {s : Ts} (h : Tk w tb rb s) : NNode w ((w.alloc (.cells #[.int .i64 0, .int .i64 0, .int .i64 0, .string ⟨#[]⟩, .string ⟨#[]⟩, .string ⟨#[]⟩, .int .i64 0] 32)).alloc (.cells #[.int .i64 0, .int .i64 0, .int .i64 0, .string ⟨#[]⟩, .string ⟨#[]⟩, .string ⟨#[]⟩, .int .i64 0] 32)) tb rb s #[.int .i64 0, .int .i64 0, .int .i64 0, .string ⟨#[]⟩, .string ⟨#[]⟩, .string ⟨#[]⟩, .int .i64 0] := by
  have hb0 : Below w.heap.size w ((w.alloc (.cells #[.int .i64 0, .int .i64 0, .int .i64 0, .string ⟨#[]⟩, .string ⟨#[]⟩, .string ⟨#[]⟩, .int .i64 0] 32)).alloc (.cells #[.int .i64 0, .int .i64 0, .int .i64 0, .string ⟨#[]⟩, .string ⟨#[]⟩, .string ⟨#[]⟩, .int .i64 0] 32)) := ((Below.refl _ w).alloc (Nat.le_refl _) _).alloc (by simp) _
  refine ⟨h.below hb0, ?_, ?_, Ch.of_below hb0, h.lt, h.r.lt⟩
  · have : (((w.alloc (.cells #[.int .i64 0, .int .i64 0, .int .i64 0, .string ⟨#[]⟩, .string ⟨#[]⟩, .string ⟨#[]⟩, .int .i64 0] 32)).alloc (.cells #[.int .i64 0, .int .i64 0, .int .i64 0, .string ⟨#[]⟩, .string ⟨#[]⟩, .string ⟨#[]⟩, .int .i64 0] 32))).heap[(w.alloc (.cells #[.int .i64 0, .int .i64 0, .int .i64 0, .string ⟨#[]⟩, .string ⟨#[]⟩, .string ⟨#[]⟩, .int .i64 0] 32)).heap.size]? = _ := Array.getElem?_push_size
    rw [World.size_alloc] at this
    exact this
  · have hx : (w.alloc (.cells #[.int .i64 0, .int .i64 0, .int .i64 0, .string ⟨#[]⟩, .string ⟨#[]⟩, .string ⟨#[]⟩, .int .i64 0] 32)).heap[w.heap.size]? = _ := Array.getElem?_push_size
    exact (((Below.refl _ (w.alloc (.cells #[.int .i64 0, .int .i64 0, .int .i64 0, .string ⟨#[]⟩, .string ⟨#[]⟩, .string ⟨#[]⟩, .int .i64 0] 32))).alloc (Nat.le_refl _) (.cells #[.int .i64 0, .int .i64 0, .int .i64 0, .string ⟨#[]⟩, .string ⟨#[]⟩, .string ⟨#[]⟩, .int .i64 0] 32)).block w.heap.size (by simp)).trans hx
theorem NNode.call {w w1 w2 : World} {tb rb : Nat} {s s2 : Ts} {cs : Array Value} (h : NNode w w1 tb rb s cs) (hc : Ch (X2 tb rb) w1 w2) (ht : Tk w2 tb rb s2) : NNode w w2 tb rb s2 cs := by
  have a1 := h.l1
  have a2 := h.l2
  refine ⟨ht, h.bo.ch hc (fun e => ?_), h.br.ch hc (fun e => ?_), h.ch.trans hc, h.l1, h.l2⟩
  · rcases e with e | e <;> omega
  · rcases e with e | e <;> omega
theorem NNode.next {w w1 w2 : World} {tb rb : Nat} {s s2 : Ts} {cs : Array Value} (h : NNode w w1 tb rb s cs) (i : Nat) (v : Value) (hc : Ch (X2 tb rb) (w1.setCell ⟨w.heap.size + 1, i, none⟩ v) w2) (ht : Tk w2 tb rb s2) : NNode w w2 tb rb s2 (cs.setIfInBounds i v) := by
  have a1 := h.l1
  have a2 := h.l2
  refine ⟨ht, (h.bo.set i v).ch hc (fun e => ?_), (h.br.far (by omega) i v).ch hc (fun e => ?_), (h.ch.setCell _ _ (fun e => ?_)).trans hc, h.l1, h.l2⟩
  · rcases e with e | e <;> omega
  · rcases e with e | e <;> omega
  · simp only at e; omega
/-- while it is taken: the taker, what is built, the result's place -/
structure NFlow (w w1 : World) (tb rb : Nat) (s : Ts) (cs : Array Value) : Prop where
  tk : Tk w1 tb rb s
  bo : Bo 37 w1 (w.heap.size + 1) cs
  br : Bo 37 w1 w.heap.size #[.int .i64 0, .int .i64 0, .string ⟨#[]⟩]
  ch : Ch (X2 tb rb) w w1
  l1 : tb < w.heap.size
  l2 : rb < w.heap.size
theorem nFlow_new {w : World} {tb rb : Nat} {s : Ts} (h : Tk w tb rb s) : NFlow w ((w.alloc (.cells #[.int .i64 0, .int .i64 0, .string ⟨#[]⟩] 37)).alloc (.cells #[.int .i64 0, .int .i64 0, .string ⟨#[]⟩] 37)) tb rb s #[.int .i64 0, .int .i64 0, .string ⟨#[]⟩] := by
  have hb0 : Below w.heap.size w ((w.alloc (.cells #[.int .i64 0, .int .i64 0, .string ⟨#[]⟩] 37)).alloc (.cells #[.int .i64 0, .int .i64 0, .string ⟨#[]⟩] 37)) := ((Below.refl _ w).alloc (Nat.le_refl _) _).alloc (by simp) _
  refine ⟨h.below hb0, ?_, ?_, Ch.of_below hb0, h.lt, h.r.lt⟩
  · have : (((w.alloc (.cells #[.int .i64 0, .int .i64 0, .string ⟨#[]⟩] 37)).alloc (.cells #[.int .i64 0, .int .i64 0, .string ⟨#[]⟩] 37))).heap[(w.alloc (.cells #[.int .i64 0, .int .i64 0, .string ⟨#[]⟩] 37)).heap.size]? = _ := Array.getElem?_push_size
    rw [World.size_alloc] at this
    exact this
  · have hx : (w.alloc (.cells #[.int .i64 0, .int .i64 0, .string ⟨#[]⟩] 37)).heap[w.heap.size]? = _ := Array.getElem?_push_size
    exact (((Below.refl _ (w.alloc (.cells #[.int .i64 0, .int .i64 0, .string ⟨#[]⟩] 37))).alloc (Nat.le_refl _) (.cells #[.int .i64 0, .int .i64 0, .string ⟨#[]⟩] 37)).block w.heap.size (by simp)).trans hx
theorem NFlow.call {w w1 w2 : World} {tb rb : Nat} {s s2 : Ts} {cs : Array Value} (h : NFlow w w1 tb rb s cs) (hc : Ch (X2 tb rb) w1 w2) (ht : Tk w2 tb rb s2) : NFlow w w2 tb rb s2 cs := by
  have a1 := h.l1
  have a2 := h.l2
  refine ⟨ht, h.bo.ch hc (fun e => ?_), h.br.ch hc (fun e => ?_), h.ch.trans hc, h.l1, h.l2⟩
  · rcases e with e | e <;> omega
  · rcases e with e | e <;> omega
theorem NFlow.next {w w1 w2 : World} {tb rb : Nat} {s s2 : Ts} {cs : Array Value} (h : NFlow w w1 tb rb s cs) (i : Nat) (v : Value) (hc : Ch (X2 tb rb) (w1.setCell ⟨w.heap.size + 1, i, none⟩ v) w2) (ht : Tk w2 tb rb s2) : NFlow w w2 tb rb s2 (cs.setIfInBounds i v) := by
  have a1 := h.l1
  have a2 := h.l2
  refine ⟨ht, (h.bo.set i v).ch hc (fun e => ?_), (h.br.far (by omega) i v).ch hc (fun e => ?_), (h.ch.setCell _ _ (fun e => ?_)).trans hc, h.l1, h.l2⟩
  · rcases e with e | e <;> omega
  · rcases e with e | e <;> omega
  · simp only at e; omega
theorem ch_far {X : Nat → Prop} {w w1 : World} (h : Ch X w w1) {b : Nat} (hb : w.heap.size ≤ b) (i : Nat) (v : Value) : Ch X w (w1.setCell ⟨b, i, none⟩ v) := h.setCell _ _ (fun e => absurd e (by simp only; omega))

set_option maxRecDepth 100000 in
set_option maxHeartbeats 2000000 in
theorem tnode_any {w : World} {tb rb : Nat} {s : Ts} (h : Tk w tb rb s) : Calls Tryz.prog 47 #[.pointer (some ⟨tb, 0, none⟩)] w fun e w' => e = .returned (nA (tNode s).1) ∧ Tk w' tb rb (tNode s).2 ∧ Ch (X2 tb rb) w w' := by
  obtain ⟨v0, s1, h0⟩ : ∃ v t, tNum s = (v, t) := ⟨_, _, rfl⟩
  obtain ⟨v1, s2, h1⟩ : ∃ v t, tNum s1 = (v, t) := ⟨_, _, rfl⟩
  obtain ⟨v2, s3, h2⟩ : ∃ v t, tNum s2 = (v, t) := ⟨_, _, rfl⟩
  obtain ⟨v3, s4, h3⟩ : ∃ v t, tTxt 32 s3 = (v, t) := ⟨_, _, rfl⟩
  obtain ⟨v4, s5, h4⟩ : ∃ v t, tTxt 32 s4 = (v, t) := ⟨_, _, rfl⟩
  obtain ⟨v5, s6, h5⟩ : ∃ v t, tTxt 512 s5 = (v, t) := ⟨_, _, rfl⟩
  obtain ⟨v6, s7, h6⟩ : ∃ v t, tInt s6 = (v, t) := ⟨_, _, rfl⟩
  have HE : Hid (tNode s = (⟨v0, v1, v2, v3, v4, v5, v6⟩, s7)) := by show _ = _; unfold tNode; simp only [h0, h1, h2, h3, h4, h5, h6]
  have HC0 : Hid (∀ W, Tk W tb rb s → Calls Tryz.prog 90 #[.pointer (some ⟨tb, 0, none⟩)] W fun e w' => e = .returned (.int .i64 v0) ∧ Tk w' tb rb s1 ∧ Ch (X2 tb rb) W w') := fun W h => by
    have := tnum_any h
    rwa [h0] at this
  have HC1 : Hid (∀ W, Tk W tb rb s1 → Calls Tryz.prog 90 #[.pointer (some ⟨tb, 0, none⟩)] W fun e w' => e = .returned (.int .i64 v1) ∧ Tk w' tb rb s2 ∧ Ch (X2 tb rb) W w') := fun W h => by
    have := tnum_any h
    rwa [h1] at this
  have HC2 : Hid (∀ W, Tk W tb rb s2 → Calls Tryz.prog 90 #[.pointer (some ⟨tb, 0, none⟩)] W fun e w' => e = .returned (.int .i64 v2) ∧ Tk w' tb rb s3 ∧ Ch (X2 tb rb) W w') := fun W h => by
    have := tnum_any h
    rwa [h2] at this
  have HC3 : Hid (∀ W, Tk W tb rb s3 → Calls Tryz.prog 45 #[.pointer (some ⟨rb, 0, none⟩), .int .i64 32] W fun e w' => e = .returned (.string (S v3)) ∧ Tk w' tb rb s4 ∧ Ch (X2 tb rb) W w') := fun W h => by
    have := ttxt_any h 32 (by omega)
    rwa [h3] at this
  have HC4 : Hid (∀ W, Tk W tb rb s4 → Calls Tryz.prog 45 #[.pointer (some ⟨rb, 0, none⟩), .int .i64 32] W fun e w' => e = .returned (.string (S v4)) ∧ Tk w' tb rb s5 ∧ Ch (X2 tb rb) W w') := fun W h => by
    have := ttxt_any h 32 (by omega)
    rwa [h4] at this
  have HC5 : Hid (∀ W, Tk W tb rb s5 → Calls Tryz.prog 45 #[.pointer (some ⟨rb, 0, none⟩), .int .i64 512] W fun e w' => e = .returned (.string (S v5)) ∧ Tk w' tb rb s6 ∧ Ch (X2 tb rb) W w') := fun W h => by
    have := ttxt_any h 512 (by omega)
    rwa [h5] at this
  have HC6 : Hid (∀ W, Tk W tb rb s6 → Calls Tryz.prog 91 #[.pointer (some ⟨rb, 0, none⟩)] W fun e w' => e = .returned (.int .i64 v6) ∧ Tk w' tb rb s7 ∧ Ch (X2 tb rb) W w') := fun W h => by
    have := tint_any h
    rwa [h6] at this
  have hb0 : Below w.heap.size w ((w.alloc (.cells #[.int .i64 0, .int .i64 0, .int .i64 0, .string ⟨#[]⟩, .string ⟨#[]⟩, .string ⟨#[]⟩, .int .i64 0] 32)).alloc (.cells #[.int .i64 0, .int .i64 0, .int .i64 0, .string ⟨#[]⟩, .string ⟨#[]⟩, .string ⟨#[]⟩, .int .i64 0] 32)) := ((Below.refl _ w).alloc (Nat.le_refl _) _).alloc (by simp) _
  have N0 : Hid (NNode w ((w.alloc (.cells #[.int .i64 0, .int .i64 0, .int .i64 0, .string ⟨#[]⟩, .string ⟨#[]⟩, .string ⟨#[]⟩, .int .i64 0] 32)).alloc (.cells #[.int .i64 0, .int .i64 0, .int .i64 0, .string ⟨#[]⟩, .string ⟨#[]⟩, .string ⟨#[]⟩, .int .i64 0] 32)) tb rb s #[.int .i64 0, .int .i64 0, .int .i64 0, .string ⟨#[]⟩, .string ⟨#[]⟩, .string ⟨#[]⟩, .int .i64 0]) := nNode_new h
  have t0 := h.below hb0 |>.c0
  have k1 := h.lt
  have k2 := h.r.lt
  have q1 : tb ≠ w.heap.size + 1 := by omega
  have q2 : rb ≠ w.heap.size + 1 := by omega
  have q3 : ¬ tb = w.heap.size + 1 := q1
  have q4 : ¬ w.heap.size = w.heap.size + 1 := by omega
  have q5 : ¬ w.heap.size + 1 = w.heap.size := by omega
  have q6 : ¬ w.heap.size + 1 = tb := by omega
  have q7 : ¬ w.heap.size = tb := by omega
  have C0 := HC0.out _ (h.below hb0)
  rw [HE.out]
  unfold nA
  simp only
  clear h hb0 HE HC0 h0 h1 h2 h3 h4 h5 h6
  go_enter Tryz.func47, Tryz.ntmps47
  go_wp2_with (first
    | (go_at_call 90; refine C0.mono ?_; rintro e w1 ⟨rfl, t, c⟩; (have N1 : Hid (NNode w w1 tb rb s1 #[.int .i64 0, .int .i64 0, .int .i64 0, .string ⟨#[]⟩, .string ⟨#[]⟩, .string ⟨#[]⟩, .int .i64 0]) := N0.out.call c t); clear t c C0 N0; (have f0 := N1.out.bo.f 0); (have g0 : w1.cell? ⟨w.heap.size + 1, 0, none⟩ = some (.int .i64 0) := N1.out.bo.c 0); (have t1 := N1.out.tk.c0); (have C1 := HC1.out _ (N1.out.tk.far q1 q2 0 (.int .i64 v0))); clear HC1)
    | (go_at_call 90; refine C1.mono ?_; rintro e w2 ⟨rfl, t, c⟩; (have N2 : Hid (NNode w w2 tb rb s2 #[.int .i64 v0, .int .i64 0, .int .i64 0, .string ⟨#[]⟩, .string ⟨#[]⟩, .string ⟨#[]⟩, .int .i64 0]) := N1.out.next 0 (.int .i64 v0) c t); clear t c C1 N1; (have f1 := N2.out.bo.f 1); (have g1 : w2.cell? ⟨w.heap.size + 1, 1, none⟩ = some (.int .i64 0) := N2.out.bo.c 1); (have t2 := N2.out.tk.c0); (have C2 := HC2.out _ (N2.out.tk.far q1 q2 1 (.int .i64 v1))); clear HC2)
    | (go_at_call 90; refine C2.mono ?_; rintro e w3 ⟨rfl, t, c⟩; (have N3 : Hid (NNode w w3 tb rb s3 #[.int .i64 v0, .int .i64 v1, .int .i64 0, .string ⟨#[]⟩, .string ⟨#[]⟩, .string ⟨#[]⟩, .int .i64 0]) := N2.out.next 1 (.int .i64 v1) c t); clear t c C2 N2; (have f2 := N3.out.bo.f 2); (have g2 : w3.cell? ⟨w.heap.size + 1, 2, none⟩ = some (.int .i64 0) := N3.out.bo.c 2); (have t3 := N3.out.tk.c0); (have C3 := HC3.out _ (N3.out.tk.far q1 q2 2 (.int .i64 v2))); clear HC3)
    | (go_at_call 45; refine C3.mono ?_; rintro e w4 ⟨rfl, t, c⟩; (have N4 : Hid (NNode w w4 tb rb s4 #[.int .i64 v0, .int .i64 v1, .int .i64 v2, .string ⟨#[]⟩, .string ⟨#[]⟩, .string ⟨#[]⟩, .int .i64 0]) := N3.out.next 2 (.int .i64 v2) c t); clear t c C3 N3; (have f3 := N4.out.bo.f 3); (have g3 : w4.cell? ⟨w.heap.size + 1, 3, none⟩ = some (.string ⟨#[]⟩) := N4.out.bo.c 3); (have t4 := N4.out.tk.c0); (have C4 := HC4.out _ (N4.out.tk.far q1 q2 3 (.string (S v3)))); clear HC4)
    | (go_at_call 45; refine C4.mono ?_; rintro e w5 ⟨rfl, t, c⟩; (have N5 : Hid (NNode w w5 tb rb s5 #[.int .i64 v0, .int .i64 v1, .int .i64 v2, .string (S v3), .string ⟨#[]⟩, .string ⟨#[]⟩, .int .i64 0]) := N4.out.next 3 (.string (S v3)) c t); clear t c C4 N4; (have f4 := N5.out.bo.f 4); (have g4 : w5.cell? ⟨w.heap.size + 1, 4, none⟩ = some (.string ⟨#[]⟩) := N5.out.bo.c 4); (have t5 := N5.out.tk.c0); (have C5 := HC5.out _ (N5.out.tk.far q1 q2 4 (.string (S v4)))); clear HC5)
    | (go_at_call 45; refine C5.mono ?_; rintro e w6 ⟨rfl, t, c⟩; (have N6 : Hid (NNode w w6 tb rb s6 #[.int .i64 v0, .int .i64 v1, .int .i64 v2, .string (S v3), .string (S v4), .string ⟨#[]⟩, .int .i64 0]) := N5.out.next 4 (.string (S v4)) c t); clear t c C5 N5; (have f5 := N6.out.bo.f 5); (have g5 : w6.cell? ⟨w.heap.size + 1, 5, none⟩ = some (.string ⟨#[]⟩) := N6.out.bo.c 5); (have t6 := N6.out.tk.c0); (have C6 := HC6.out _ (N6.out.tk.far q1 q2 5 (.string (S v5)))); clear HC6)
    | (go_at_call 91; refine C6.mono ?_; rintro e w7 ⟨rfl, t, c⟩; (have N7 : Hid (NNode w w7 tb rb s7 #[.int .i64 v0, .int .i64 v1, .int .i64 v2, .string (S v3), .string (S v4), .string (S v5), .int .i64 0]) := N6.out.next 5 (.string (S v5)) c t); clear t c C6 N6; (have f6 := N7.out.bo.f 6); (have g0 : w7.cell? ⟨w.heap.size + 1, 0, none⟩ = some (.int .i64 v0) := N7.out.bo.c 0); (have g1 : w7.cell? ⟨w.heap.size + 1, 1, none⟩ = some (.int .i64 v1) := N7.out.bo.c 1); (have g2 : w7.cell? ⟨w.heap.size + 1, 2, none⟩ = some (.int .i64 v2) := N7.out.bo.c 2); (have g3 : w7.cell? ⟨w.heap.size + 1, 3, none⟩ = some (.string (S v3)) := N7.out.bo.c 3); (have g4 : w7.cell? ⟨w.heap.size + 1, 4, none⟩ = some (.string (S v4)) := N7.out.bo.c 4); (have g5 : w7.cell? ⟨w.heap.size + 1, 5, none⟩ = some (.string (S v5)) := N7.out.bo.c 5); (have g6 : w7.cell? ⟨w.heap.size + 1, 6, none⟩ = some (.int .i64 0) := N7.out.bo.c 6); (have y0 : w7.cell? ⟨w.heap.size, 0, none⟩ = some (.int .i64 0) := N7.out.br.c 0); (have z0 := N7.out.br.f 0);  (have y1 : w7.cell? ⟨w.heap.size, 1, none⟩ = some (.int .i64 0) := N7.out.br.c 1); (have z1 := N7.out.br.f 1);  (have y2 : w7.cell? ⟨w.heap.size, 2, none⟩ = some (.int .i64 0) := N7.out.br.c 2); (have z2 := N7.out.br.f 2);  (have y3 : w7.cell? ⟨w.heap.size, 3, none⟩ = some (.string ⟨#[]⟩) := N7.out.br.c 3); (have z3 := N7.out.br.f 3);  (have y4 : w7.cell? ⟨w.heap.size, 4, none⟩ = some (.string ⟨#[]⟩) := N7.out.br.c 4); (have z4 := N7.out.br.f 4);  (have y5 : w7.cell? ⟨w.heap.size, 5, none⟩ = some (.string ⟨#[]⟩) := N7.out.br.c 5); (have z5 := N7.out.br.f 5);  (have y6 : w7.cell? ⟨w.heap.size, 6, none⟩ = some (.int .i64 0) := N7.out.br.c 6); (have z6 := N7.out.br.f 6)))
  have p1 : tb ≠ w.heap.size := by omega
  have p2 : rb ≠ w.heap.size := by omega
  exact bodyPost_ret (v := .agg #[.int .i64 v0, .int .i64 v1, .int .i64 v2, .string (S v3), .string (S v4), .string (S v5), .int .i64 v6]) (by simp [results, Tryz.results47, go_sem, y0, y1, y2, y3, y4, y5, y6]) rfl ⟨rfl, ((((((((N7.out.tk.far q1 q2 6 _).far p1 p2 0 _).far p1 p2 1 _).far p1 p2 2 _).far p1 p2 3 _).far p1 p2 4 _).far p1 p2 5 _).far p1 p2 6 _), (ch_far (ch_far (ch_far (ch_far (ch_far (ch_far (ch_far (ch_far N7.out.ch (Nat.le_succ _) 6 _) (Nat.le_refl _) 0 _) (Nat.le_refl _) 1 _) (Nat.le_refl _) 2 _) (Nat.le_refl _) 3 _) (Nat.le_refl _) 4 _) (Nat.le_refl _) 5 _) (Nat.le_refl _) 6 _)⟩

set_option maxRecDepth 100000 in
set_option maxHeartbeats 2000000 in
theorem tflow_any {w : World} {tb rb : Nat} {s : Ts} (h : Tk w tb rb s) : Calls Tryz.prog 49 #[.pointer (some ⟨tb, 0, none⟩)] w fun e w' => e = .returned (fA (tFlow s).1) ∧ Tk w' tb rb (tFlow s).2 ∧ Ch (X2 tb rb) w w' := by
  obtain ⟨v0, s1, h0⟩ : ∃ v t, tNum s = (v, t) := ⟨_, _, rfl⟩
  obtain ⟨v1, s2, h1⟩ : ∃ v t, tNum s1 = (v, t) := ⟨_, _, rfl⟩
  obtain ⟨v2, s3, h2⟩ : ∃ v t, tTxt 512 s2 = (v, t) := ⟨_, _, rfl⟩
  have HE : Hid (tFlow s = (⟨v0, v1, v2⟩, s3)) := by show _ = _; unfold tFlow; simp only [h0, h1, h2]
  have HC0 : Hid (∀ W, Tk W tb rb s → Calls Tryz.prog 90 #[.pointer (some ⟨tb, 0, none⟩)] W fun e w' => e = .returned (.int .i64 v0) ∧ Tk w' tb rb s1 ∧ Ch (X2 tb rb) W w') := fun W h => by
    have := tnum_any h
    rwa [h0] at this
  have HC1 : Hid (∀ W, Tk W tb rb s1 → Calls Tryz.prog 90 #[.pointer (some ⟨tb, 0, none⟩)] W fun e w' => e = .returned (.int .i64 v1) ∧ Tk w' tb rb s2 ∧ Ch (X2 tb rb) W w') := fun W h => by
    have := tnum_any h
    rwa [h1] at this
  have HC2 : Hid (∀ W, Tk W tb rb s2 → Calls Tryz.prog 45 #[.pointer (some ⟨rb, 0, none⟩), .int .i64 512] W fun e w' => e = .returned (.string (S v2)) ∧ Tk w' tb rb s3 ∧ Ch (X2 tb rb) W w') := fun W h => by
    have := ttxt_any h 512 (by omega)
    rwa [h2] at this
  have hb0 : Below w.heap.size w ((w.alloc (.cells #[.int .i64 0, .int .i64 0, .string ⟨#[]⟩] 37)).alloc (.cells #[.int .i64 0, .int .i64 0, .string ⟨#[]⟩] 37)) := ((Below.refl _ w).alloc (Nat.le_refl _) _).alloc (by simp) _
  have N0 : Hid (NFlow w ((w.alloc (.cells #[.int .i64 0, .int .i64 0, .string ⟨#[]⟩] 37)).alloc (.cells #[.int .i64 0, .int .i64 0, .string ⟨#[]⟩] 37)) tb rb s #[.int .i64 0, .int .i64 0, .string ⟨#[]⟩]) := nFlow_new h
  have t0 := h.below hb0 |>.c0
  have k1 := h.lt
  have k2 := h.r.lt
  have q1 : tb ≠ w.heap.size + 1 := by omega
  have q2 : rb ≠ w.heap.size + 1 := by omega
  have q3 : ¬ tb = w.heap.size + 1 := q1
  have q4 : ¬ w.heap.size = w.heap.size + 1 := by omega
  have q5 : ¬ w.heap.size + 1 = w.heap.size := by omega
  have q6 : ¬ w.heap.size + 1 = tb := by omega
  have q7 : ¬ w.heap.size = tb := by omega
  have C0 := HC0.out _ (h.below hb0)
  rw [HE.out]
  unfold fA
  simp only
  clear h hb0 HE HC0 h0 h1 h2
  go_enter Tryz.func49, Tryz.ntmps49
  go_wp2_with (first
    | (go_at_call 90; refine C0.mono ?_; rintro e w1 ⟨rfl, t, c⟩; (have N1 : Hid (NFlow w w1 tb rb s1 #[.int .i64 0, .int .i64 0, .string ⟨#[]⟩]) := N0.out.call c t); clear t c C0 N0; (have f0 := N1.out.bo.f 0); (have g0 : w1.cell? ⟨w.heap.size + 1, 0, none⟩ = some (.int .i64 0) := N1.out.bo.c 0); (have t1 := N1.out.tk.c0); (have C1 := HC1.out _ (N1.out.tk.far q1 q2 0 (.int .i64 v0))); clear HC1)
    | (go_at_call 90; refine C1.mono ?_; rintro e w2 ⟨rfl, t, c⟩; (have N2 : Hid (NFlow w w2 tb rb s2 #[.int .i64 v0, .int .i64 0, .string ⟨#[]⟩]) := N1.out.next 0 (.int .i64 v0) c t); clear t c C1 N1; (have f1 := N2.out.bo.f 1); (have g1 : w2.cell? ⟨w.heap.size + 1, 1, none⟩ = some (.int .i64 0) := N2.out.bo.c 1); (have t2 := N2.out.tk.c0); (have C2 := HC2.out _ (N2.out.tk.far q1 q2 1 (.int .i64 v1))); clear HC2)
    | (go_at_call 45; refine C2.mono ?_; rintro e w3 ⟨rfl, t, c⟩; (have N3 : Hid (NFlow w w3 tb rb s3 #[.int .i64 v0, .int .i64 v1, .string ⟨#[]⟩]) := N2.out.next 1 (.int .i64 v1) c t); clear t c C2 N2; (have f2 := N3.out.bo.f 2); (have g0 : w3.cell? ⟨w.heap.size + 1, 0, none⟩ = some (.int .i64 v0) := N3.out.bo.c 0); (have g1 : w3.cell? ⟨w.heap.size + 1, 1, none⟩ = some (.int .i64 v1) := N3.out.bo.c 1); (have g2 : w3.cell? ⟨w.heap.size + 1, 2, none⟩ = some (.string ⟨#[]⟩) := N3.out.bo.c 2); (have y0 : w3.cell? ⟨w.heap.size, 0, none⟩ = some (.int .i64 0) := N3.out.br.c 0); (have z0 := N3.out.br.f 0);  (have y1 : w3.cell? ⟨w.heap.size, 1, none⟩ = some (.int .i64 0) := N3.out.br.c 1); (have z1 := N3.out.br.f 1);  (have y2 : w3.cell? ⟨w.heap.size, 2, none⟩ = some (.string ⟨#[]⟩) := N3.out.br.c 2); (have z2 := N3.out.br.f 2)))
  have p1 : tb ≠ w.heap.size := by omega
  have p2 : rb ≠ w.heap.size := by omega
  exact bodyPost_ret (v := .agg #[.int .i64 v0, .int .i64 v1, .string (S v2)]) (by simp [results, Tryz.results49, go_sem, y0, y1, y2]) rfl ⟨rfl, ((((N3.out.tk.far q1 q2 2 _).far p1 p2 0 _).far p1 p2 1 _).far p1 p2 2 _), (ch_far (ch_far (ch_far (ch_far N3.out.ch (Nat.le_succ _) 2 _) (Nat.le_refl _) 0 _) (Nat.le_refl _) 1 _) (Nat.le_refl _) 2 _)⟩
end Go.Proofs.YtlmdoiagjepmbaaGreatDoor.m11

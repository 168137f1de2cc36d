/-
  Package book's back, Fail, Late.
-/
import Derived.Test.YthmfcloecmnfnaaGreatB16Emi
import Derived.Test.YthmfcloecmnfnaaGreatB16Tkn
import Derived.BigQuiet
namespace Go.Proofs.YthmfcloecmnfnaaGreat.f13
open Go.RowKit Go.Shelf Go.Sort
open Go.Lib hiding intOf

theorem chJoin {X Y : Nat → Prop} {a b c : World} (h : Ch X a b) (k : Ch Y b c) (hY : ∀ x, x < a.heap.size → Y x → X x) : Ch X a c :=
  ⟨k.os.trans h.os, k.tape.trans h.tape, k.output.trans h.output, Nat.le_trans h.size k.size, fun i hi hX => (k.block i (Nat.lt_of_lt_of_le hi h.size) (fun e => hX (hY i hi e))).trans (h.block i hi hX)⟩
/-- a work that went on -/
structure Wkr (B : Nat) (w : World) (g : Nat) (k k' : Wo) (w' : World) : Prop where
  wk : Wk B w' g k'
  pt : k'.pt = k.pt
  ps : k'.ps = k.ps
  nw : k'.nw = k.nw
  ch : Ch (fun b => b = g ∨ k.ev.ownBlock = some b) w w'
  ev : ∀ b, k'.ev.ownBlock = some b → k.ev.ownBlock = some b ∨ w.heap.size ≤ b
  new : ∀ b, k'.has g b → k.has g b ∨ w.heap.size ≤ b
theorem Wkr.refl {B : Nat} {w : World} {g : Nat} {k : Wo} (h : Wk B w g k) {w' : World} (hb : Below w.heap.size w w') : Wkr B w g k k w' := ⟨h.up hb, rfl, rfl, rfl, Ch.of_below hb, fun _ h => .inl h, fun _ h => .inl h⟩
theorem Wkr.trans {B : Nat} {w w' w'' : World} {g : Nat} {k k' k'' : Wo} (_hg : g < w.heap.size) (h : Wkr B w g k k' w') (h' : Wkr B w' g k' k'' w'') : Wkr B w g k k'' w'' :=
  ⟨h'.wk, h'.pt.trans h.pt, h'.ps.trans h.ps, h'.nw.trans h.nw, chJoin h.ch h'.ch (fun b hb e => e.elim .inl (fun e => (h.ev b e).elim .inr (fun e => by omega))), fun b e => (h'.ev b e).elim (h.ev b) (fun e => .inr (Nat.le_trans h.ch.size e)), fun b e => (h'.new b e).elim (h.new b) (fun e => .inr (Nat.le_trans h.ch.size e))⟩
/-- what an Emit leaves: a state that is T but for where it lies, one event more -/
def Emd (B : Nat) (w : World) (g : Nat) (k : Wo) (T : St) (x : Rc) (w' : World) : Prop := ∃ k' : Wo, Wkr B w g k k' w' ∧ k'.s.e = T ∧ Sz k'.s ∧ k'.el.map Rc.e = k.el.map Rc.e ++ [({ x with cl := 2, fr := k.ps, tm := k.nw } : Rc).e]
theorem Emd.of {B : Nat} {w W w' : World} {g : Nat} {k : Wo} {T : St} {x : Rc} (hk : Wk B w g k) (hb : Below w.heap.size w W) (h : Emd B W g k T x w') : Emd B w g k T x w' := by
  obtain ⟨k', h1, h2⟩ := h
  exact ⟨k', Wkr.trans hk.lt.2 (Wkr.refl hk hb) h1, h2⟩
theorem Emd.up {B : Nat} {w w' w'' : World} {g : Nat} {k : Wo} {T : St} {x : Rc} (hk : Wk B w g k) (h : Emd B w g k T x w') (hb : Below w'.heap.size w' w'') : Emd B w g k T x w'' := by
  obtain ⟨k', h1, h2⟩ := h
  exact ⟨k', Wkr.trans hk.lt.2 h1 (Wkr.refl h1.wk hb), h2⟩
theorem Emd.len {B : Nat} {w w' : World} {g : Nat} {k : Wo} {T : St} {x : Rc} (h : Emd B w g k T x w') : ∃ k' : Wo, Wkr B w g k k' w' ∧ k'.s.e = T ∧ Sz k'.s ∧ k'.el.map Rc.e = k.el.map Rc.e ++ [({ x with cl := 2, fr := k.ps, tm := k.nw } : Rc).e] ∧ k'.el.length = k.el.length + 1 := by
  obtain ⟨k', h1, h2, h3, h4⟩ := h
  refine ⟨k', h1, h2, h3, h4, ?_⟩
  have := congrArg List.length h4
  simpa using this

theorem Emt_7 {B : Nat} {w : World} {g : Nat} {k : Wo} {r : Rc} (h : Wk B w g k) (hB : B ≤ w.heap.size) (hz : Sz k.s) (hr : Rr 4 Vr.c w r.vv r.v) (hn : r.v.length * 48 ≤ 211106232528000) (hel : ((k.el.length + 1) + (k.el.length + 1) / 4 + 192) * 144 ≤ 281474976710656) (hk : r.kd = 7) :
    Calls Tryz.prog 27 #[.pointer (some ⟨g, 0, none⟩), .agg r.cs.toArray] w fun e w' => e = .returned (.tuple #[]) ∧ Emd B w g k (eTaken { k.s.e with pos := up1 k.s.pos, done := max k.s.done k.ps } r) r w' := by
  refine (Emit_7 h hB hz hr hn hel hk).mono ?_
  rintro e w' ⟨rfl, t, ev', v', he, hW, hC, hN, hH⟩
  exact ⟨rfl, _, ⟨hW, rfl, rfl, rfl, hC, hN, hH⟩, he, Sz.jt hz (p := up1 k.s.pos) (d := max k.s.done k.ps) (jl := chgL (fun x => x.kk == r.k1) (fun x => { x with wkr := r.a, unt := r.n }) k.s.jobs) (tl := k.s.tokens) he chgL_len rfl, by rw [List.map_append]; rfl⟩

theorem Emt_8 {B : Nat} {w : World} {g : Nat} {k : Wo} {r : Rc} (h : Wk B w g k) (hB : B ≤ w.heap.size) (hz : Sz k.s) (hr : Rr 4 Vr.c w r.vv r.v) (hn : r.v.length * 48 ≤ 211106232528000) (hel : ((k.el.length + 1) + (k.el.length + 1) / 4 + 192) * 144 ≤ 281474976710656) (hk : r.kd = 8) :
    Calls Tryz.prog 27 #[.pointer (some ⟨g, 0, none⟩), .agg r.cs.toArray] w fun e w' => e = .returned (.tuple #[]) ∧ Emd B w g k (eBack { k.s.e with pos := up1 k.s.pos, done := max k.s.done k.ps } r) r w' := by
  refine (Emit_8 h hB hz hr hn hel hk).mono ?_
  rintro e w' ⟨rfl, t, ev', v', he, hW, hC, hN, hH⟩
  exact ⟨rfl, _, ⟨hW, rfl, rfl, rfl, hC, hN, hH⟩, he, Sz.jt hz (p := up1 k.s.pos) (d := max k.s.done k.ps) (jl := chgL (fun x => x.kk == r.k1) (fun x => { x with retr := r.n, wkr := [], unt := 0 }) k.s.jobs) (tl := k.s.tokens) he chgL_len rfl, by rw [List.map_append]; rfl⟩

theorem Emt_13 {B : Nat} {w : World} {g : Nat} {k : Wo} {r : Rc} (h : Wk B w g k) (hB : B ≤ w.heap.size) (hz : Sz k.s) (hr : Rr 4 Vr.c w r.vv r.v) (hn : r.v.length * 48 ≤ 211106232528000) (hel : ((k.el.length + 1) + (k.el.length + 1) / 4 + 192) * 144 ≤ 281474976710656) (hk : r.kd = 13) :
    Calls Tryz.prog 27 #[.pointer (some ⟨g, 0, none⟩), .agg r.cs.toArray] w fun e w' => e = .returned (.tuple #[]) ∧ Emd B w g k (eStuck { k.s.e with pos := up1 k.s.pos, done := max k.s.done k.ps } r) r w' := by
  refine (Emit_13 h hB hz hr hn hel hk).mono ?_
  rintro e w' ⟨rfl, t, ev', v', he, hW, hC, hN, hH⟩
  exact ⟨rfl, _, ⟨hW, rfl, rfl, rfl, hC, hN, hH⟩, he, Sz.jt hz (p := up1 k.s.pos) (d := max k.s.done k.ps) (jl := k.s.jobs) (tl := chgL (fun x => x.kk == r.k1) (fun x => { x with stuck := r.a }) k.s.tokens) he rfl chgL_len, by rw [List.map_append]; rfl⟩

theorem Emt_24 {B : Nat} {w : World} {g : Nat} {k : Wo} {r : Rc} (h : Wk B w g k) (hB : B ≤ w.heap.size) (hz : Sz k.s) (hr : Rr 4 Vr.c w r.vv r.v) (hn : r.v.length * 48 ≤ 211106232528000) (hel : ((k.el.length + 1) + (k.el.length + 1) / 4 + 192) * 144 ≤ 281474976710656) (hk : r.kd = 24) :
    Calls Tryz.prog 27 #[.pointer (some ⟨g, 0, none⟩), .agg r.cs.toArray] w fun e w' => e = .returned (.tuple #[]) ∧ Emd B w g k ({ k.s.e with pos := up1 k.s.pos, done := max k.s.done k.ps }) r w' := by
  refine (Emit_24 h hB hz hr hn hel hk).mono ?_
  rintro e w' ⟨rfl, t, ev', v', he, hW, hC, hN, hH⟩
  exact ⟨rfl, _, ⟨hW, rfl, rfl, rfl, hC, hN, hH⟩, he, Sz.jt hz (p := up1 k.s.pos) (d := max k.s.done k.ps) (jl := k.s.jobs) (tl := k.s.tokens) he rfl rfl, by rw [List.map_append]; rfl⟩

set_option maxHeartbeats 2000000 in
set_option maxRecDepth 100000 in
theorem back_any {B : Nat} {w : World} {g : Nat} {k : Wo} (j : Jb) (n : Int) (h : Wk B w g k) (hB : B ≤ w.heap.size) (hz : Sz k.s) (hel : ((k.el.length + 1) + (k.el.length + 1) / 4 + 192) * 144 ≤ 281474976710656) :
    Calls Tryz.prog 30 #[.pointer (some ⟨g, 0, none⟩), .agg (Jb.c j).toArray, .int .i64 n] w fun e w' => e = .returned (.tuple #[]) ∧ Emd B w g k (eBack { k.s.e with pos := up1 k.s.pos, done := max k.s.done k.ps } ⟨0, 8, 0, 0, j.key, 0, 0, n, 0, [], [], [], .slice none 0 0, []⟩) ⟨0, 8, 0, 0, j.key, 0, 0, n, 0, [], [], [], .slice none 0 0, []⟩ w' := by
  obtain ⟨j0, j1, j2, j3, j4, j5⟩ := j
  have hb : Below w.heap.size w (w.alloc (.cells (Jb.c ⟨j0, j1, j2, j3, j4, j5⟩).toArray 46)) := (Below.refl _ w).alloc (Nat.le_refl _) _
  have CE := Emt_8 (r := ⟨0, 8, 0, 0, j0, 0, 0, n, 0, [], [], [], .slice none 0 0, []⟩) (h.up hb) (Nat.le_trans hB hb.size) hz (Rr.nil _) (by simp) hel rfl
  have HM : Hid (∀ e w', (e = .returned (.tuple #[]) ∧ Emd B (w.alloc (.cells (Jb.c ⟨j0, j1, j2, j3, j4, j5⟩).toArray 46)) g k (eBack { k.s.e with pos := up1 k.s.pos, done := max k.s.done k.ps } ⟨0, 8, 0, 0, j0, 0, 0, n, 0, [], [], [], .slice none 0 0, []⟩) ⟨0, 8, 0, 0, j0, 0, 0, n, 0, [], [], [], .slice none 0 0, []⟩ w') → (e : Ending) = .returned (.tuple #[]) ∧ Emd B w g k (eBack { k.s.e with pos := up1 k.s.pos, done := max k.s.done k.ps } ⟨0, 8, 0, 0, j0, 0, 0, n, 0, [], [], [], .slice none 0 0, []⟩) ⟨0, 8, 0, 0, j0, 0, 0, n, 0, [], [], [], .slice none 0 0, []⟩ w') := fun e w' hh => ⟨hh.1, Emd.of h hb hh.2⟩
  have CE' := CE.mono HM.out
  clear CE HM h hB hz hel hb
  simp only [Jb.c, Rc.cs, S] at CE' ⊢
  go_enter Tryz.func30, Tryz.ntmps30
  go_wp2_with (go_at_call 27; refine CE'.mono ?_; rintro e w1 ⟨rfl, hE⟩; (have HE : Hid (Emd B w g k (eBack { k.s.e with pos := up1 k.s.pos, done := max k.s.done k.ps } ⟨0, 8, 0, 0, j0, 0, 0, n, 0, [], [], [], .slice none 0 0, []⟩) ⟨0, 8, 0, 0, j0, 0, 0, n, 0, [], [], [], .slice none 0 0, []⟩ w1) := hE); clear hE)
  go_end0
  exact ⟨rfl, HE.out⟩
end Go.Proofs.YthmfcloecmnfnaaGreat.f13

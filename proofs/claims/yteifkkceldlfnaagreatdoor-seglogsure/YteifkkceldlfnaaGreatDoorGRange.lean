/-
  Ranges over functions; the frames of bytes as such.
-/
import Derived.Test.YteifkkceldlfnaaGreatDoorGDisk
import Derived.RangeFuncNested
import Derived.RangeFuncBound
import Derived.RangeFuncCalls
import Derived.RangeFuncLeaves
import Derived.OwnWalkIn
import Derived.TacticsInMore
import Derived.LoopNIn
import Derived.LoopIn
import Derived.Test.YteifkkceldlfnaaGreatDoorGFrame
import Derived.Stop.RegionWithIn
import Derived.Maps.OwnIn
namespace Go.Proofs.YteifkkceldlfnaaGreatDoor
open Go.RowKit Go.Shelf Go.Sort
open Go.Lib hiding intOf

/-- a call of yield: one round -/
def Yld (P : Program) (l : Nat) (args : Array Value) (W : World) (R : Ending → World → Prop) : Prop :=
  ∃ fn tmps assign body, (Instr.yield l args).run P W = .ok (.round l fn tmps assign body) W ∧ ∀ m, RoundIn Fence.wide m P l fn tmps assign body W R

/-- the loop's two blocks of book-keeping -/
def Two (D : Nat) (r : Obj) (W : World) : Prop := W.heap[D]? = some (.deferred (some [])) ∧ W.heap[D + 1]? = some r

theorem Yld.mono {P : Program} {l : Nat} {args : Array Value} {W : World} {R R' : Ending → World → Prop} (h : Yld P l args W R) (hr : ∀ e w, R e w → R' e w) : Yld P l args W R' := by
  obtain ⟨fn, tmps, assign, body, h1, h2⟩ := h
  exact ⟨fn, tmps, assign, body, h1, fun m => (h2 m).mono hr⟩

theorem Two.ch {D : Nat} {r : Obj} {W W' : World} {X : Nat → Prop} (h : Two D r W) (hc : Ch X W W') (h1 : ¬ X D) (h2 : ¬ X (D + 1)) : Two D r W' := ⟨hc.obj h.1 h1, hc.obj h.2 h2⟩

/-- how the body of a round may be left: what is to be kept is kept -/
def ownPostX {α : Type} (B : Nat) (Kp : World → World → Prop) (I : List α → World → Prop) (Ix : Code → List α → World → Prop) (xs : List α) (W : World) : Exit → Act → World → Prop
  | .normal, _, W' => KeepsFrom B W W' ∧ Kp W W' ∧ I xs W'
  | .ret, _, W' => KeepsFrom B W W' ∧ Kp W W' ∧ Ix .ret xs W'
  | .exit id, _, W' => KeepsFrom B W W' ∧ Kp W W' ∧ Ix (.exit id) xs W'
  | .goto t, _, W' => KeepsFrom B W W' ∧ Kp W W' ∧ Ix (.goto t) xs W'
  | .panic _, _, _ => False
  | .outgrown, _, _ => False

theorem range_law {P : Program} {α σ : Type} {g : Operand} {ps : Array Tmp} {assign body : Code} {Q : Exit → Act → World → Prop} {a : Act} {w : World} {n : Nat}
    {gf : Nat} {lb : Array Value} (hg : a.eval g = .func (.func gf) #[] lb) (eg : ∀ args w, (callFunc gf args).run P w = .ok (.enter gf args) w)
    (encs : α → Array Value) (hps : ∀ x, (encs x).size = ps.size)
    (I I2 : σ → List α → World → Prop) (Ix : σ → Code → List α → World → Prop) (Kp : σ → World → World → Prop) (Nx : σ → List α → α → Prop) (E : List α → World → Prop) (Ex : Code → List α → World → Prop)
    (A : σ → List α → α → Act → World → Prop)
    (hI : ∀ s, OwnFrom w.heap.size (I2 s)) (hIx : ∀ s c, OwnFrom w.heap.size (Ix s c)) (hE : OwnFrom w.heap.size E) (hEx : ∀ c, OwnFrom w.heap.size (Ex c)) (hA : ∀ s pre x a', OwnFrom w.heap.size (fun (_ : Unit) W => A s pre x a' W))
    (hKt : ∀ s {A B C : World}, Kp s A B → Kp s B C → Kp s A C) (hKb : ∀ s (W : World) (l : Nat) (o o' : Obj), w.heap.size ≤ l → W.heap[l]? = some o → o.isCells = false → Kp s W (W.putObj l o'))
    (hassign : ∀ (m l : Nat) (s : σ) (pre : List α) (x : α) (W : World) (K : Act → World → Prop), I s pre W → Nx s pre x → (∀ a' W', KeepsFrom w.heap.size W W' → Kp s W W' → A s pre x a' W' → K a' W') →
      assign.wpIn (Fence.wide.inRound l) m P (Exit.then K (fun _ _ _ => False)) { tmps := (ps.zip (encs x)).foldl (fun t (p, v) => t.setIfInBounds p v) a.tmps, defers := [] } W)
    (hbody : ∀ (m l : Nat) (s : σ) (pre : List α) (x : α) (a' : Act) (W : World), A s pre x a' W → Nx s pre x → body.wpIn (Fence.wide.inRound l) m P (ownPostX w.heap.size (Kp s) (I2 s) (Ix s) (pre ++ [x]) W) a' W)
    (hseq : ∀ (W1 : World) (R0 : Obj) (R1 : Code → Obj), R0.isCells = false → (∀ c, (R1 c).isCells = false) → Below w.heap.size w W1 → W1.heap.size = w.heap.size + 2 → Two w.heap.size R0 W1 →
      (∀ s pre x W, I s pre W → Nx s pre x → Two w.heap.size R0 W → Yld P (w.heap.size + 1) (encs x) W fun e W' =>
        (e = .returned (.bool true) ∧ KeepsFrom (w.heap.size + 2) W W' ∧ I2 s (pre ++ [x]) W' ∧ Kp s W W' ∧ Two w.heap.size R0 W') ∨ (e = .returned (.bool false) ∧ KeepsFrom (w.heap.size + 2) W W' ∧ Kp s W W' ∧ ∃ c, Ix s c (pre ++ [x]) W' ∧ Two w.heap.size (R1 c) W')) →
      Calls P gf (#[.func (.yield (w.heap.size + 1)) #[] #[]] ++ lb) W1 fun e W2 => (∃ v, e = .returned v) ∧ ((∃ xs, E xs W2 ∧ Two w.heap.size R0 W2) ∨ (∃ c xs, Ex c xs W2 ∧ Two w.heap.size (R1 c) W2)))
    (hdone : ∀ (xs : List α) (W : World), E xs W → W.heap[w.heap.size]? = some (.deferred (some [])) → Q .normal { a with defers := { target := .collected w.heap.size, args := #[] } :: a.defers } W)
    (hstop : ∀ (c : Code) (xs : List α) (W : World), Ex c xs W → W.heap[w.heap.size]? = some (.deferred (some [])) → c.wpIn Fence.wide n P Q { a with defers := { target := .collected w.heap.size, args := #[] } :: a.defers } W) :
    (Code.rangeFunc g ps assign body).wpIn Fence.wide n P Q a w := by
  refine wpIn_rangeFunc ?_
  intro fn hfn
  rw [show Fence.wide.round = none from rfl]
  obtain ⟨rec, hrec⟩ : ∃ rec : LoopState → Option Code → Loop, rec = fun st pe => { state := st, pending := pe, fn, tmps := a.tmps, params := ps, assign, body, defers := w.heap.size } := ⟨_, rfl⟩
  obtain ⟨W1, hW1⟩ : ∃ W1, (w.alloc (.deferred (some []))).alloc (.loop (rec .ready none)) = W1 := ⟨_, rfl⟩
  have hL1 : W1.heap[w.heap.size + 1]? = some (.loop (rec .ready none)) := by
    rw [← hW1]; have := World.alloc_heap_new (w.alloc (.deferred (some []))) (.loop (rec .ready none)); rwa [World.size_alloc] at this
  have hK1 : W1.heap[w.heap.size]? = some (.deferred (some [])) := by
    rw [← hW1]; exact (Below.heap_alloc _ _ _ (by simp)).trans (World.alloc_heap_new w _)
  have hb1 : Below w.heap.size w W1 := by
    rw [← hW1]; exact ((Below.refl _ w).alloc (Nat.le_refl _) _).alloc (by simp) _
  have hs1 : W1.heap.size = w.heap.size + 2 := by rw [← hW1]; simp
  refine ⟨w.heap.size + 1, [{ target := .collected w.heap.size, args := #[] }], W1, { target := .fn (.func gf) lb, args := #[.func (.yield (w.heap.size + 1)) #[] #[]] }, W1, gf,
    #[.func (.yield (w.heap.size + 1)) #[] #[]] ++ lb, W1, ?_, ?_, ?_, ?_, (fun h => by cases h), ?_⟩
  · rw [← hW1, hrec]; exact run_enterLoop_outer _ _ _ _ _
  · simp only [resolve, hg]
    simp [go_sem]
  · intro f' hf'; trivial
  · simp [invoke, go_sem, eg]
  · refine callsIn_wide.2 ((hseq W1 (.loop (rec .ready none)) (fun c => .loop (rec .done (some c))) rfl (fun _ => rfl) hb1 hs1 ⟨hK1, hL1⟩ ?_).mono ?_)
    · rintro s pre x W hi hnx ⟨hk, hl⟩
      have hlt : w.heap.size + 1 < W.heap.size := (Array.getElem?_eq_some_iff.1 hl).1
      have hy := run_yield (P := P) (args := encs x) hl (by rw [hrec]; exact hps x)
      rw [hrec] at hy
      refine ⟨fn, _, assign, body, hy, fun m => roundIn_of_wpIn hfn (hassign m _ s pre x W _ hi hnx ?_)⟩
      clear hy
      intro a' Wa hkfa hkpa hax
      replace hl := hkfa.same _ _ (by omega) hl rfl
      replace hk := hkfa.same _ _ (Nat.le_refl _) hk rfl
      replace hlt : w.heap.size + 1 < Wa.heap.size := (Array.getElem?_eq_some_iff.1 hl).1
      clear hi
      revert hkpa hkfa
      generalize W = Wb
      intro hkfa hkpa
      obtain ⟨W, rfl⟩ : ∃ W, W = Wa := ⟨_, rfl⟩
      refine ⟨_, run_beginRound hl (by rw [hrec]), ?_⟩
      have hl2 : (W.putObj (w.heap.size + 1) (.loop { rec .ready none with state := .busy })).heap[w.heap.size + 1]? = some (.loop { rec .ready none with state := .busy }) := World.putObj_heap_same hlt
      have hk2 : (W.putObj (w.heap.size + 1) (.loop { rec .ready none with state := .busy })).heap[w.heap.size]? = some (.deferred (some [])) := (World.putObj_heap_other (by omega)).trans hk
      have hw2 : Kp s W (W.putObj (w.heap.size + 1) (.loop { rec .ready none with state := .busy })) := hKb _ _ _ _ _ (by omega) hl rfl
      refine wpIn_mono (hbody m _ s pre x a' _ ((hA s pre x a').putObj (s := ()) _ hax (by omega) hl rfl) hnx) ?_
      have fin : ∀ (jump : Option Code) (W3 : World), KeepsFrom w.heap.size (W.putObj (w.heap.size + 1) (.loop { rec .ready none with state := .busy })) W3 →
          (Instr.endRound (w.heap.size + 1) jump).run P W3 = .ok (.bool jump.isNone) (W3.putObj (w.heap.size + 1) (.loop (rec (if jump.isNone then .ready else .done) jump))) ∧
          W3.heap[w.heap.size + 1]? = some (.loop { rec .ready none with state := .busy }) ∧
          (W3.putObj (w.heap.size + 1) (.loop (rec (if jump.isNone then .ready else .done) jump))).heap[w.heap.size + 1]? = some (.loop (rec (if jump.isNone then .ready else .done) jump)) ∧
          (W3.putObj (w.heap.size + 1) (.loop (rec (if jump.isNone then .ready else .done) jump))).heap[w.heap.size]? = some (.deferred (some [])) := fun jump W3 hk3 => by
        have hl3 := hk3.same _ _ (by omega) hl2 rfl
        have := run_endRound (P := P) jump hl3
        rw [hrec] at this ⊢
        exact ⟨this, by rw [hrec] at hl3; exact hl3, World.putObj_heap_same (Array.getElem?_eq_some_iff.1 hl3).1, (World.putObj_heap_other (by omega)).trans (hk3.same _ _ (Nat.le_refl _) hk2 rfl)⟩
      have kf : ∀ (W3 : World) (o : Obj), KeepsFrom w.heap.size (W.putObj (w.heap.size + 1) (.loop { rec .ready none with state := .busy })) W3 → KeepsFrom (w.heap.size + 2) Wb (W3.putObj (w.heap.size + 1) o) := fun W3 o h3 => by
        have up : ∀ {X Y : World}, KeepsFrom w.heap.size X Y → KeepsFrom (w.heap.size + 2) X Y := fun h => ⟨h.size, fun k o hB hk ho => h.same k o (by omega) hk ho⟩
        have pt : ∀ (X : World) (o : Obj), KeepsFrom (w.heap.size + 2) X (X.putObj (w.heap.size + 1) o) := fun X o => KeepsFrom.of_grownBy (grownBy_putObj' X _ o) (fun j e => by cases e; omega)
        exact (((up hkfa).trans (pt W _)).trans (up h3)).trans (pt W3 o)
      rintro e a3 W3 hp
      cases e with
      | normal =>
        obtain ⟨hk3, hkp3, hi3⟩ := hp
        obtain ⟨hr, hl3, hl4, hk4⟩ := fin none W3 hk3
        exact ⟨_, _, hr, .inl ⟨rfl, kf W3 _ hk3, (hI s).putObj _ hi3 (by omega) hl3 rfl, hKt s hkpa (hKt s (hKt s hw2 hkp3) (hKb _ _ _ _ _ (by omega) hl3 rfl)), hk4, hl4⟩⟩
      | ret =>
        obtain ⟨hk3, hkp3, hi3⟩ := hp
        obtain ⟨hr, hl3, hl4, hk4⟩ := fin (some .ret) W3 hk3
        exact ⟨_, _, hr, .inr ⟨rfl, kf W3 _ hk3, hKt s hkpa (hKt s (hKt s hw2 hkp3) (hKb _ _ _ _ _ (by omega) hl3 rfl)), .ret, (hIx s _).putObj _ hi3 (by omega) hl3 rfl, hk4, hl4⟩⟩
      | exit id =>
        obtain ⟨hk3, hkp3, hi3⟩ := hp
        obtain ⟨hr, hl3, hl4, hk4⟩ := fin (some (.exit id)) W3 hk3
        exact ⟨_, _, hr, .inr ⟨rfl, kf W3 _ hk3, hKt s hkpa (hKt s (hKt s hw2 hkp3) (hKb _ _ _ _ _ (by omega) hl3 rfl)), .exit id, (hIx s _).putObj _ hi3 (by omega) hl3 rfl, hk4, hl4⟩⟩
      | goto t =>
        obtain ⟨hk3, hkp3, hi3⟩ := hp
        obtain ⟨hr, hl3, hl4, hk4⟩ := fin (some (.goto t)) W3 hk3
        exact ⟨_, _, hr, .inr ⟨rfl, kf W3 _ hk3, hKt s hkpa (hKt s (hKt s hw2 hkp3) (hKb _ _ _ _ _ (by omega) hl3 rfl)), .goto t, (hIx s _).putObj _ hi3 (by omega) hl3 rfl, hk4, hl4⟩⟩
      | panic ch => exact hp.elim
      | outgrown => exact hp.elim
    · rintro e W2 ⟨⟨v, rfl⟩, (⟨xs, hi, hk, hl⟩ | ⟨c, xs, hi, hk, hl⟩)⟩
      · exact ⟨none, _, by have := run_endLoop (P := P) hl (by rw [hrec]; simp); rw [hrec] at this; exact this, hdone xs _ (hE.putObj _ hi (by omega) hl rfl) ((World.putObj_heap_other (by omega)).trans hk)⟩
      · exact ⟨some c, _, by have := run_endLoop (P := P) hl (by rw [hrec]; simp); rw [hrec] at this; exact this, hstop c xs _ ((hEx c).putObj _ hi (by omega) hl rfl) ((World.putObj_heap_other (by omega)).trans hk)⟩

/-- the cells of certain blocks are as they were -/
def Kq (X : Nat → Prop) (W W' : World) : Prop := W.heap.size ≤ W'.heap.size ∧ ∀ (k : Nat) (o : Obj), X k → W.heap[k]? = some o → o.isCells = true → W'.heap[k]? = some o

theorem Kq.refl (X : Nat → Prop) (W : World) : Kq X W W := ⟨Nat.le_refl _, fun _ _ _ h _ => h⟩

theorem Kq.trans {X : Nat → Prop} {A B C : World} (h : Kq X A B) (k : Kq X B C) : Kq X A C := ⟨Nat.le_trans h.1 k.1, fun i o hX hA ho => k.2 i o hX (h.2 i o hX hA ho) ho⟩

theorem Kq.put {X : Nat → Prop} (W : World) (l : Nat) (o p : Obj) (h : W.heap[l]? = some o) (ho : o.isCells = false) : Kq X W (W.putObj l p) :=
  ⟨(grownBy_putObj' W l p).size, fun k _ _ hk hc => (World.putObj_heap_other (fun e => by subst e; rw [h] at hk; cases hk; rw [ho] at hc; cases hc)).trans hk⟩

theorem Kq.of_ch {X Y : Nat → Prop} {W W' : World} (h : Ch Y W W') (hXY : ∀ k, X k → ¬ Y k) : Kq X W W' := ⟨h.size, fun k _ hX hk _ => h.obj hk (hXY k hX)⟩

/-- a range over nothing -/
theorem range_none {P : Program} {g : Operand} {ps : Array Tmp} {assign body : Code} {Q : Exit → Act → World → Prop} {a : Act} {w : World} {n : Nat}
    {gf : Nat} {lb : Array Value} (hg : a.eval g = .func (.func gf) #[] lb) (eg : ∀ args w, (callFunc gf args).run P w = .ok (.enter gf args) w)
    (hcall : ∀ l W1, Below w.heap.size w W1 → Calls P gf (#[.func (.yield l) #[] #[]] ++ lb) W1 fun e W2 => (∃ v, e = .returned v) ∧ Below W1.heap.size W1 W2)
    (hdone : ∀ (W : World), Below w.heap.size w W → W.heap[w.heap.size]? = some (.deferred (some [])) → Q .normal { a with defers := { target := .collected w.heap.size, args := #[] } :: a.defers } W) :
    (Code.rangeFunc g ps assign body).wpIn Fence.wide n P Q a w := by
  refine range_law (α := Unit) (σ := Unit) hg eg (fun _ => Array.replicate ps.size undef) (fun _ => by simp) (fun _ _ _ => False) (fun _ _ _ => False) (fun _ _ _ _ => False) (fun _ _ _ => True) (fun _ _ _ => False) (fun _ W => Below w.heap.size w W) (fun _ _ _ => False) (fun _ _ _ _ _ => False)
    (fun _ _ _ _ _ h _ _ => h) (fun _ _ _ _ _ _ h _ _ => h) (ownFrom_below (Nat.le_refl _) (Nat.le_refl _)) (fun _ _ _ _ _ h _ _ => h) (fun _ _ _ _ _ _ _ _ h _ _ => h) (fun _ _ _ _ _ _ => trivial) (fun _ _ _ _ _ _ _ _ => trivial)
    (fun _ _ _ _ _ _ _ h => h.elim) (fun _ _ _ _ _ _ _ h => h.elim) ?_ (fun _ W h hD => hdone W h hD) (fun _ _ _ h => h.elim)
  intro W1 R0 R1 _ _ hb hs h2 _
  refine (hcall _ W1 hb).mono ?_
  rintro e W2 ⟨hv, hB⟩
  refine ⟨hv, .inl ⟨[], hb.trans (hB.mono hb.size), ?_⟩⟩
  exact ⟨(hB.block _ (by omega)).trans h2.1, (hB.block _ (by omega)).trans h2.2⟩

theorem takes {D : Nat} {W : World} (hD : W.heap[D]? = some (.deferred (some []))) {P : Program} : (Instr.takeDeferred D).run P W = .ok [] (W.putObj D (.deferred none)) := run_takeDeferred hD

theorem below_take {B : Nat} {w W : World} {D : Nat} (h : Below B w W) (hB : B ≤ w.heap.size) (hD : B ≤ D) (o : Obj) : Below B w (W.putObj D o) :=
  h.trans ((Below.refl B W).grown (grownBy_putObj' W D o) (Nat.le_trans hB h.size) (fun k e => by cases e; exact hD))
end Go.Proofs.YteifkkceldlfnaaGreatDoor
namespace Go.Proofs.YteifkkceldlfnaaGreatDoor
open Go.RowKit Go.Shelf Go.Sort
open Go.Lib hiding intOf

/-- a function that may be called -/
def Ent0 (gf : Nat) : Prop := ∀ args w, (callFunc gf args).run Tryz.prog w = .ok (.enter gf args) w
/-- what a range is handed: a loop's yield, or a function -/
def Yk (y : Value) : Prop := (∃ l, y = .func (.yield l) #[] #[]) ∨ ∃ gf caps, y = .func (.func gf) #[] caps ∧ Ent0 gf
/-- a call of it -/
def Yd (y : Value) (args : Array Value) (W : World) (R : Ending → World → Prop) : Prop :=
  (∃ l, y = .func (.yield l) #[] #[] ∧ Yld Tryz.prog l args W R) ∨ ∃ gf caps, y = .func (.func gf) #[] caps ∧ Ent0 gf ∧ Calls Tryz.prog gf (args ++ caps) W R
theorem Yd.mono {y : Value} {args : Array Value} {W : World} {R R' : Ending → World → Prop} (h : Yd y args W R) (hr : ∀ e w, R e w → R' e w) : Yd y args W R' := by
  rcases h with ⟨l, e, h⟩ | ⟨gf, caps, e, h0, h⟩
  · exact .inl ⟨l, e, h.mono hr⟩
  · exact .inr ⟨gf, caps, e, h0, h.mono hr⟩
theorem Yd.yield {l : Nat} {args : Array Value} {W : World} {R : Ending → World → Prop} (h : Yd (.func (.yield l) #[] #[]) args W R) : Yld Tryz.prog l args W R := by
  rcases h with ⟨l', e, h⟩ | ⟨gf, caps, e, h0, h⟩
  · cases e; exact h
  · cases e
theorem Yd.func {gf : Nat} {caps args : Array Value} {W : World} {R : Ending → World → Prop} (h : Yd (.func (.func gf) #[] caps) args W R) : Calls Tryz.prog gf (args ++ caps) W R := by
  rcases h with ⟨l', e, h⟩ | ⟨gf, caps, e, h0, h⟩
  · cases e
  · cases e; exact h
/-- what a range, or the book-keeping of its loop, may have turned -/
def Sb (n s : Nat) (W W' : World) : Prop := Ch (fun k => n ≤ k ∧ (k < s ∨ ∃ o : Obj, W.heap[k]? = some o ∧ o.isCells = false)) W W'
theorem Sb.of_ch {n s : Nat} {W W' : World} (h : Ch (fun k => n ≤ k ∧ k < s) W W') : Sb n s W W' := h.mono (fun _ _ hk => ⟨hk.1, .inl hk.2⟩)
theorem Sb.low {n m s : Nat} {W W' : World} (h : Sb n s W W') (hm : m ≤ n) : Sb m s W W' := Ch.mono h (fun _ _ hk => ⟨Nat.le_trans hm hk.1, hk.2⟩)
theorem Sb.trans {n s : Nat} {A B C : World} (h : Sb n s A B) (k : Sb n s B C) : Sb n s A C :=
  ⟨(Ch.os k).trans (Ch.os h), (Ch.tape k).trans (Ch.tape h), (Ch.output k).trans (Ch.output h), Nat.le_trans (Ch.size h) (Ch.size k), fun i hi hX =>
    (Ch.block k i (Nat.lt_of_lt_of_le hi (Ch.size h)) (fun hb => hX ⟨hb.1, hb.2.imp id (fun ⟨o, h1, h2⟩ => ⟨o, (Ch.block h i hi hX).symm.trans h1, h2⟩)⟩)).trans (Ch.block h i hi hX)⟩
theorem Sb.of_below {n s : Nat} {A B : World} (h : Below A.heap.size A B) : Sb n s A B := Ch.of_below h
/-- what the one who ranges owes: J holds from the start on (s: memory's size when all is ready), whatever the range does with blocks of its own; each call keeps the range's blocks, those too that it made since the last call (Wp: memory then), and goes on with J, or leaves with Jx -/
structure Cons {α : Type} (enc : α → Array Value) (y : Value) (l : List α) (X : Nat → Prop) (W1 : World) (J Jx : Nat → List α → World → Prop) : Prop where
  yk : Yk y
  st : ∀ s pre W W', J s pre W → Sb W1.heap.size s W W' → J s pre W'
  stx : ∀ s pre W W', Jx s pre W → Sb W1.heap.size s W W' → Jx s pre W'
  start : ∀ W0, Below W1.heap.size W1 W0 → J W0.heap.size [] W0
  go : ∀ s pre x Wp W, J s pre Wp → Sb W1.heap.size s Wp W → pre ++ [x] <+: l → Yd y (enc x) W fun e W' => KeepsFrom W1.heap.size W W' ∧ Kq (fun k => X k ∨ (W1.heap.size ≤ k ∧ k < s) ∨ (Wp.heap.size ≤ k ∧ k < W.heap.size)) W W' ∧ ((e = .returned (.bool true) ∧ J s (pre ++ [x]) W') ∨ (e = .returned (.bool false) ∧ Jx s (pre ++ [x]) W'))

/-- a call of a range comes to its end -/
def Runs {α : Type} (enc : α → Array Value) (gf : Nat) (lb : Array Value) (l : List α) (X : Nat → Prop) (W1 : World) : Prop :=
  ∀ y J Jx, Cons enc y l X W1 J Jx → Calls Tryz.prog gf (#[y] ++ lb) W1 fun e W2 => (∃ v, e = .returned v) ∧ ((∃ s, J s l W2) ∨ ∃ s pre, Jx s pre W2)

/-- f is a range over l; what it is lies in the blocks of X -/
def Sq {α : Type} (enc : α → Array Value) (w : World) (f : Value) (l : List α) (X : Nat → Prop) : Prop :=
  ∃ gf lb, f = .func (.func gf) #[] lb ∧ Ent0 gf ∧ (∀ k, X k → k < w.heap.size) ∧ ∀ W1, Kq X w W1 → Runs enc gf lb l X W1
theorem Sq.kq {w w' : World} {f : Value} {α : Type} {enc : α → Array Value} {l : List α} {X : Nat → Prop} (h : Sq enc w f l X) (hk : Kq X w w') : Sq enc w' f l X := by
  obtain ⟨gf, lb, e, h0, hX, h1⟩ := h
  exact ⟨gf, lb, e, h0, fun k hx => Nat.lt_of_lt_of_le (hX k hx) hk.1, fun W1 hW => h1 W1 (hk.trans hW)⟩
theorem Kq.of_below {X : Nat → Prop} {w w' : World} (h : Below w.heap.size w w') : Kq X w w' := ⟨h.size, fun k _ _ hk _ => (h.block k (Array.getElem?_eq_some_iff.1 hk).1).trans hk⟩
theorem Kq.sub {X Y : Nat → Prop} {w w' : World} (h : Kq X w w') (hXY : ∀ k, Y k → X k) : Kq Y w w' := ⟨h.1, fun k o hY => h.2 k o (hXY k hY)⟩
theorem Sq.below {w w' : World} {f : Value} {α : Type} {enc : α → Array Value} {l : List α} {X : Nat → Prop} (h : Sq enc w f l X) (hb : Below w.heap.size w w') : Sq enc w' f l X := h.kq (Kq.of_below hb)
theorem Cons.sub {y : Value} {α : Type} {enc : α → Array Value} {l : List α} {X Y : Nat → Prop} {W1 : World} {J Jx : Nat → List α → World → Prop} (h : Cons enc y l X W1 J Jx) (hXY : ∀ k, Y k → X k) : Cons enc y l Y W1 J Jx :=
  ⟨h.yk, h.st, h.stx, h.start, fun s pre x Wp W hJ hs hp => (h.go s pre x Wp W hJ hs hp).mono (fun _ _ ⟨h1, h2, h3⟩ => ⟨h1, h2.sub (fun k hk => hk.imp (hXY k) id), h3⟩)⟩
/-- a range may say that more blocks are its own -/
theorem Sq.wide {w : World} {f : Value} {α : Type} {enc : α → Array Value} {l : List α} {X Y : Nat → Prop} (h : Sq enc w f l X) (hXY : ∀ k, X k → Y k) (hY : ∀ k, Y k → k < w.heap.size) : Sq enc w f l Y := by
  obtain ⟨gf, lb, e, h0, hX, h1⟩ := h
  exact ⟨gf, lb, e, h0, hY, fun W1 hW y J Jx hC => h1 W1 (hW.sub hXY) y J Jx (hC.sub hXY)⟩

theorem row_kept {W W' : World} {base : Nat} {e : TypeId} {size : Nat} {v : Value} {n : Nat} {xs : List Value} {row : Option Nat} (h : W.ownsRow base e size v n xs) (hg : W.grownBy W' row) (hr : ∀ r, row = some r → ∃ o : Obj, W.heap[r]? = some o ∧ o.isCells = false) : W'.ownsRow base e size v n xs := by
  refine ⟨h.1, ?_⟩
  rcases h.2 with hn | ⟨g, cap, cur, rfl, hb, hgg, rest⟩
  · exact .inl hn
  · exact .inr ⟨g, cap, cur, rfl, hb, (hg.block g (Array.getElem?_eq_some_iff.1 hgg).1 (fun e => by obtain ⟨o, ho, hc⟩ := hr g e.symm; rw [hgg] at ho; cases ho; cases hc)).trans hgg, rest⟩
theorem Ch.kept {X : Nat → Prop} {w W W' : World} {row : Option Nat} {B : Nat} (h : Ch X w W) (hB : w.heap.size ≤ B) (hg : W.grownBy W' row) (hr : ∀ r, row = some r → B ≤ r ∧ ∃ o : Obj, W.heap[r]? = some o ∧ o.isCells = false) : Ch X w W' :=
  ⟨hg.os.trans h.os, hg.tape.trans h.tape, hg.output.trans h.output, Nat.le_trans h.size hg.size, fun k hk hX => (hg.block k (Nat.lt_of_lt_of_le hk h.size) (fun e => by have := (hr k e.symm).1; omega)).trans (h.block k hk hX)⟩
theorem KeepsFrom.of_ch {B : Nat} {Y : Nat → Prop} {W W' : World} (h : Ch Y W W') (hY : ∀ k, Y k → ∃ o : Obj, W.heap[k]? = some o ∧ o.isCells = true) : KeepsFrom B W W' :=
  ⟨h.size, fun k o _ hk ho => h.obj hk (fun hX => by obtain ⟨o', h1, h2⟩ := hY k hX; rw [hk] at h1; cases h1; rw [ho] at h2; cases h2)⟩
theorem KeepsFrom.up {B B' : Nat} {W W' : World} (h : KeepsFrom B W W') (hB : B ≤ B') : KeepsFrom B' W W' := ⟨h.size, fun k o hk => h.same k o (by omega)⟩

theorem Sb.bx {n s : Nat} {W W' : World} (h : Sb n s W W') {b : Nat} {v : Value} {t : TypeId} (hb : Bx W b v t) (hn : b < n ∨ s ≤ b) : Bx W' b v t := by
  refine hb.ch h ?_
  rintro ⟨h1, h2 | ⟨o, h2, h3⟩⟩
  · omega
  · rw [show W.heap[b]? = _ from hb] at h2; cases h2; cases h3
theorem Sb.row {n s : Nat} {W W' : World} (h : Sb n s W W') {base : Nat} {e : TypeId} {size : Nat} {v : Value} {m : Nat} {xs : List Value} (hr : W.ownsRow base e size v m xs) (hs : s ≤ base) : W'.ownsRow base e size v m xs := by
  refine Ch.row h hr ?_
  rintro k hk ⟨h1, h2 | ⟨o, h2, h3⟩⟩
  · have := (row_obj hr hk).1; omega
  · obtain ⟨_, cur, h4⟩ := row_obj hr hk
    rw [h4] at h2; cases h2; cases h3
theorem Sb.below {n s : Nat} {W W' : World} (h : Sb n s W W') {B : Nat} {w : World} (hb : Below B w W) (hB : B ≤ w.heap.size) (hn : B ≤ n) : Below B w W' :=
  hb.trans (Ch.below h (Nat.le_trans hB hb.size) (fun k hk hx => by omega))
theorem Sb.size {n s : Nat} {W W' : World} (h : Sb n s W W') : W.heap.size ≤ W'.heap.size := Ch.size h


/-- 'for .. := range f { .. }' -/
theorem range_sqA {α : Type} {enc : α → Array Value} {g : Operand} {ps : Array Tmp} {assign body : Code} {Q : Exit → Act → World → Prop} {a : Act} {w : World} {n : Nat} {f : Value} {l : List α} {X : Nat → Prop}
    (hps : ∀ x, (enc x).size = ps.size) (hg : a.eval g = f) (hS : Sq enc w f l X)
    (I : Nat → List α → World → Prop) (Ix : Nat → Code → List α → World → Prop) (A : Nat → Nat → Nat → List α → α → Act → World → Prop)
    (hI : ∀ s pre W W', I s pre W → Sb w.heap.size s W W' → I s pre W') (hIx : ∀ s c pre W W', Ix s c pre W → Sb w.heap.size s W W' → Ix s c pre W')
    (hA : ∀ s z t pre x a' W W', A s z t pre x a' W → Sb w.heap.size s W W' → A s z t pre x a' W')
    (hstart : ∀ W0, Below w.heap.size w W0 → w.heap.size + 2 ≤ W0.heap.size → I W0.heap.size [] W0)
    (hassign : ∀ (m l' s : Nat) (pre : List α) (x : α) (Wp W : World) (K : Act → World → Prop), I s pre Wp → Sb w.heap.size s Wp W → pre ++ [x] <+: l → (∀ a' W', KeepsFrom w.heap.size W W' → Kq (fun k => X k ∨ (w.heap.size + 2 ≤ k ∧ k < s) ∨ (Wp.heap.size ≤ k ∧ k < W.heap.size)) W W' → A s Wp.heap.size W.heap.size pre x a' W' → K a' W') →
      assign.wpIn (Fence.wide.inRound l') m Tryz.prog (Exit.then K (fun _ _ _ => False)) { tmps := (ps.zip (enc x)).foldl (fun t (p, v) => t.setIfInBounds p v) a.tmps, defers := [] } W)
    (hbody : ∀ (m l' : Nat) (s z t : Nat) (pre : List α) (x : α) (a' : Act) (W : World), A s z t pre x a' W → pre ++ [x] <+: l → body.wpIn (Fence.wide.inRound l') m Tryz.prog (ownPostX w.heap.size (Kq (fun k => X k ∨ (w.heap.size + 2 ≤ k ∧ k < s) ∨ (z ≤ k ∧ k < t))) (I s) (Ix s) (pre ++ [x]) W) a' W)
    (hdone : ∀ (s : Nat) (W : World), I s l W → W.heap[w.heap.size]? = some (.deferred (some [])) → Q .normal { a with defers := { target := .collected w.heap.size, args := #[] } :: a.defers } W)
    (hstop : ∀ (s : Nat) (c : Code) (pre : List α) (W : World), Ix s c pre W → W.heap[w.heap.size]? = some (.deferred (some [])) → c.wpIn Fence.wide n Tryz.prog Q { a with defers := { target := .collected w.heap.size, args := #[] } :: a.defers } W) :
    (Code.rangeFunc g ps assign body).wpIn Fence.wide n Tryz.prog Q a w := by
  obtain ⟨gf, lb, rfl, h0, hX, h1⟩ := hS
  have og : ∀ {s : Nat} {W W' : World} {row : Option Nat}, W.grownBy W' row → (∀ r, row = some r → w.heap.size ≤ r ∧ ∃ o : Obj, W.heap[r]? = some o ∧ o.isCells = false) → Sb w.heap.size s W W' :=
    fun hgr hr => Ch.of_grown hgr (fun k e _ => ⟨(hr k e).1, .inr (hr k e).2⟩)
  refine range_law (α := α) (σ := Nat × Nat × Nat) (ps := ps) hg h0 enc hps (fun s pre W => ∃ Wp, I s.1 pre Wp ∧ Sb w.heap.size s.1 Wp W ∧ Wp.heap.size = s.2.1 ∧ W.heap.size = s.2.2) (fun s => I s.1) (fun s => Ix s.1) (fun s => Kq (fun k => X k ∨ (w.heap.size + 2 ≤ k ∧ k < s.1) ∨ (s.2.1 ≤ k ∧ k < s.2.2))) (fun _ pre x => pre ++ [x] <+: l) (fun _ W => ∃ s, I s l W) (fun c _ W => ∃ s pre, Ix s c pre W)
    (fun s => A s.1 s.2.1 s.2.2)
    (fun s pre A B row hi hgr hr => hI s.1 pre A B hi (og hgr hr)) (fun s c pre A B row hi hgr hr => hIx s.1 c pre A B hi (og hgr hr))
    (fun _ A B row ⟨s, hi⟩ hgr hr => ⟨s, hI s _ A B hi (og hgr hr)⟩) (fun c _ A B row ⟨s, pre, hi⟩ hgr hr => ⟨s, pre, hIx s c pre A B hi (og hgr hr)⟩)
    (fun s pre x a' _ A B row h hgr hr => hA s.1 s.2.1 s.2.2 pre x a' A B h (og hgr hr))
    (fun _ => Kq.trans) (fun _ W l o o' _ h ho => Kq.put W l o o' h ho)
    (fun m l' s pre x W K hi hnx hK => by obtain ⟨Wp, h1, h2, h3, h4⟩ := hi; rw [← h3, ← h4] at hK; exact hassign m l' s.1 pre x Wp W K h1 h2 hnx hK)
    (fun m l' s pre x a' W h hnx => hbody m l' s.1 s.2.1 s.2.2 pre x a' W h hnx) ?_ (fun _ W h hD => by obtain ⟨s, hi⟩ := h; exact hdone s W hi hD) (fun c _ W h hD => by obtain ⟨s, pre, hi⟩ := h; exact hstop s c pre W hi hD)
  intro W1 R0 R1 hR0 hR1 hb hs h2 hcap
  have hck : ∀ {s : Nat} {W W' : World}, Sb W1.heap.size s W W' → Sb w.heap.size s W W' := fun hc => hc.low hb.size
  refine (h1 W1 (Kq.of_below hb) _ (fun s pre W => I s pre W ∧ Two w.heap.size R0 W) (fun s pre W => ∃ c, Ix s c pre W ∧ Two w.heap.size (R1 c) W) ⟨.inl ⟨_, rfl⟩, ?_, ?_, ?_, ?_⟩).mono ?_
  · rintro s pre W W' ⟨hi, ht⟩ hc
    exact ⟨hI s pre W W' hi (hck hc), ht.ch hc (fun h => by omega) (fun h => by omega)⟩
  · rintro s pre W W' ⟨c, hi, ht⟩ hc
    exact ⟨c, hIx s c pre W W' hi (hck hc), ht.ch hc (fun h => by omega) (fun h => by omega)⟩
  · intro W0 hB
    exact ⟨hstart W0 (hb.trans (hB.mono hb.size)) (by have := hB.size; omega), ⟨(hB.block _ (by omega)).trans h2.1, (hB.block _ (by omega)).trans h2.2⟩⟩
  · rintro s pre x Wp W ⟨hi, ht⟩ hsb hp
    refine .inl ⟨_, rfl, (hcap (s, Wp.heap.size, W.heap.size) pre x W ⟨Wp, hi, hck hsb, rfl, rfl⟩ hp (ht.ch hsb (fun h => by omega) (fun h => by omega))).mono ?_⟩
    rintro e W' (⟨rfl, hk, hi', hq, ht'⟩ | ⟨rfl, hk, hq, c, hx, ht'⟩)
    · exact ⟨by rw [hs]; exact hk, by rw [hs]; exact hq, .inl ⟨rfl, hi', ht'⟩⟩
    · exact ⟨by rw [hs]; exact hk, by rw [hs]; exact hq, .inr ⟨rfl, c, hx, ht'⟩⟩
  · rintro e W2 ⟨hv, ⟨s, hi, ht⟩ | ⟨s, pre, c, hi, ht⟩⟩
    · exact ⟨hv, .inl ⟨[], ⟨s, hi⟩, ht⟩⟩
    · exact ⟨hv, .inr ⟨c, [], ⟨s, pre, hi⟩, ht⟩⟩

/-- 'for k, v := range f { .. }', k and v plain variables -/
theorem range_sq2 {α : Type} {e1 e2 : α → Value} {g : Operand} {p1 p2 : Tmp} {assign body : Code} {Q : Exit → Act → World → Prop} {a : Act} {w : World} {n : Nat} {f : Value} {l : List α} {X : Nat → Prop} (r1 r2 : Nat)
    (hg : a.eval g = f) (hS : Sq (fun x => #[e1 x, e2 x]) w f l X)
    (I : Nat → List α → World → Prop) (Ix : Nat → Code → List α → World → Prop)
    (hI : ∀ s pre W W', I s pre W → Sb w.heap.size s W W' → I s pre W') (hIx : ∀ s c pre W W', Ix s c pre W → Sb w.heap.size s W W' → Ix s c pre W')
    (hstart : ∀ W0, Below w.heap.size w W0 → w.heap.size + 2 ≤ W0.heap.size → I W0.heap.size [] W0)
    (hassign : ∀ (m l' : Nat) (x : α) (W : World) (K : Act → World → Prop), K { tmps := (((a.tmps.setIfInBounds p1 (e1 x)).setIfInBounds p2 (e2 x)).setIfInBounds r1 (e1 x)).setIfInBounds r2 (e2 x), defers := [] } W →
      assign.wpIn (Fence.wide.inRound l') m Tryz.prog (Exit.then K (fun _ _ _ => False)) { tmps := (a.tmps.setIfInBounds p1 (e1 x)).setIfInBounds p2 (e2 x), defers := [] } W)
    (hbody : ∀ (m l' : Nat) (s : Nat) (pre : List α) (x : α) (Wp W : World), I s pre Wp → Sb w.heap.size s Wp W → pre ++ [x] <+: l → body.wpIn (Fence.wide.inRound l') m Tryz.prog (ownPostX w.heap.size (Kq (fun k => X k ∨ (w.heap.size + 2 ≤ k ∧ k < s) ∨ (Wp.heap.size ≤ k ∧ k < W.heap.size))) (I s) (Ix s) (pre ++ [x]) W) { tmps := (((a.tmps.setIfInBounds p1 (e1 x)).setIfInBounds p2 (e2 x)).setIfInBounds r1 (e1 x)).setIfInBounds r2 (e2 x), defers := [] } W)
    (hdone : ∀ (s : Nat) (W : World), I s l W → W.heap[w.heap.size]? = some (.deferred (some [])) → Q .normal { a with defers := { target := .collected w.heap.size, args := #[] } :: a.defers } W)
    (hstop : ∀ (s : Nat) (c : Code) (pre : List α) (W : World), Ix s c pre W → W.heap[w.heap.size]? = some (.deferred (some [])) → c.wpIn Fence.wide n Tryz.prog Q { a with defers := { target := .collected w.heap.size, args := #[] } :: a.defers } W) :
    (Code.rangeFunc g #[p1, p2] assign body).wpIn Fence.wide n Tryz.prog Q a w := by
  refine range_sqA (fun _ => rfl) hg hS I Ix (fun s z t pre x a' W => (∃ Wp, I s pre Wp ∧ Sb w.heap.size s Wp W ∧ Wp.heap.size = z ∧ t ≤ W.heap.size) ∧ a' = { tmps := (((a.tmps.setIfInBounds p1 (e1 x)).setIfInBounds p2 (e2 x)).setIfInBounds r1 (e1 x)).setIfInBounds r2 (e2 x), defers := [] }) hI hIx
    ?_ hstart (fun m l' s pre x Wp W K hi hsb _ hK => ?_) (fun m l' s z t pre x a' W h hnx => ?_) hdone hstop
  · rintro s z t pre x a' W W' ⟨⟨Wp, h1, h2, h3, h4⟩, h5⟩ hs
    exact ⟨⟨Wp, h1, h2.trans hs, h3, Nat.le_trans h4 (Ch.size hs)⟩, h5⟩
  rotate_left
  · obtain ⟨⟨Wp, h1, h2, rfl, h4⟩, rfl⟩ := h
    refine wpIn_mono (hbody m l' s pre x Wp W h1 h2 hnx) ?_
    have up : ∀ W', Kq (fun k => X k ∨ (w.heap.size + 2 ≤ k ∧ k < s) ∨ (Wp.heap.size ≤ k ∧ k < W.heap.size)) W W' → Kq (fun k => X k ∨ (w.heap.size + 2 ≤ k ∧ k < s) ∨ (Wp.heap.size ≤ k ∧ k < t)) W W' := fun W' hk => hk.sub (fun k hk => hk.imp id (fun h => h.imp id (fun h => ⟨h.1, Nat.lt_of_lt_of_le h.2 h4⟩)))
    rintro e a3 W3 hp
    cases e with
    | normal => exact ⟨hp.1, up _ hp.2.1, hp.2.2⟩
    | ret => exact ⟨hp.1, up _ hp.2.1, hp.2.2⟩
    | exit id => exact ⟨hp.1, up _ hp.2.1, hp.2.2⟩
    | goto t => exact ⟨hp.1, up _ hp.2.1, hp.2.2⟩
    | panic ch => exact hp.elim
    | outgrown => exact hp.elim
  have e : ((#[p1, p2] : Array Tmp).zip #[e1 x, e2 x]).foldl (fun t (p, v) => t.setIfInBounds p v) a.tmps = (a.tmps.setIfInBounds p1 (e1 x)).setIfInBounds p2 (e2 x) := by simp [Array.zip]
  rw [e]
  exact hassign m l' x W K (hK _ _ (KeepsFrom.refl _ _) (Kq.refl _ _) ⟨⟨Wp, hi, hsb, rfl, Nat.le_refl _⟩, rfl⟩)

theorem kq_cell {X : Nat → Prop} {W W' : World} (h : Kq X W W') {p : Addr} {v : Value} (hX : X p.block) (hp : W.cell? p = some v) : W'.cell? p = some v := by
  obtain ⟨o, ho, hc⟩ := cells_of_cell hp
  have := h.2 _ _ hX ho hc
  simp only [World.cell?, ho] at hp
  simp only [World.cell?, this]
  exact hp
theorem kq_bx {X : Nat → Prop} {W W' : World} (h : Kq X W W') {b : Nat} {v : Value} {t : TypeId} (hX : X b) (hp : Bx W b v t) : Bx W' b v t := h.2 _ _ hX hp rfl
theorem kq_row {X : Nat → Prop} {W W' : World} (h : Kq X W W') {base : Nat} {e : TypeId} {size : Nat} {v : Value} {n : Nat} {xs : List Value} (hr : W.ownsRow base e size v n xs) (hX : ∀ k, v.ownBlock = some k → X k) : W'.ownsRow base e size v n xs := by
  refine ⟨hr.1, ?_⟩
  rcases hr.2 with hn | ⟨g, cap, cur, rfl, hb, hgg, rest⟩
  · exact .inl hn
  · exact .inr ⟨g, cap, cur, rfl, hb, h.2 _ _ (hX g rfl) hgg rfl, rest⟩
theorem Kq.alloc {X : Nat → Prop} {W W' : World} (h : Kq X W W') (o : Obj) : Kq X W (W'.alloc o) := h.trans ⟨by simp, fun k p _ hk _ => (Below.heap_alloc W' o k (Array.getElem?_eq_some_iff.1 hk).1).trans hk⟩
end Go.Proofs.YteifkkceldlfnaaGreatDoor
namespace Go.Proofs.YteifkkceldlfnaaGreatDoor
open Go.RowKit Go.Shelf Go.Sort
open Go.Lib hiding intOf

theorem range_sq2B {α : Type} {e1 e2 : α → Value} {g : Operand} {p1 p2 : Tmp} {assign body : Code} {Q2 : Exit → Act → World → Prop} {id : Nat} {a : Act} {w : World} {n : Nat} {f : Value} {l : List α} {X : Nat → Prop} (r1 r2 : Nat)
    (hg : a.eval g = f) (hS : Sq (fun x => #[e1 x, e2 x]) w f l X)
    (I Bk : Nat → List α → World → Prop) (E : World → Prop)
    (hI : ∀ s pre W W', I s pre W → Sb w.heap.size s W W' → I s pre W') (hBk : ∀ s pre W W', Bk s pre W → Sb w.heap.size s W W' → Bk s pre W')
    (hstart : ∀ W0, Below w.heap.size w W0 → w.heap.size + 2 ≤ W0.heap.size → I W0.heap.size [] W0)
    (hassign : ∀ (m l' : Nat) (x : α) (W : World) (K : Act → World → Prop), K { tmps := (((a.tmps.setIfInBounds p1 (e1 x)).setIfInBounds p2 (e2 x)).setIfInBounds r1 (e1 x)).setIfInBounds r2 (e2 x), defers := [] } W →
      assign.wpIn (Fence.wide.inRound l') m Tryz.prog (Exit.then K (fun _ _ _ => False)) { tmps := (a.tmps.setIfInBounds p1 (e1 x)).setIfInBounds p2 (e2 x), defers := [] } W)
    (hbody : ∀ (m l' : Nat) (s : Nat) (pre : List α) (x : α) (Wp W : World), I s pre Wp → Sb w.heap.size s Wp W → pre ++ [x] <+: l → body.wpIn (Fence.wide.inRound l') m Tryz.prog (ownPostX w.heap.size (Kq (fun k => X k ∨ (w.heap.size + 2 ≤ k ∧ k < s) ∨ (Wp.heap.size ≤ k ∧ k < W.heap.size))) (I s) (fun c pre W => c = .exit id ∧ Bk s pre W) (pre ++ [x]) W) { tmps := (((a.tmps.setIfInBounds p1 (e1 x)).setIfInBounds p2 (e2 x)).setIfInBounds r1 (e1 x)).setIfInBounds r2 (e2 x), defers := [] } W)
    (hdone : ∀ (s : Nat) (W : World), I s l W → E W) (hstop : ∀ (s : Nat) (pre : List α) (W : World), Bk s pre W → E W)
    (hend : ∀ (W : World), E W → W.heap[w.heap.size]? = some (.deferred (some [])) → Q2 .normal { a with defers := { target := .collected w.heap.size, args := #[] } :: a.defers } W) :
    (Code.rangeFunc g #[p1, p2] assign body).wpIn Fence.wide n Tryz.prog (Exit.inBlock id Q2) a w := by
  refine range_sq2 r1 r2 hg hS I (fun s c pre W => c = .exit id ∧ Bk s pre W) hI (fun s c pre W W' h hs => ⟨h.1, hBk s pre W W' h.2 hs⟩) hstart hassign hbody
    (fun s W h hD => hend W (hdone s W h) hD) (fun s c pre W h hD => ?_)
  obtain ⟨rfl, hb⟩ := h
  have h1 := hend W (hstop s pre W hb) hD
  refine wpIn_exit ?_
  simpa [Exit.inBlock] using h1
end Go.Proofs.YteifkkceldlfnaaGreatDoor
namespace Go.Proofs.YteifkkceldlfnaaGreatDoor
open Go.RowKit Go.Shelf Go.Sort
open Go.Lib hiding intOf

attribute [local go_sem] Oper.semAt_some

/-- a frame, as pieces tells it -/
def encP (x : Fr) : Array Value := #[.agg #[.int .u8 (x.1.toNat : Int), .string (S x.2.1), .int .i64 (x.2.2 : Int)]]
def lenOf : Value → Nat
  | .string s => s.size
  | _ => 0
theorem Kq.cl {X : Nat → Prop} {W W' : World} (h : Kq X W W') {b n : Nat} {K : IntKind} {f : Nat → Nat} (hX : X b) (hc : Cl W b n K f) (hn : 0 < n) : Cl W' b n K f := by
  obtain ⟨o, ho, hcl⟩ := cells_of_cell (hc.cell 0 hn)
  have e := h.2 b o hX ho hcl
  have e' : W'.heap[b]? = W.heap[b]? := e.trans ho.symm
  exact ⟨fun j hj => (World.cell?_of_block (w := W) (a := ⟨b, j, none⟩) e').trans (hc.cell j hj), fun j => (World.frozen?_of_block (w := W) (a := ⟨b, j, none⟩) e').trans (hc.fro j), (Array.getElem?_eq_some_iff.1 e).1⟩
theorem fra_pre {l m : List UInt8} {pre : List Fr} (h : fra l = pre ++ fra m) (h0 : (tak m).2.2.2 = 0) : pre ++ [((tak m).1, (tak m).2.1, (tak m).2.2.1)] <+: fra l ∧ fra l = (pre ++ [((tak m).1, (tak m).2.1, (tak m).2.2.1)]) ++ fra (m.drop (tak m).2.2.1) := by
  rw [fra_step h0] at h
  have e : fra l = (pre ++ [((tak m).1, (tak m).2.1, (tak m).2.2.1)]) ++ fra (m.drop (tak m).2.2.1) := by rw [h]; simp
  exact ⟨⟨_, e.symm⟩, e⟩

set_option maxRecDepth 100000 in
set_option maxHeartbeats 4000000 in
theorem pieces1_runs {W1 : World} {b : Nat} {l : List UInt8} (hb : Bx W1 b (.string (S l)) 9) (hl : l.length ≤ 4611686018427387904) : Runs encP 156 #[.pointer (some ⟨b, 0, none⟩)] (fra l) (fun k => k = b) W1 := by
  intro y J Jx hC
  have HB : Hid (Bx W1 b (.string (S l)) 9) := hb
  have hbl := hb.lt
  refine (callsIn_wide (n := 9)).1 ?_
  refine callsIn_of_wp Tryz.func156 rfl trivial ?_ rfl
  simp only [Tryz.ntmps156, List.size_toArray, List.length_cons, List.length_nil, Nat.reduceAdd, Nat.reduceSub, Array.replicate_succ, Array.replicate_zero, List.push_toArray, List.append_toArray, List.nil_append, List.cons_append]
  rcases id hC.yk with ⟨ly, rfl⟩ | ⟨gf, caps, rfl, eg⟩
  · have HC : Hid _ := hC
    clear hC
    gi_wp2_with (first
      | (refine ⟨trivial, ?_⟩; gi_at_call 135; refine (callsIn_wide.2 (sums_any _)).mono ?_; rintro e w2 ⟨rfl, hT2, hB2⟩; have c0 := (HB.out.below hB2 hbl).cell))
    have hst := HC.out.start w2 hB2
    gi_loopw [4] (fun r wr => ∃ (m : List UInt8) (pre : List Fr), r = .string (S m) ∧ fra l = pre ++ fra m ∧ m.length ≤ l.length ∧ J w2.heap.size pre wr ∧ Tab wr W1.heap.size ∧ w2.heap.size ≤ wr.heap.size) (fun r _ => lenOf r)
    case atStart => exact ⟨l, [], rfl, rfl, Nat.le_refl _, hst, hT2, Nat.le_refl _⟩
    case round =>
      obtain ⟨m, pre, rfl, hfr, hml, hJ, hT, hsz⟩ := hrel
      have HF : Hid (fra l = pre ++ fra m) := hfr
      have hk := take_any hT m (by omega)
      by_cases h0 : (tak m).2.2.2 = 0
      · obtain ⟨hpr, hnx⟩ := fra_pre hfr h0
        obtain ⟨h6, hn5, hnl⟩ := tak_ok h0
        have hdl : (m.drop (tak m).2.2.1).length = m.length - (tak m).2.2.1 := List.length_drop
        have hx := S_drop m (tak m).2.2.1
        have hsm := S_size m
        have hY := fun W hs => HC.out.go w2.heap.size pre ((tak m).1, (tak m).2.1, (tak m).2.2.1) wr W hJ hs hpr
        have HN : Hid (fra l = (pre ++ [((tak m).1, (tak m).2.1, (tak m).2.2.1)]) ++ fra (m.drop (tak m).2.2.1)) := hnx
        have HT : Hid (Tab wr W1.heap.size) := hT
        have hbe : (((tak m).2.2.2 : Int) != 0) = false := by rw [h0]; rfl
        unfold encP at hY
        clear hfr hnx hpr hJ HF hT
        generalize hmd : m.drop (tak m).2.2.1 = md at *
        clear hmd
        generalize tak m = r at *
        obtain ⟨c, s, n, er⟩ := r
        unfold pce at hk
        simp only at hk hbe hY hx hnl hn5 hdl h0
        subst h0
        have hni : (n : Int) ≤ (m.length : Int) := by omega
        have hn0 : (0 : Int) ≤ (n : Int) := by omega
        gi_wp2_with (first
          | (refine ⟨trivial, ?_⟩; gi_at_call 157; refine (callsIn_wide.2 hk).mono ?_; rintro e w3 ⟨rfl, hB3⟩; have hy := hY (w3.alloc (.cells #[.int .u8 (c.toNat : Int), .string (S s), .int .i64 (n : Int)] 195)) (Sb.of_below (hB3.alloc hB3.size _)); obtain ⟨fn, tmps, assign, body, hyl, hR⟩ := hy.yield; have HR : Hid _ := hR; clear hR hy))
        refine (HR.out _).mono ?_
        rintro e W3 ⟨hkf, hk3, ⟨rfl, hJ3⟩ | ⟨rfl, hJ3⟩⟩
        · have hT3 : Tab W3 W1.heap.size := hk3.cl (.inr (.inl ⟨Nat.le_refl _, hT2.lt⟩)) (HT.out.below (hB3.alloc hB3.size _) HT.out.lt) (by decide)
          have c3 := kq_cell hk3 (p := ⟨w3.heap.size, 2, none⟩) (v := .int .i64 (n : Int)) (.inr (.inr ⟨hB3.size, by simp⟩)) (by go_simp)
          have HJ3 : Hid _ := hJ3
          have hs3 := hk3.1
          clear hJ3
          gi_wp2
          go_roundw
          case rel => exact ⟨md, _, rfl, HN.out, by omega, HJ3.out, hT3, by have := hB3.size; simp at hs3; omega⟩
          case measure => simp [lenOf, S_size]; omega
        · have HJ3 : Hid _ := hJ3
          clear hJ3
          gi_wp2
          refine bodyPost_ret (results_none rfl _ _ _) rfl ?_
          exact ⟨⟨_, rfl⟩, .inr ⟨_, _, HJ3.out⟩⟩
      · have hnil := fra_end h0
        rw [hnil, List.append_nil] at hfr
        have hbe : (((tak m).2.2.2 : Int) != 0) = true := by rw [bne_iff_ne]; omega
        have HJ : Hid (J w2.heap.size (fra l) wr) := by rw [hfr]; exact hJ
        clear hJ hfr hnil hT HF
        generalize tak m = r at *
        obtain ⟨c, s, n, er⟩ := r
        unfold pce at hk
        simp only at hk hbe
        gi_wp2_with (first
          | (refine ⟨trivial, ?_⟩; gi_at_call 157; refine (callsIn_wide.2 hk).mono ?_; rintro e w3 ⟨rfl, hB3⟩))
        refine ⟨(fun _ h => by cases h), ?_⟩
        gi_wp2
        refine bodyPost_ret (results_none rfl _ _ _) rfl ?_
        exact ⟨⟨_, rfl⟩, .inl ⟨_, HC.out.st _ _ _ _ HJ.out (Sb.of_below (hB3.alloc hB3.size _))⟩⟩
  · have HC : Hid _ := hC
    clear hC
    unfold Ent0 at eg
    gi_wp2_with (first
      | (refine ⟨trivial, ?_⟩; gi_at_call 135; refine (callsIn_wide.2 (sums_any _)).mono ?_; rintro e w2 ⟨rfl, hT2, hB2⟩; have c0 := (HB.out.below hB2 hbl).cell))
    have hst := HC.out.start w2 hB2
    gi_loopw [4] (fun r wr => ∃ (m : List UInt8) (pre : List Fr), r = .string (S m) ∧ fra l = pre ++ fra m ∧ m.length ≤ l.length ∧ J w2.heap.size pre wr ∧ Tab wr W1.heap.size ∧ w2.heap.size ≤ wr.heap.size) (fun r _ => lenOf r)
    case atStart => exact ⟨l, [], rfl, rfl, Nat.le_refl _, hst, hT2, Nat.le_refl _⟩
    case round =>
      obtain ⟨m, pre, rfl, hfr, hml, hJ, hT, hsz⟩ := hrel
      have HF : Hid (fra l = pre ++ fra m) := hfr
      have hk := take_any hT m (by omega)
      by_cases h0 : (tak m).2.2.2 = 0
      · obtain ⟨hpr, hnx⟩ := fra_pre hfr h0
        obtain ⟨h6, hn5, hnl⟩ := tak_ok h0
        have hdl : (m.drop (tak m).2.2.1).length = m.length - (tak m).2.2.1 := List.length_drop
        have hx := S_drop m (tak m).2.2.1
        have hsm := S_size m
        have hY := fun W hs => HC.out.go w2.heap.size pre ((tak m).1, (tak m).2.1, (tak m).2.2.1) wr W hJ hs hpr
        have HN : Hid (fra l = (pre ++ [((tak m).1, (tak m).2.1, (tak m).2.2.1)]) ++ fra (m.drop (tak m).2.2.1)) := hnx
        have HT : Hid (Tab wr W1.heap.size) := hT
        have hbe : (((tak m).2.2.2 : Int) != 0) = false := by rw [h0]; rfl
        unfold encP at hY
        clear hfr hnx hpr hJ HF hT
        generalize hmd : m.drop (tak m).2.2.1 = md at *
        clear hmd
        generalize tak m = r at *
        obtain ⟨c, s, n, er⟩ := r
        unfold pce at hk
        simp only at hk hbe hY hx hnl hn5 hdl h0
        subst h0
        have hni : (n : Int) ≤ (m.length : Int) := by omega
        have hn0 : (0 : Int) ≤ (n : Int) := by omega
        gi_wp2_with (first
          | (refine ⟨trivial, ?_⟩; gi_at_call 157; refine (callsIn_wide.2 hk).mono ?_; rintro e w3 ⟨rfl, hB3⟩; have hy := hY (w3.alloc (.cells #[.int .u8 (c.toNat : Int), .string (S s), .int .i64 (n : Int)] 195)) (Sb.of_below (hB3.alloc hB3.size _)); have hc := hy.func; clear hy))
        refine ⟨trivial, ?_⟩
        refine (callsIn_wide.2 hc).mono ?_
        rintro e W3 ⟨hkf, hk3, ⟨rfl, hJ3⟩ | ⟨rfl, hJ3⟩⟩
        · have hT3 : Tab W3 W1.heap.size := hk3.cl (.inr (.inl ⟨Nat.le_refl _, hT2.lt⟩)) (HT.out.below (hB3.alloc hB3.size _) HT.out.lt) (by decide)
          have c3 := kq_cell hk3 (p := ⟨w3.heap.size, 2, none⟩) (v := .int .i64 (n : Int)) (.inr (.inr ⟨hB3.size, by simp⟩)) (by go_simp)
          have HJ3 : Hid _ := hJ3
          have hs3 := hk3.1
          clear hJ3
          gi_wp2
          go_roundw
          case rel => exact ⟨md, _, rfl, HN.out, by omega, HJ3.out, hT3, by have := hB3.size; simp at hs3; omega⟩
          case measure => simp [lenOf, S_size]; omega
        · have HJ3 : Hid _ := hJ3
          clear hJ3
          gi_wp2
          refine bodyPost_ret (results_none rfl _ _ _) rfl ?_
          exact ⟨⟨_, rfl⟩, .inr ⟨_, _, HJ3.out⟩⟩
      · have hnil := fra_end h0
        rw [hnil, List.append_nil] at hfr
        have hbe : (((tak m).2.2.2 : Int) != 0) = true := by rw [bne_iff_ne]; omega
        have HJ : Hid (J w2.heap.size (fra l) wr) := by rw [hfr]; exact hJ
        clear hJ hfr hnil hT HF
        generalize tak m = r at *
        obtain ⟨c, s, n, er⟩ := r
        unfold pce at hk
        simp only at hk hbe
        gi_wp2_with (first
          | (refine ⟨trivial, ?_⟩; gi_at_call 157; refine (callsIn_wide.2 hk).mono ?_; rintro e w3 ⟨rfl, hB3⟩))
        refine ⟨(fun _ h => by cases h), ?_⟩
        gi_wp2
        refine bodyPost_ret (results_none rfl _ _ _) rfl ?_
        exact ⟨⟨_, rfl⟩, .inl ⟨_, HC.out.st _ _ _ _ HJ.out (Sb.of_below (hB3.alloc hB3.size _))⟩⟩
end Go.Proofs.YteifkkceldlfnaaGreatDoor
namespace Go.Proofs.YteifkkceldlfnaaGreatDoor
open Go.RowKit Go.Shelf Go.Sort
open Go.Lib hiding intOf

attribute [local go_sem] Oper.semAt_some

/-- pieces' range, as a value -/
theorem pieces_sq {w : World} {b : Nat} {l : List UInt8} (hb : Bx w b (.string (S l)) 9) (hl : l.length ≤ 4611686018427387904) :
    Sq encP w (.func (.func 156) #[] #[.pointer (some ⟨b, 0, none⟩)]) (fra l) (fun k => k = b) :=
  ⟨_, _, rfl, enters_of Tryz.func156 (by kernel_rfl) rfl, fun k hk => by subst hk; exact hb.lt, fun _ hk => pieces1_runs (kq_bx hk rfl hb) hl⟩
theorem mk_func (fn : Fn) (first cap : Array Value) (w : World) : (Instr.makeFunc fn first cap).run Tryz.prog w = .ok (.func fn first cap) w := rfl
set_option maxHeartbeats 1000000 in
theorem pieces_any (l : List UInt8) (hl : l.length ≤ 4611686018427387904) (w : World) :
    Calls Tryz.prog 127 #[.string (S l)] w fun e w' => e = .returned (.func (.func 156) #[] #[.pointer (some ⟨w.heap.size, 0, none⟩)]) ∧ Sq encP w' (.func (.func 156) #[] #[.pointer (some ⟨w.heap.size, 0, none⟩)]) (fra l) (fun k => k = w.heap.size) ∧ Below w.heap.size w w' := by
  have hmf := mk_func
  obtain ⟨W2, hW2⟩ : ∃ W2, W2 = w.alloc (.cells #[.string (S l)] 9) := ⟨_, rfl⟩
  have b2 : Bx W2 w.heap.size (.string (S l)) 9 := by rw [hW2]; exact Bx.new w _ _
  have hB2 : Below w.heap.size w W2 := by rw [hW2]; exact (Below.refl _ w).alloc (Nat.le_refl _) _
  have HR : Hid _ := pieces_sq b2 hl
  clear b2
  go_enter Tryz.func127, Tryz.ntmps127
  go_wp2
  rw [← hW2]
  go_ret
  exact ⟨rfl, HR.out, hB2⟩

/-- a piece's cells -/
def pcs (x : Fr) : Array Value := #[.int .u8 (x.1.toNat : Int), .string (S x.2.1), .int .i64 (x.2.2 : Int)]
/-- 'for p := range f { .. }', p a piece in a cell of its own -/
theorem range_pc {g : Operand} {p : Tmp} {assign body : Code} {Q : Exit → Act → World → Prop} {a : Act} {w : World} {n : Nat} {f : Value} {l : List Fr} {X : Nat → Prop} (r : Nat)
    (hg : a.eval g = f) (hS : Sq encP w f l X)
    (I : Nat → List Fr → World → Prop) (Ix : Nat → Code → List Fr → World → Prop)
    (hI : ∀ s pre W W', I s pre W → Sb w.heap.size s W W' → I s pre W') (hIx : ∀ s c pre W W', Ix s c pre W → Sb w.heap.size s W W' → Ix s c pre W')
    (hIs : ∀ s pre W, I s pre W → s ≤ W.heap.size)
    (hstart : ∀ W0, Below w.heap.size w W0 → w.heap.size + 2 ≤ W0.heap.size → I W0.heap.size [] W0)
    (hassign : ∀ (m l' : Nat) (x : Fr) (W : World) (K : Act → World → Prop), K { tmps := (a.tmps.setIfInBounds p (.agg (pcs x))).setIfInBounds r (.pointer (some ⟨W.heap.size, 0, none⟩)), defers := [] } (W.alloc (.cells (pcs x) 195)) →
      assign.wpIn (Fence.wide.inRound l') m Tryz.prog (Exit.then K (fun _ _ _ => False)) { tmps := a.tmps.setIfInBounds p (.agg (pcs x)), defers := [] } W)
    (hbody : ∀ (m l' : Nat) (s b : Nat) (pre : List Fr) (x : Fr) (Wp W : World), I s pre Wp → Sb w.heap.size s Wp W → Wp.heap.size ≤ b → W.heap[b]? = some (.cells (pcs x) 195 (0, 0)) → pre ++ [x] <+: l →
      body.wpIn (Fence.wide.inRound l') m Tryz.prog (ownPostX w.heap.size (Kq (fun k => X k ∨ (w.heap.size + 2 ≤ k ∧ k < s) ∨ (Wp.heap.size ≤ k ∧ k < b))) (I s) (Ix s) (pre ++ [x]) W) { tmps := (a.tmps.setIfInBounds p (.agg (pcs x))).setIfInBounds r (.pointer (some ⟨b, 0, none⟩)), defers := [] } W)
    (hdone : ∀ (s : Nat) (W : World), I s l W → W.heap[w.heap.size]? = some (.deferred (some [])) → Q .normal { a with defers := { target := .collected w.heap.size, args := #[] } :: a.defers } W)
    (hstop : ∀ (s : Nat) (c : Code) (pre : List Fr) (W : World), Ix s c pre W → W.heap[w.heap.size]? = some (.deferred (some [])) → c.wpIn Fence.wide n Tryz.prog Q { a with defers := { target := .collected w.heap.size, args := #[] } :: a.defers } W) :
    (Code.rangeFunc g #[p] assign body).wpIn Fence.wide n Tryz.prog Q a w := by
  refine range_sqA (fun _ => rfl) hg hS I Ix (fun s z t pre x a' W => ∃ Wp, I s pre Wp ∧ Sb w.heap.size s Wp W ∧ Wp.heap.size = z ∧ z ≤ t ∧ W.heap[t]? = some (.cells (pcs x) 195 (0, 0)) ∧ a' = { tmps := (a.tmps.setIfInBounds p (.agg (pcs x))).setIfInBounds r (.pointer (some ⟨t, 0, none⟩)), defers := [] }) hI hIx
    ?_ hstart (fun m l' s pre x Wp W K hi hsb _ hK => ?_) (fun m l' s z t pre x a' W h hnx => ?_) hdone hstop
  · rintro s z t pre x a' W W' ⟨Wp, h1, h2, h3, h4, h5, h6⟩ hs
    refine ⟨Wp, h1, h2.trans hs, h3, h4, Ch.obj hs h5 ?_, h6⟩
    rintro ⟨_, h | ⟨o, ho, hc⟩⟩
    · have := hIs s pre Wp h1; omega
    · rw [h5] at ho; cases ho; cases hc
  · have e : ((#[p] : Array Tmp).zip (encP x)).foldl (fun t (p, v) => t.setIfInBounds p v) a.tmps = a.tmps.setIfInBounds p (.agg (pcs x)) := by simp [Array.zip, encP, pcs]
    rw [e]
    refine hassign m l' x W K (hK _ _ (KeepsFrom.of_ch (Y := fun _ => False) ((Ch.refl _ W).alloc _) (fun _ h => h.elim)) ((Kq.refl _ W).alloc _) ⟨Wp, hi, ?_, rfl, Ch.size hsb, heap_alloc_new W _, rfl⟩)
    exact hsb.trans (Sb.of_below ((Below.refl _ W).alloc (Nat.le_refl _) _))
  · obtain ⟨Wp, h1, h2, rfl, h4, h5, rfl⟩ := h
    exact hbody m l' s t pre x Wp W h1 h2 h4 h5 hnx

theorem pcs_cell {W : World} {b : Nat} {x : Fr} (h : W.heap[b]? = some (.cells (pcs x) 195 (0, 0))) : W.cell? ⟨b, 0, none⟩ = some (.int .u8 (x.1.toNat : Int)) ∧ W.cell? ⟨b, 1, none⟩ = some (.string (S x.2.1)) ∧ W.cell? ⟨b, 2, none⟩ = some (.int .i64 (x.2.2 : Int)) := by
  refine ⟨?_, ?_, ?_⟩ <;> simp only [World.cell?, h, pcs] <;> rfl

set_option maxRecDepth 100000 in
set_option maxHeartbeats 4000000 in
theorem Good_any (l : List UInt8) (hl : l.length ≤ 4611686018427387904) (w : World) :
    Calls Tryz.prog 103 #[.string (S l)] w fun e w' => e = .returned (.int .i64 (god (fra l) : Nat)) ∧ Below w.heap.size w w' := by
  have hgl := god_le _ l (Nat.le_refl _)
  refine (callsIn_wide (n := 9)).1 ?_
  refine callsIn_of_wp_marks Tryz.func103 rfl trivial ?_ rfl
  simp only [Tryz.ntmps103, List.size_toArray, List.length_cons, List.length_nil, Nat.reduceAdd, Nat.reduceSub, Array.replicate_succ, Array.replicate_zero, List.push_toArray, List.append_toArray, List.nil_append, List.cons_append]
  obtain ⟨W2, hW2⟩ : ∃ W2, W2 = w.alloc (.cells #[.int .i64 0] 3) := ⟨_, rfl⟩
  have hs2 : W2.heap.size = w.heap.size + 1 := by rw [hW2]; simp
  have hB2 : Below w.heap.size w W2 := by rw [hW2]; exact (Below.refl _ w).alloc (Nat.le_refl _) _
  have bn2 : Bx W2 w.heap.size (.int .i64 0) 3 := by rw [hW2]; exact Bx.new w _ _
  gi_wp2_with (first
    | (refine ⟨trivial, ?_⟩; gi_at_call 127; rw [← hW2]; refine (callsIn_wide.2 (pieces_any l hl _)).mono ?_; rintro e w3 ⟨rfl, hS3, hB3⟩; rw [hs2] at hS3))
  have hs3 := hB3.size
  have bn3 := bn2.below hB3 (by omega)
  have hBw : Below w.heap.size w w3 := hB2.trans (hB3.mono (by omega))
  refine range_pc (r := 4) rfl hS3
    (fun s pre W => Bx W w.heap.size (.int .i64 (god pre : Nat)) 3 ∧ Below w.heap.size w W ∧ w3.heap.size + 2 ≤ s ∧ s ≤ W.heap.size)
    (fun _ _ _ _ => False)
    ?hI ?hIx ?hIs ?start ?assign ?body ?done ?stop
  case hI =>
    rintro s pre A B ⟨h1, h2, h3, h4⟩ hs
    exact ⟨hs.bx h1 (.inl (by omega)), hs.below h2 (Nat.le_refl _) (by omega), h3, Nat.le_trans h4 hs.size⟩
  case hIx => rintro s c pre A B h; exact h.elim
  case hIs => rintro s pre W ⟨_, _, _, h4⟩; exact h4
  case start =>
    intro W0 hB h0
    exact ⟨bn3.below hB bn3.lt, hBw.trans (hB.mono hBw.size), h0, Nat.le_refl _⟩
  case assign =>
    intro mm l' x W K hK
    simp only [pcs] at hK ⊢
    gi_wp2
    exact hK
  case body =>
    rintro mm l' s b pre x Wp W ⟨h1, h2, h3, h4⟩ hsb hb hcb hnx
    have h1' := hsb.bx h1 (.inl (by omega))
    have h2' := hsb.below h2 (Nat.le_refl _) (by omega)
    have hsz := hsb.size
    obtain ⟨q0, q1, q2⟩ := pcs_cell hcb
    have c1 := h1'.cell
    have f1 := h1'.fro
    have hgp : god (pre ++ [x]) ≤ l.length := by
      obtain ⟨t, ht⟩ := hnx
      have : god (fra l) = god (pre ++ [x]) + god t := by rw [← ht, god_append]
      omega
    rw [god_snoc] at hgp
    have e1 : (god pre : Int) + (x.2.2 : Int) = ((god (pre ++ [x]) : Nat) : Int) := by rw [god_snoc]; simp
    have HB : Hid (Bx W w.heap.size (.int .i64 (god pre : Nat)) 3 ∧ Below w.heap.size w W) := ⟨h1', h2'⟩
    simp only [List.setIfInBounds_toArray, List.set_cons_succ, List.set_cons_zero]
    clear h1 h1' h2 h2'
    gi_wp2
    have hc : Ch (fun k => k = w.heap.size) W (W.setCell ⟨w.heap.size, 0, none⟩ (.int .i64 ((god (pre ++ [x]) : Nat) : Int))) := (Ch.refl _ W).setCell _ _ (fun _ => rfl)
    exact ⟨KeepsFrom.of_ch hc (fun k e => by subst e; exact ⟨_, HB.out.1, rfl⟩), Kq.of_ch hc (fun k hk e => by omega), one0 HB.out.1 _, HB.out.2.setCell (Nat.le_refl _) _, h3, by simp; omega⟩
  case done =>
    rintro s W ⟨h1, h2, h3, h4⟩ hD
    have c1 := h1.cell
    have H2 : Hid _ := h2
    clear h1 h2
    gi_wp2
    refine ⟨by simp, .inl ⟨_, _, rfl, takes hD, ?_⟩⟩
    exact ⟨_, results_tmp rfl _ _ _, rfl, below_take H2.out (Nat.le_refl _) (by omega) _⟩
  case stop => rintro s c pre W h; exact h.elim
end Go.Proofs.YteifkkceldlfnaaGreatDoor
namespace Go.Proofs.YteifkkceldlfnaaGreatDoor
open Go.RowKit Go.Shelf Go.Sort
open Go.Lib hiding intOf

attribute [local go_sem] Oper.semAt_some

theorem Yk.frm {y : Value} (h : Yk y) : ∃ f c, y = .func f #[] c := by
  rcases h with ⟨l, rfl⟩ | ⟨g, c, rfl, -⟩
  · exact ⟨_, _, rfl⟩
  · exact ⟨_, _, rfl⟩
/-- a frame, as Walk tells it -/
def encW (x : Fr) : Array Value := #[.int .u8 (x.1.toNat : Int), .string (S x.2.1)]
theorem Sb.putD {n s D : Nat} {W : World} {o : Obj} (hD : W.heap[D]? = some o) (ho : o.isCells = false) (hn : n ≤ D) (o' : Obj) : Sb n s W (W.putObj D o') :=
  Ch.of_grown (grownBy_putObj' W D o') (fun k e _ => by cases e; exact ⟨hn, .inr ⟨o, hD, ho⟩⟩)

set_option maxRecDepth 100000 in
set_option maxHeartbeats 4000000 in
theorem walk1_runs {W1 : World} {b : Nat} {l : List UInt8} (hb : Bx W1 b (.string (S l)) 9) (hl : l.length ≤ 4611686018427387904) : Runs encW 126 #[.pointer (some ⟨b, 0, none⟩)] (fra l) (fun k => k = b) W1 := by
  intro y J Jx hC
  obtain ⟨yf, yc, hyf⟩ := hC.yk.frm
  obtain ⟨Wa, hWa⟩ : ∃ Wa, Wa = W1.alloc (.cells #[y] 190) := ⟨_, rfl⟩
  have hsa : Wa.heap.size = W1.heap.size + 1 := by rw [hWa]; simp
  have hBa : Below W1.heap.size W1 Wa := by rw [hWa]; exact (Below.refl _ W1).alloc (Nat.le_refl _) _
  have bya : Bx Wa W1.heap.size y 190 := by rw [hWa]; exact Bx.new W1 _ _
  have hbl := hb.lt
  have hc0 := (hb.below hBa hb.lt).cell
  rw [hWa] at hc0
  subst hyf
  have HC : Hid _ := hC
  refine (callsIn_wide (n := 9)).1 ?_
  refine callsIn_of_wp_marks Tryz.func126 rfl trivial ?_ rfl
  simp only [Tryz.ntmps126, List.size_toArray, List.length_cons, List.length_nil, Nat.reduceAdd, Nat.reduceSub, Array.replicate_succ, Array.replicate_zero, List.push_toArray, List.append_toArray, List.nil_append, List.cons_append]
  clear hC hb
  gi_wp2_with (first
    | (refine ⟨trivial, ?_⟩; gi_at_call 127; rw [← hWa]; refine (callsIn_wide.2 (pieces_any l hl _)).mono ?_; rintro e w2 ⟨rfl, hS2, hB2⟩; rw [hsa] at hS2))
  have hs2 := hB2.size
  have by2 := bya.below hB2 (by omega)
  have hBw : Below W1.heap.size W1 w2 := hBa.trans (hB2.mono (by omega))
  refine range_pc (r := 3) rfl hS2
    (fun s pre W => J s pre W ∧ Bx W W1.heap.size (.func yf #[] yc) 190 ∧ w2.heap.size + 2 ≤ s ∧ s ≤ W.heap.size)
    (fun s c _ W => c = .ret ∧ ∃ pre, Jx s pre W)
    ?hI ?hIx ?hIs ?start ?assign ?body ?done ?stop
  case hI =>
    rintro s pre A B ⟨h1, h2, h4, h5⟩ hs
    exact ⟨HC.out.st s _ A B h1 (hs.low (by omega)), hs.bx h2 (.inl (by omega)), h4, Nat.le_trans h5 hs.size⟩
  case hIx =>
    rintro s c pre A B ⟨h0, pre', h1⟩ hs
    exact ⟨h0, pre', HC.out.stx s _ A B h1 (hs.low (by omega))⟩
  case hIs => rintro s pre W ⟨_, _, _, h⟩; exact h
  case start =>
    intro W0 hB h0
    exact ⟨HC.out.start W0 (hBw.trans (hB.mono hBw.size)), by2.below hB by2.lt, h0, Nat.le_refl _⟩
  case assign =>
    intro mm l' x W K hK
    simp only [pcs] at hK ⊢
    gi_wp2
    exact hK
  case body =>
    rintro mm l' s bq pre x Wp W ⟨hJ, h2, h4, h5⟩ hsb hbq hcb hnx
    have h2' := hsb.bx h2 (.inl (by omega))
    have c2 := h2'.cell
    obtain ⟨q0, q1, q2⟩ := pcs_cell hcb
    have hlt := (Array.getElem?_eq_some_iff.1 hcb).1
    have hsz := hsb.size
    simp only [List.setIfInBounds_toArray, List.set_cons_succ, List.set_cons_zero]
    have hY := HC.out.go s pre x Wp W hJ (hsb.low (by omega)) hnx
    have fin : Hid (∀ W' : World, KeepsFrom W1.heap.size W W' → Kq (fun k => k = b ∨ (W1.heap.size ≤ k ∧ k < s) ∨ (Wp.heap.size ≤ k ∧ k < W.heap.size)) W W' → KeepsFrom w2.heap.size W W' ∧ Kq (fun k => k = W1.heap.size + 1 ∨ (w2.heap.size + 2 ≤ k ∧ k < s) ∨ (Wp.heap.size ≤ k ∧ k < bq)) W W' ∧ Bx W' W1.heap.size (.func yf #[] yc) 190 ∧ s ≤ W'.heap.size) := fun W' k1 k2 => ⟨KeepsFrom.up k1 (by omega), k2.sub (fun k hk => by
      rcases hk with h | h | h
      · exact .inr (.inl (by omega))
      · exact .inr (.inl (by omega))
      · exact .inr (.inr (by omega))), kq_bx k2 (.inr (.inl (by omega))) h2', by have := k2.1; omega⟩
    clear hJ h2 h2'
    unfold encW at hY
    rcases id HC.out.yk with ⟨ly, hly⟩ | ⟨yg, yb, hyg, eg⟩
    · cases hly
      obtain ⟨fn, tmps, assign, body, hyl, hR⟩ := hY.yield
      have HR : Hid _ := hR
      clear hR hY
      gi_wp2
      refine ⟨(fun h => by cases h), ?_⟩
      refine RoundIn.mono (F := Fence.wide.inRound l') (HR.out _) ?_
      rintro e W5 ⟨k1, k2, ⟨rfl, hj⟩ | ⟨rfl, hj⟩⟩
      · have HJ : Hid _ := hj
        clear hj
        gi_wp2
        obtain ⟨f1, f2, f3, f4⟩ := fin.out W5 k1 k2
        exact ⟨f1, f2, HJ.out, f3, h4, f4⟩
      · have HJ : Hid _ := hj
        clear hj
        gi_wp2
        obtain ⟨f1, f2, f3, f4⟩ := fin.out W5 k1 k2
        exact ⟨f1, f2, rfl, _, HJ.out⟩
    · cases hyg
      have hc := hY.func
      unfold Ent0 at eg
      clear hY
      gi_wp2
      refine ⟨trivial, (fun h => by cases h), ?_⟩
      refine CallsIn.mono (CallsIn.inRound _ (callsIn_wide.2 hc)) ?_
      rintro e W5 ⟨k1, k2, ⟨rfl, hj⟩ | ⟨rfl, hj⟩⟩
      · have HJ : Hid _ := hj
        clear hj
        gi_wp2
        obtain ⟨f1, f2, f3, f4⟩ := fin.out W5 k1 k2
        exact ⟨f1, f2, HJ.out, f3, h4, f4⟩
      · have HJ : Hid _ := hj
        clear hj
        gi_wp2
        obtain ⟨f1, f2, f3, f4⟩ := fin.out W5 k1 k2
        exact ⟨f1, f2, rfl, _, HJ.out⟩
  case done =>
    rintro s W ⟨hJ, h2, h4, h5⟩ hD
    have HJ : Hid _ := HC.out.st s _ _ _ hJ (Sb.putD hD rfl (by omega) (.deferred none))
    clear hJ
    gi_wp2
    refine ⟨by simp, .inl ⟨_, _, rfl, takes hD, ?_⟩⟩
    exact ⟨_, results_none rfl _ _ _, ⟨_, rfl⟩, .inl ⟨s, HJ.out⟩⟩
  case stop =>
    rintro s c pre W ⟨rfl, pre', hJ⟩ hD
    have HJ : Hid _ := HC.out.stx s _ _ _ hJ (Sb.putD hD rfl (by omega) (.deferred none))
    clear hJ
    gi_wp2
    refine ⟨by simp, .inl ⟨_, _, rfl, takes hD, ?_⟩⟩
    exact ⟨_, results_none rfl _ _ _, ⟨_, rfl⟩, .inr ⟨s, _, HJ.out⟩⟩

theorem walk_sq {w : World} {b : Nat} {l : List UInt8} (hb : Bx w b (.string (S l)) 9) (hl : l.length ≤ 4611686018427387904) :
    Sq encW w (.func (.func 126) #[] #[.pointer (some ⟨b, 0, none⟩)]) (fra l) (fun k => k = b) :=
  ⟨_, _, rfl, enters_of Tryz.func126 (by kernel_rfl) rfl, fun k hk => by subst hk; exact hb.lt, fun _ hk => walk1_runs (kq_bx hk rfl hb) hl⟩
set_option maxHeartbeats 1000000 in
theorem Walk_any (l : List UInt8) (hl : l.length ≤ 4611686018427387904) (w : World) :
    Calls Tryz.prog 101 #[.string (S l)] w fun e w' => e = .returned (.func (.func 126) #[] #[.pointer (some ⟨w.heap.size, 0, none⟩)]) ∧ Sq encW w' (.func (.func 126) #[] #[.pointer (some ⟨w.heap.size, 0, none⟩)]) (fra l) (fun k => k = w.heap.size) ∧ Below w.heap.size w w' ∧ w'.heap.size = w.heap.size + 1 := by
  have hmf := mk_func
  obtain ⟨W2, hW2⟩ : ∃ W2, W2 = w.alloc (.cells #[.string (S l)] 9) := ⟨_, rfl⟩
  have hs2 : W2.heap.size = w.heap.size + 1 := by rw [hW2]; simp
  have b2 : Bx W2 w.heap.size (.string (S l)) 9 := by rw [hW2]; exact Bx.new w _ _
  have hB2 : Below w.heap.size w W2 := by rw [hW2]; exact (Below.refl _ w).alloc (Nat.le_refl _) _
  have HR : Hid _ := walk_sq b2 hl
  clear b2
  go_enter Tryz.func101, Tryz.ntmps101
  go_wp2
  rw [← hW2]
  go_ret
  exact ⟨rfl, HR.out, hB2, hs2⟩
end Go.Proofs.YteifkkceldlfnaaGreatDoor

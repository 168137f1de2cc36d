/-
  A law for a range over a function that keeps a state of its own; what a round begins with (I) and what it leaves (I2) are said apart.
-/
import Derived.Test.YthmfcloecmnfnaaGreatROrd
import Derived.RangeFuncNested
import Derived.RangeFuncBound
import Derived.RangeFuncCalls
import Derived.RangeFuncLeaves
import Derived.OwnWalkIn
import Derived.TacticsInMore
import Derived.LoopNIn
import Derived.LoopIn
namespace Go.Proofs.YthmfcloecmnfnaaGreat
open Go.RowKit Go.Shelf Go.Sort
open Go.Lib hiding intOf

/-- a call of yield: one round -/
def Yld (P : Program) (l : Nat) (args : Array Value) (W : World) (R : Ending → World → Prop) : Prop :=
  ∃ fn tmps assign body, (Instr.yield l args).run P W = .ok (.round l fn tmps assign body) W ∧ ∀ m, RoundIn Fence.wide m P l fn tmps assign body W R

/-- the loop's two blocks of book-keeping -/
def Two (D : Nat) (r : Obj) (W : World) : Prop := W.heap[D]? = some (.deferred (some [])) ∧ W.heap[D + 1]? = some r

theorem Yld.mono {P : Program} {l : Nat} {args : Array Value} {W : World} {R R' : Ending → World → Prop} (h : Yld P l args W R) (hr : ∀ e w, R e w → R' e w) : Yld P l args W R' := by
  obtain ⟨fn, tmps, assign, body, h1, h2⟩ := h
  exact ⟨fn, tmps, assign, body, h1, fun m => (h2 m).mono hr⟩

theorem Two.ch {D : Nat} {r : Obj} {W W' : World} {X : Nat → Prop} (h : Two D r W) (hc : Ch X W W') (h1 : ¬ X D) (h2 : ¬ X (D + 1)) : Two D r W' := ⟨hc.obj h.1 h1, hc.obj h.2 h2⟩

/-- how the body of a round may be left: what is to be kept is kept -/
def ownPostX {α : Type} (B : Nat) (Kp : World → World → Prop) (I : List α → World → Prop) (Ix : Code → List α → World → Prop) (xs : List α) (W : World) : Exit → Act → World → Prop
  | .normal, _, W' => KeepsFrom B W W' ∧ Kp W W' ∧ I xs W'
  | .ret, _, W' => KeepsFrom B W W' ∧ Kp W W' ∧ Ix .ret xs W'
  | .exit id, _, W' => KeepsFrom B W W' ∧ Kp W W' ∧ Ix (.exit id) xs W'
  | .goto t, _, W' => KeepsFrom B W W' ∧ Kp W W' ∧ Ix (.goto t) xs W'
  | .panic _, _, _ => False
  | .outgrown, _, _ => False

theorem range_law {P : Program} {α σ : Type} {g : Operand} {ps : Array Tmp} {assign body : Code} {Q : Exit → Act → World → Prop} {a : Act} {w : World} {n : Nat}
    {gf : Nat} {lb : Array Value} (hg : a.eval g = .func (.func gf) #[] lb) (eg : ∀ args w, (callFunc gf args).run P w = .ok (.enter gf args) w)
    (encs : α → Array Value) (hps : ∀ x, (encs x).size = ps.size)
    (I I2 : σ → List α → World → Prop) (Ix : σ → Code → List α → World → Prop) (Kp : σ → World → World → Prop) (Nx : σ → List α → α → Prop) (E : List α → World → Prop) (Ex : Code → List α → World → Prop)
    (A : σ → List α → α → Act → World → Prop)
    (hI : ∀ s, OwnFrom w.heap.size (I2 s)) (hIx : ∀ s c, OwnFrom w.heap.size (Ix s c)) (hE : OwnFrom w.heap.size E) (hEx : ∀ c, OwnFrom w.heap.size (Ex c)) (hA : ∀ s pre x a', OwnFrom w.heap.size (fun (_ : Unit) W => A s pre x a' W))
    (hKt : ∀ s {A B C : World}, Kp s A B → Kp s B C → Kp s A C) (hKb : ∀ s (W : World) (l : Nat) (o o' : Obj), w.heap.size ≤ l → W.heap[l]? = some o → o.isCells = false → Kp s W (W.putObj l o'))
    (hassign : ∀ (m l : Nat) (s : σ) (pre : List α) (x : α) (W : World) (K : Act → World → Prop), I s pre W → Nx s pre x → (∀ a' W', KeepsFrom w.heap.size W W' → Kp s W W' → A s pre x a' W' → K a' W') →
      assign.wpIn (Fence.wide.inRound l) m P (Exit.then K (fun _ _ _ => False)) { tmps := (ps.zip (encs x)).foldl (fun t (p, v) => t.setIfInBounds p v) a.tmps, defers := [] } W)
    (hbody : ∀ (m l : Nat) (s : σ) (pre : List α) (x : α) (a' : Act) (W : World), A s pre x a' W → Nx s pre x → body.wpIn (Fence.wide.inRound l) m P (ownPostX w.heap.size (Kp s) (I2 s) (Ix s) (pre ++ [x]) W) a' W)
    (hseq : ∀ (W1 : World) (R0 : Obj) (R1 : Code → Obj), R0.isCells = false → (∀ c, (R1 c).isCells = false) → Below w.heap.size w W1 → W1.heap.size = w.heap.size + 2 → Two w.heap.size R0 W1 →
      (∀ s pre x W, I s pre W → Nx s pre x → Two w.heap.size R0 W → Yld P (w.heap.size + 1) (encs x) W fun e W' =>
        (e = .returned (.bool true) ∧ KeepsFrom (w.heap.size + 2) W W' ∧ I2 s (pre ++ [x]) W' ∧ Kp s W W' ∧ Two w.heap.size R0 W') ∨ (e = .returned (.bool false) ∧ KeepsFrom (w.heap.size + 2) W W' ∧ Kp s W W' ∧ ∃ c, Ix s c (pre ++ [x]) W' ∧ Two w.heap.size (R1 c) W')) →
      Calls P gf (#[.func (.yield (w.heap.size + 1)) #[] #[]] ++ lb) W1 fun e W2 => (∃ v, e = .returned v) ∧ ((∃ xs, E xs W2 ∧ Two w.heap.size R0 W2) ∨ (∃ c xs, Ex c xs W2 ∧ Two w.heap.size (R1 c) W2)))
    (hdone : ∀ (xs : List α) (W : World), E xs W → W.heap[w.heap.size]? = some (.deferred (some [])) → Q .normal { a with defers := { target := .collected w.heap.size, args := #[] } :: a.defers } W)
    (hstop : ∀ (c : Code) (xs : List α) (W : World), Ex c xs W → W.heap[w.heap.size]? = some (.deferred (some [])) → c.wpIn Fence.wide n P Q { a with defers := { target := .collected w.heap.size, args := #[] } :: a.defers } W) :
    (Code.rangeFunc g ps assign body).wpIn Fence.wide n P Q a w := by
  refine wpIn_rangeFunc ?_
  intro fn hfn
  rw [show Fence.wide.round = none from rfl]
  obtain ⟨rec, hrec⟩ : ∃ rec : LoopState → Option Code → Loop, rec = fun st pe => { state := st, pending := pe, fn, tmps := a.tmps, params := ps, assign, body, defers := w.heap.size } := ⟨_, rfl⟩
  obtain ⟨W1, hW1⟩ : ∃ W1, (w.alloc (.deferred (some []))).alloc (.loop (rec .ready none)) = W1 := ⟨_, rfl⟩
  have hL1 : W1.heap[w.heap.size + 1]? = some (.loop (rec .ready none)) := by
    rw [← hW1]; have := World.alloc_heap_new (w.alloc (.deferred (some []))) (.loop (rec .ready none)); rwa [World.size_alloc] at this
  have hK1 : W1.heap[w.heap.size]? = some (.deferred (some [])) := by
    rw [← hW1]; exact (Below.heap_alloc _ _ _ (by simp)).trans (World.alloc_heap_new w _)
  have hb1 : Below w.heap.size w W1 := by
    rw [← hW1]; exact ((Below.refl _ w).alloc (Nat.le_refl _) _).alloc (by simp) _
  have hs1 : W1.heap.size = w.heap.size + 2 := by rw [← hW1]; simp
  refine ⟨w.heap.size + 1, [{ target := .collected w.heap.size, args := #[] }], W1, { target := .fn (.func gf) lb, args := #[.func (.yield (w.heap.size + 1)) #[] #[]] }, W1, gf,
    #[.func (.yield (w.heap.size + 1)) #[] #[]] ++ lb, W1, ?_, ?_, ?_, ?_, (fun h => by cases h), ?_⟩
  · rw [← hW1, hrec]; exact run_enterLoop_outer _ _ _ _ _
  · simp only [resolve, hg]
    simp [go_sem]
  · intro f' hf'; trivial
  · simp [invoke, go_sem, eg]
  · refine callsIn_wide.2 ((hseq W1 (.loop (rec .ready none)) (fun c => .loop (rec .done (some c))) rfl (fun _ => rfl) hb1 hs1 ⟨hK1, hL1⟩ ?_).mono ?_)
    · rintro s pre x W hi hnx ⟨hk, hl⟩
      have hlt : w.heap.size + 1 < W.heap.size := (Array.getElem?_eq_some_iff.1 hl).1
      have hy := run_yield (P := P) (args := encs x) hl (by rw [hrec]; exact hps x)
      rw [hrec] at hy
      refine ⟨fn, _, assign, body, hy, fun m => roundIn_of_wpIn hfn (hassign m _ s pre x W _ hi hnx ?_)⟩
      clear hy
      intro a' Wa hkfa hkpa hax
      replace hl := hkfa.same _ _ (by omega) hl rfl
      replace hk := hkfa.same _ _ (Nat.le_refl _) hk rfl
      replace hlt : w.heap.size + 1 < Wa.heap.size := (Array.getElem?_eq_some_iff.1 hl).1
      clear hi
      revert hkpa hkfa
      generalize W = Wb
      intro hkfa hkpa
      obtain ⟨W, rfl⟩ : ∃ W, W = Wa := ⟨_, rfl⟩
      refine ⟨_, run_beginRound hl (by rw [hrec]), ?_⟩
      have hl2 : (W.putObj (w.heap.size + 1) (.loop { rec .ready none with state := .busy })).heap[w.heap.size + 1]? = some (.loop { rec .ready none with state := .busy }) := World.putObj_heap_same hlt
      have hk2 : (W.putObj (w.heap.size + 1) (.loop { rec .ready none with state := .busy })).heap[w.heap.size]? = some (.deferred (some [])) := (World.putObj_heap_other (by omega)).trans hk
      have hw2 : Kp s W (W.putObj (w.heap.size + 1) (.loop { rec .ready none with state := .busy })) := hKb _ _ _ _ _ (by omega) hl rfl
      refine wpIn_mono (hbody m _ s pre x a' _ ((hA s pre x a').putObj (s := ()) _ hax (by omega) hl rfl) hnx) ?_
      have fin : ∀ (jump : Option Code) (W3 : World), KeepsFrom w.heap.size (W.putObj (w.heap.size + 1) (.loop { rec .ready none with state := .busy })) W3 →
          (Instr.endRound (w.heap.size + 1) jump).run P W3 = .ok (.bool jump.isNone) (W3.putObj (w.heap.size + 1) (.loop (rec (if jump.isNone then .ready else .done) jump))) ∧
          W3.heap[w.heap.size + 1]? = some (.loop { rec .ready none with state := .busy }) ∧
          (W3.putObj (w.heap.size + 1) (.loop (rec (if jump.isNone then .ready else .done) jump))).heap[w.heap.size + 1]? = some (.loop (rec (if jump.isNone then .ready else .done) jump)) ∧
          (W3.putObj (w.heap.size + 1) (.loop (rec (if jump.isNone then .ready else .done) jump))).heap[w.heap.size]? = some (.deferred (some [])) := fun jump W3 hk3 => by
        have hl3 := hk3.same _ _ (by omega) hl2 rfl
        have := run_endRound (P := P) jump hl3
        rw [hrec] at this ⊢
        exact ⟨this, by rw [hrec] at hl3; exact hl3, World.putObj_heap_same (Array.getElem?_eq_some_iff.1 hl3).1, (World.putObj_heap_other (by omega)).trans (hk3.same _ _ (Nat.le_refl _) hk2 rfl)⟩
      have kf : ∀ (W3 : World) (o : Obj), KeepsFrom w.heap.size (W.putObj (w.heap.size + 1) (.loop { rec .ready none with state := .busy })) W3 → KeepsFrom (w.heap.size + 2) Wb (W3.putObj (w.heap.size + 1) o) := fun W3 o h3 => by
        have up : ∀ {X Y : World}, KeepsFrom w.heap.size X Y → KeepsFrom (w.heap.size + 2) X Y := fun h => ⟨h.size, fun k o hB hk ho => h.same k o (by omega) hk ho⟩
        have pt : ∀ (X : World) (o : Obj), KeepsFrom (w.heap.size + 2) X (X.putObj (w.heap.size + 1) o) := fun X o => KeepsFrom.of_grownBy (grownBy_putObj' X _ o) (fun j e => by cases e; omega)
        exact (((up hkfa).trans (pt W _)).trans (up h3)).trans (pt W3 o)
      rintro e a3 W3 hp
      cases e with
      | normal =>
        obtain ⟨hk3, hkp3, hi3⟩ := hp
        obtain ⟨hr, hl3, hl4, hk4⟩ := fin none W3 hk3
        exact ⟨_, _, hr, .inl ⟨rfl, kf W3 _ hk3, (hI s).putObj _ hi3 (by omega) hl3 rfl, hKt s hkpa (hKt s (hKt s hw2 hkp3) (hKb _ _ _ _ _ (by omega) hl3 rfl)), hk4, hl4⟩⟩
      | ret =>
        obtain ⟨hk3, hkp3, hi3⟩ := hp
        obtain ⟨hr, hl3, hl4, hk4⟩ := fin (some .ret) W3 hk3
        exact ⟨_, _, hr, .inr ⟨rfl, kf W3 _ hk3, hKt s hkpa (hKt s (hKt s hw2 hkp3) (hKb _ _ _ _ _ (by omega) hl3 rfl)), .ret, (hIx s _).putObj _ hi3 (by omega) hl3 rfl, hk4, hl4⟩⟩
      | exit id =>
        obtain ⟨hk3, hkp3, hi3⟩ := hp
        obtain ⟨hr, hl3, hl4, hk4⟩ := fin (some (.exit id)) W3 hk3
        exact ⟨_, _, hr, .inr ⟨rfl, kf W3 _ hk3, hKt s hkpa (hKt s (hKt s hw2 hkp3) (hKb _ _ _ _ _ (by omega) hl3 rfl)), .exit id, (hIx s _).putObj _ hi3 (by omega) hl3 rfl, hk4, hl4⟩⟩
      | goto t =>
        obtain ⟨hk3, hkp3, hi3⟩ := hp
        obtain ⟨hr, hl3, hl4, hk4⟩ := fin (some (.goto t)) W3 hk3
        exact ⟨_, _, hr, .inr ⟨rfl, kf W3 _ hk3, hKt s hkpa (hKt s (hKt s hw2 hkp3) (hKb _ _ _ _ _ (by omega) hl3 rfl)), .goto t, (hIx s _).putObj _ hi3 (by omega) hl3 rfl, hk4, hl4⟩⟩
      | panic ch => exact hp.elim
      | outgrown => exact hp.elim
    · rintro e W2 ⟨⟨v, rfl⟩, (⟨xs, hi, hk, hl⟩ | ⟨c, xs, hi, hk, hl⟩)⟩
      · exact ⟨none, _, by have := run_endLoop (P := P) hl (by rw [hrec]; simp); rw [hrec] at this; exact this, hdone xs _ (hE.putObj _ hi (by omega) hl rfl) ((World.putObj_heap_other (by omega)).trans hk)⟩
      · exact ⟨some c, _, by have := run_endLoop (P := P) hl (by rw [hrec]; simp); rw [hrec] at this; exact this, hstop c xs _ ((hEx c).putObj _ hi (by omega) hl rfl) ((World.putObj_heap_other (by omega)).trans hk)⟩

/-- the cells of certain blocks are as they were -/
def Kq (X : Nat → Prop) (W W' : World) : Prop := W.heap.size ≤ W'.heap.size ∧ ∀ (k : Nat) (o : Obj), X k → W.heap[k]? = some o → o.isCells = true → W'.heap[k]? = some o

theorem Kq.refl (X : Nat → Prop) (W : World) : Kq X W W := ⟨Nat.le_refl _, fun _ _ _ h _ => h⟩

theorem Kq.trans {X : Nat → Prop} {A B C : World} (h : Kq X A B) (k : Kq X B C) : Kq X A C := ⟨Nat.le_trans h.1 k.1, fun i o hX hA ho => k.2 i o hX (h.2 i o hX hA ho) ho⟩

theorem Kq.put {X : Nat → Prop} (W : World) (l : Nat) (o p : Obj) (h : W.heap[l]? = some o) (ho : o.isCells = false) : Kq X W (W.putObj l p) :=
  ⟨(grownBy_putObj' W l p).size, fun k _ _ hk hc => (World.putObj_heap_other (fun e => by subst e; rw [h] at hk; cases hk; rw [ho] at hc; cases hc)).trans hk⟩

theorem Kq.of_ch {X Y : Nat → Prop} {W W' : World} (h : Ch Y W W') (hXY : ∀ k, X k → ¬ Y k) : Kq X W W' := ⟨h.size, fun k _ hX hk _ => h.obj hk (hXY k hX)⟩

/-- a range over nothing -/
theorem range_none {P : Program} {g : Operand} {ps : Array Tmp} {assign body : Code} {Q : Exit → Act → World → Prop} {a : Act} {w : World} {n : Nat}
    {gf : Nat} {lb : Array Value} (hg : a.eval g = .func (.func gf) #[] lb) (eg : ∀ args w, (callFunc gf args).run P w = .ok (.enter gf args) w)
    (hcall : ∀ l W1, Below w.heap.size w W1 → Calls P gf (#[.func (.yield l) #[] #[]] ++ lb) W1 fun e W2 => (∃ v, e = .returned v) ∧ Below W1.heap.size W1 W2)
    (hdone : ∀ (W : World), Below w.heap.size w W → W.heap[w.heap.size]? = some (.deferred (some [])) → Q .normal { a with defers := { target := .collected w.heap.size, args := #[] } :: a.defers } W) :
    (Code.rangeFunc g ps assign body).wpIn Fence.wide n P Q a w := by
  refine range_law (α := Unit) (σ := Unit) hg eg (fun _ => Array.replicate ps.size undef) (fun _ => by simp) (fun _ _ _ => False) (fun _ _ _ => False) (fun _ _ _ _ => False) (fun _ _ _ => True) (fun _ _ _ => False) (fun _ W => Below w.heap.size w W) (fun _ _ _ => False) (fun _ _ _ _ _ => False)
    (fun _ _ _ _ _ h _ _ => h) (fun _ _ _ _ _ _ h _ _ => h) (ownFrom_below (Nat.le_refl _) (Nat.le_refl _)) (fun _ _ _ _ _ h _ _ => h) (fun _ _ _ _ _ _ _ _ h _ _ => h) (fun _ _ _ _ _ _ => trivial) (fun _ _ _ _ _ _ _ _ => trivial)
    (fun _ _ _ _ _ _ _ h => h.elim) (fun _ _ _ _ _ _ _ h => h.elim) ?_ (fun _ W h hD => hdone W h hD) (fun _ _ _ h => h.elim)
  intro W1 R0 R1 _ _ hb hs h2 _
  refine (hcall _ W1 hb).mono ?_
  rintro e W2 ⟨hv, hB⟩
  refine ⟨hv, .inl ⟨[], hb.trans (hB.mono hb.size), ?_⟩⟩
  exact ⟨(hB.block _ (by omega)).trans h2.1, (hB.block _ (by omega)).trans h2.2⟩

theorem takes {D : Nat} {W : World} (hD : W.heap[D]? = some (.deferred (some []))) {P : Program} : (Instr.takeDeferred D).run P W = .ok [] (W.putObj D (.deferred none)) := run_takeDeferred hD

theorem below_take {B : Nat} {w W : World} {D : Nat} (h : Below B w W) (hB : B ≤ w.heap.size) (hD : B ≤ D) (o : Obj) : Below B w (W.putObj D o) :=
  h.trans ((Below.refl B W).grown (grownBy_putObj' W D o) (Nat.le_trans hB h.size) (fun k e => by cases e; exact hD))
end Go.Proofs.YthmfcloecmnfnaaGreat

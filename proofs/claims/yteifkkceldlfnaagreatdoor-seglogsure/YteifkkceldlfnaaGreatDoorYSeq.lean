/-
  Ranges that make memory between two calls of their own: what it says that a value is such a range over a list; and the statement 'for a, b := range s' for whatever body. R: the blocks that the range has made so far.
-/
import Derived.Test.YteifkkceldlfnaaGreatDoorGRange
namespace Go.Proofs.YteifkkceldlfnaaGreatDoor
open Go.RowKit Go.Shelf Go.Sort
open Go.Lib hiding intOf

/-- what a range, or the book-keeping of its loop, may have turned -/
def Sr (n : Nat) (R : Nat → Prop) (W W' : World) : Prop := Ch (fun k => n ≤ k ∧ (R k ∨ ∃ o : Obj, W.heap[k]? = some o ∧ o.isCells = false)) W W'
theorem Sr.of_below {n : Nat} {R : Nat → Prop} {A B : World} (h : Below A.heap.size A B) : Sr n R A B := Ch.of_below h
theorem Sr.low {n m : Nat} {R : Nat → Prop} {W W' : World} (h : Sr n R W W') (hm : m ≤ n) : Sr m R W W' := Ch.mono h (fun _ _ hk => ⟨Nat.le_trans hm hk.1, hk.2⟩)
theorem Sr.size {n : Nat} {R : Nat → Prop} {W W' : World} (h : Sr n R W W') : W.heap.size ≤ W'.heap.size := Ch.size h
theorem Sr.of_sb {n m s : Nat} {R : Nat → Prop} {W W' : World} (h : Sb m s W W') (hn : n ≤ m) (hR : ∀ k, m ≤ k → k < s → R k) : Sr n R W W' :=
  Ch.mono h (fun k _ hk => ⟨Nat.le_trans hn hk.1, hk.2.imp (hR k hk.1) id⟩)
theorem Sr.bx {n : Nat} {R : Nat → Prop} {W W' : World} (h : Sr n R W W') {b : Nat} {v : Value} {t : TypeId} (hb : Bx W b v t) (hn : b < n ∨ ¬ R b) : Bx W' b v t := by
  refine hb.ch h ?_
  rintro ⟨h1, h2 | ⟨o, h2, h3⟩⟩
  · rcases hn with hn | hn
    · omega
    · exact hn h2
  · rw [show W.heap[b]? = _ from hb] at h2; cases h2; cases h3
theorem Sr.row {n : Nat} {R : Nat → Prop} {W W' : World} (h : Sr n R W W') {base : Nat} {e : TypeId} {size : Nat} {v : Value} {m : Nat} {xs : List Value} (hr : W.ownsRow base e size v m xs) (hs : ∀ k, v.ownBlock = some k → k < n ∨ ¬ R k) : W'.ownsRow base e size v m xs := by
  refine Ch.row h hr ?_
  rintro k hk ⟨h1, h2 | ⟨o, h2, h3⟩⟩
  · rcases hs k hk with hn | hn
    · omega
    · exact hn h2
  · obtain ⟨_, cur, h4⟩ := row_obj hr hk
    rw [h4] at h2; cases h2; cases h3
theorem Sr.below {n : Nat} {R : Nat → Prop} {W W' : World} (h : Sr n R W W') {B : Nat} {w : World} (hb : Below B w W) (hB : B ≤ w.heap.size) (hn : B ≤ n) : Below B w W' :=
  hb.trans (Ch.below h (Nat.le_trans hB hb.size) (fun k hk hx => by omega))
/-- what the one who ranges owes -/
structure ConsR {α : Type} (enc : α → Array Value) (y : Value) (l : List α) (X : Nat → Prop) (W1 : World) (J Jx : (Nat → Prop) → List α → World → Prop) : Prop where
  yk : Yk y
  st : ∀ (R R' : Nat → Prop) pre W W', J R pre W → Sr W1.heap.size R W W' → (∀ k, R' k → R k ∨ (W.heap.size ≤ k ∧ k < W'.heap.size)) → J R' pre W'
  stx : ∀ (R : Nat → Prop) pre W W', Jx R pre W → Sr W1.heap.size R W W' → Jx R pre W'
  start : ∀ W0, Below W1.heap.size W1 W0 → J (fun k => W1.heap.size ≤ k ∧ k < W0.heap.size) [] W0
  go : ∀ (R : Nat → Prop) pre x W, J R pre W → pre ++ [x] <+: l → Yd y (enc x) W fun e W' => KeepsFrom W1.heap.size W W' ∧ Kq (fun k => X k ∨ R k) W W' ∧ ((e = .returned (.bool true) ∧ J R (pre ++ [x]) W') ∨ (e = .returned (.bool false) ∧ Jx R (pre ++ [x]) W'))
/-- a call of a range comes to its end -/
def RunsR {α : Type} (enc : α → Array Value) (gf : Nat) (lb : Array Value) (l : List α) (X : Nat → Prop) (W1 : World) : Prop :=
  ∀ y J Jx, ConsR enc y l X W1 J Jx → Calls Tryz.prog gf (#[y] ++ lb) W1 fun e W2 => (∃ v, e = .returned v) ∧ ((∃ R, J R l W2) ∨ ∃ R pre, Jx R pre W2)
/-- f is a range over l; what it is lies in the blocks of X -/
def SqR {α : Type} (enc : α → Array Value) (w : World) (f : Value) (l : List α) (X : Nat → Prop) : Prop :=
  ∃ gf lb, f = .func (.func gf) #[] lb ∧ Ent0 gf ∧ (∀ k, X k → k < w.heap.size) ∧ ∀ W1, Kq X w W1 → RunsR enc gf lb l X W1
theorem SqR.kq {w w' : World} {f : Value} {α : Type} {enc : α → Array Value} {l : List α} {X : Nat → Prop} (h : SqR enc w f l X) (hk : Kq X w w') : SqR enc w' f l X := by
  obtain ⟨gf, lb, e, h0, hX, h1⟩ := h
  exact ⟨gf, lb, e, h0, fun k hx => Nat.lt_of_lt_of_le (hX k hx) hk.1, fun W1 hW => h1 W1 (hk.trans hW)⟩
theorem SqR.below {w w' : World} {f : Value} {α : Type} {enc : α → Array Value} {l : List α} {X : Nat → Prop} (h : SqR enc w f l X) (hb : Below w.heap.size w w') : SqR enc w' f l X := h.kq (Kq.of_below hb)
/-- 'for k, v := range f { .. }', k and v plain variables -/
theorem range_sqR {α : Type} {e1 e2 : α → Value} {g : Operand} {p1 p2 : Tmp} {assign body : Code} {Q : Exit → Act → World → Prop} {a : Act} {w : World} {n : Nat} {f : Value} {l : List α} {X : Nat → Prop} (tm : α → Array Value)
    (hg : a.eval g = f) (hS : SqR (fun x => #[e1 x, e2 x]) w f l X)
    (I : (Nat → Prop) → List α → World → Prop) (Ix : (Nat → Prop) → Code → List α → World → Prop)
    (hI : ∀ (R R' : Nat → Prop) pre W W', I R pre W → Sr w.heap.size R W W' → (∀ k, R' k → R k ∨ (W.heap.size ≤ k ∧ k < W'.heap.size)) → I R' pre W') (hIx : ∀ R c pre W W', Ix R c pre W → Sr w.heap.size R W W' → Ix R c pre W')
    (hstart : ∀ W0, Below w.heap.size w W0 → w.heap.size + 2 ≤ W0.heap.size → I (fun k => w.heap.size + 2 ≤ k ∧ k < W0.heap.size) [] W0)
    (hassign : ∀ (m l' : Nat) (x : α) (W : World) (K : Act → World → Prop), K { tmps := tm x, defers := [] } W →
      assign.wpIn (Fence.wide.inRound l') m Tryz.prog (Exit.then K (fun _ _ _ => False)) { tmps := (a.tmps.setIfInBounds p1 (e1 x)).setIfInBounds p2 (e2 x), defers := [] } W)
    (hbody : ∀ (m l' : Nat) (R : Nat → Prop) (pre : List α) (x : α) (W : World), I R pre W → pre ++ [x] <+: l → body.wpIn (Fence.wide.inRound l') m Tryz.prog (ownPostX w.heap.size (Kq (fun k => X k ∨ R k)) (I R) (Ix R) (pre ++ [x]) W) { tmps := tm x, defers := [] } W)
    (hdone : ∀ (R : Nat → Prop) (W : World), I R l W → W.heap[w.heap.size]? = some (.deferred (some [])) → Q .normal { a with defers := { target := .collected w.heap.size, args := #[] } :: a.defers } W)
    (hstop : ∀ (R : Nat → Prop) (c : Code) (pre : List α) (W : World), Ix R c pre W → W.heap[w.heap.size]? = some (.deferred (some [])) → c.wpIn Fence.wide n Tryz.prog Q { a with defers := { target := .collected w.heap.size, args := #[] } :: a.defers } W) :
    (Code.rangeFunc g #[p1, p2] assign body).wpIn Fence.wide n Tryz.prog Q a w := by
  obtain ⟨gf, lb, rfl, h0, hX, h1⟩ := hS
  have og : ∀ {R : Nat → Prop} {W W' : World} {row : Option Nat}, W.grownBy W' row → (∀ r, row = some r → w.heap.size ≤ r ∧ ∃ o : Obj, W.heap[r]? = some o ∧ o.isCells = false) → Sr w.heap.size R W W' :=
    fun hgr hr => Ch.of_grown hgr (fun k e _ => ⟨(hr k e).1, .inr (hr k e).2⟩)
  refine range_law (α := α) (σ := Nat → Prop) (ps := #[p1, p2]) hg h0 (fun x => #[e1 x, e2 x]) (fun _ => rfl) I I Ix (fun R => Kq (fun k => X k ∨ R k)) (fun _ pre x => pre ++ [x] <+: l) (fun _ W => ∃ R, I R l W) (fun c _ W => ∃ R pre, Ix R c pre W)
    (fun R pre x a' W => I R pre W ∧ a' = { tmps := tm x, defers := [] })
    (fun R pre A B row hi hgr hr => hI R R pre A B hi (og hgr hr) (fun _ h => .inl h)) (fun R c pre A B row hi hgr hr => hIx R c pre A B hi (og hgr hr))
    (fun _ A B row ⟨R, hi⟩ hgr hr => ⟨R, hI R R _ A B hi (og hgr hr) (fun _ h => .inl h)⟩) (fun c _ A B row ⟨R, pre, hi⟩ hgr hr => ⟨R, pre, hIx R c pre A B hi (og hgr hr)⟩)
    (fun R pre x a' _ A B row h hgr hr => ⟨hI R R pre A B h.1 (og hgr hr) (fun _ h => .inl h), h.2⟩)
    (fun _ => Kq.trans) (fun _ W l o o' _ h ho => Kq.put W l o o' h ho)
    (fun m l' R pre x W K hi hnx hK => ?_)
    (fun m l' R pre x a' W h hnx => by obtain ⟨h, rfl⟩ := h; exact hbody m l' R pre x W h hnx) ?_ (fun _ W h hD => by obtain ⟨R, hi⟩ := h; exact hdone R W hi hD) (fun c _ W h hD => by obtain ⟨R, pre, hi⟩ := h; exact hstop R c pre W hi hD)
  · have e : ((#[p1, p2] : Array Tmp).zip #[e1 x, e2 x]).foldl (fun t (p, v) => t.setIfInBounds p v) a.tmps = (a.tmps.setIfInBounds p1 (e1 x)).setIfInBounds p2 (e2 x) := by simp [Array.zip]
    rw [e]
    exact hassign m l' x W K (hK _ _ (KeepsFrom.refl _ _) (Kq.refl _ _) ⟨hi, rfl⟩)
  intro W1 R0 R1 hR0 hR1 hb hs h2 hcap
  have hck : ∀ {R : Nat → Prop} {W W' : World}, Sr W1.heap.size R W W' → Sr w.heap.size R W W' := fun hc => hc.low hb.size
  refine (h1 W1 (Kq.of_below hb) _ (fun R pre W => I R pre W ∧ Two w.heap.size R0 W) (fun R pre W => ∃ c, Ix R c pre W ∧ Two w.heap.size (R1 c) W) ⟨.inl ⟨_, rfl⟩, ?_, ?_, ?_, ?_⟩).mono ?_
  · rintro R R' pre W W' ⟨hi, ht⟩ hc hr
    exact ⟨hI R R' pre W W' hi (hck hc) hr, ht.ch hc (fun h => by omega) (fun h => by omega)⟩
  · rintro R pre W W' ⟨c, hi, ht⟩ hc
    exact ⟨c, hIx R c pre W W' hi (hck hc), ht.ch hc (fun h => by omega) (fun h => by omega)⟩
  · intro W0 hB
    rw [hs]
    exact ⟨hstart W0 (hb.trans (hB.mono hb.size)) (by have := hB.size; omega), ⟨(hB.block _ (by omega)).trans h2.1, (hB.block _ (by omega)).trans h2.2⟩⟩
  · rintro R pre x W ⟨hi, ht⟩ hp
    refine .inl ⟨_, rfl, (hcap R pre x W hi hp ht).mono ?_⟩
    rintro e W' (⟨rfl, hk, hi', hq, ht'⟩ | ⟨rfl, hk, hq, c, hx, ht'⟩)
    · exact ⟨by rw [hs]; exact hk, hq, .inl ⟨rfl, hi', ht'⟩⟩
    · exact ⟨by rw [hs]; exact hk, hq, .inr ⟨rfl, c, hx, ht'⟩⟩
  · rintro e W2 ⟨hv, ⟨R, hi, ht⟩ | ⟨R, pre, c, hi, ht⟩⟩
    · exact ⟨hv, .inl ⟨[], ⟨R, hi⟩, ht⟩⟩
    · exact ⟨hv, .inr ⟨c, [], ⟨R, pre, hi⟩, ht⟩⟩
end Go.Proofs.YteifkkceldlfnaaGreatDoor

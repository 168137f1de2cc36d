/-
  Ranges as values, whatever they tell: what it says that a value is a range over a list, whoever ranges over it; and the statement 'for .. := range s' for whatever body.
-/
import Derived.Test.YthmfcloecmnfnaaGreatXRange
namespace Go.Proofs.YthmfcloecmnfnaaGreat
open Go.RowKit Go.Shelf Go.Sort
open Go.Lib hiding intOf

/-- a function that may be called -/
def Ent0 (gf : Nat) : Prop := ∀ args w, (callFunc gf args).run Tryz.prog w = .ok (.enter gf args) w
/-- what a range is handed: a loop's yield, or a function -/
def Yk (y : Value) : Prop := (∃ l, y = .func (.yield l) #[] #[]) ∨ ∃ gf caps, y = .func (.func gf) #[] caps ∧ Ent0 gf
/-- a call of it -/
def Yd (y : Value) (args : Array Value) (W : World) (R : Ending → World → Prop) : Prop :=
  (∃ l, y = .func (.yield l) #[] #[] ∧ Yld Tryz.prog l args W R) ∨ ∃ gf caps, y = .func (.func gf) #[] caps ∧ Ent0 gf ∧ Calls Tryz.prog gf (args ++ caps) W R
theorem Yd.mono {y : Value} {args : Array Value} {W : World} {R R' : Ending → World → Prop} (h : Yd y args W R) (hr : ∀ e w, R e w → R' e w) : Yd y args W R' := by
  rcases h with ⟨l, e, h⟩ | ⟨gf, caps, e, h0, h⟩
  · exact .inl ⟨l, e, h.mono hr⟩
  · exact .inr ⟨gf, caps, e, h0, h.mono hr⟩
theorem Yd.yield {l : Nat} {args : Array Value} {W : World} {R : Ending → World → Prop} (h : Yd (.func (.yield l) #[] #[]) args W R) : Yld Tryz.prog l args W R := by
  rcases h with ⟨l', e, h⟩ | ⟨gf, caps, e, h0, h⟩
  · cases e; exact h
  · cases e
theorem Yd.func {gf : Nat} {caps args : Array Value} {W : World} {R : Ending → World → Prop} (h : Yd (.func (.func gf) #[] caps) args W R) : Calls Tryz.prog gf (args ++ caps) W R := by
  rcases h with ⟨l', e, h⟩ | ⟨gf, caps, e, h0, h⟩
  · cases e
  · cases e; exact h
/-- what a range, or the book-keeping of its loop, may have turned -/
def Sb (n s : Nat) (W W' : World) : Prop := Ch (fun k => n ≤ k ∧ (k < s ∨ ∃ o : Obj, W.heap[k]? = some o ∧ o.isCells = false)) W W'
theorem Sb.of_ch {n s : Nat} {W W' : World} (h : Ch (fun k => n ≤ k ∧ k < s) W W') : Sb n s W W' := h.mono (fun _ _ hk => ⟨hk.1, .inl hk.2⟩)
theorem Sb.low {n m s : Nat} {W W' : World} (h : Sb n s W W') (hm : m ≤ n) : Sb m s W W' := Ch.mono h (fun _ _ hk => ⟨Nat.le_trans hm hk.1, hk.2⟩)
theorem Sb.trans {n s : Nat} {A B C : World} (h : Sb n s A B) (k : Sb n s B C) : Sb n s A C :=
  ⟨(Ch.os k).trans (Ch.os h), (Ch.tape k).trans (Ch.tape h), (Ch.output k).trans (Ch.output h), Nat.le_trans (Ch.size h) (Ch.size k), fun i hi hX =>
    (Ch.block k i (Nat.lt_of_lt_of_le hi (Ch.size h)) (fun hb => hX ⟨hb.1, hb.2.imp id (fun ⟨o, h1, h2⟩ => ⟨o, (Ch.block h i hi hX).symm.trans h1, h2⟩)⟩)).trans (Ch.block h i hi hX)⟩
theorem Sb.of_below {n s : Nat} {A B : World} (h : Below A.heap.size A B) : Sb n s A B := Ch.of_below h
/-- what the one who ranges owes: J holds from the start on (s: memory's size when all is ready), whatever the range does with blocks of its own; each call keeps the range's blocks, those too that it made since the last call (Wp: memory then), and goes on with J, or leaves with Jx -/
structure Cons {α : Type} (enc : α → Array Value) (y : Value) (l : List α) (X : Nat → Prop) (W1 : World) (J Jx : Nat → List α → World → Prop) : Prop where
  yk : Yk y
  st : ∀ s pre W W', J s pre W → Sb W1.heap.size s W W' → J s pre W'
  stx : ∀ s pre W W', Jx s pre W → Sb W1.heap.size s W W' → Jx s pre W'
  start : ∀ W0, Below W1.heap.size W1 W0 → J W0.heap.size [] W0
  go : ∀ s pre x Wp W, J s pre Wp → Sb W1.heap.size s Wp W → pre ++ [x] <+: l → Yd y (enc x) W fun e W' => KeepsFrom W1.heap.size W W' ∧ Kq (fun k => X k ∨ (W1.heap.size ≤ k ∧ k < s) ∨ (Wp.heap.size ≤ k ∧ k < W.heap.size)) W W' ∧ ((e = .returned (.bool true) ∧ J s (pre ++ [x]) W') ∨ (e = .returned (.bool false) ∧ Jx s (pre ++ [x]) W'))

/-- a call of a range comes to its end -/
def Runs {α : Type} (enc : α → Array Value) (gf : Nat) (lb : Array Value) (l : List α) (X : Nat → Prop) (W1 : World) : Prop :=
  ∀ y J Jx, Cons enc y l X W1 J Jx → Calls Tryz.prog gf (#[y] ++ lb) W1 fun e W2 => (∃ v, e = .returned v) ∧ ((∃ s, J s l W2) ∨ ∃ s pre, Jx s pre W2)

/-- f is a range over l; what it is lies in the blocks of X -/
def Sq {α : Type} (enc : α → Array Value) (w : World) (f : Value) (l : List α) (X : Nat → Prop) : Prop :=
  ∃ gf lb, f = .func (.func gf) #[] lb ∧ Ent0 gf ∧ (∀ k, X k → k < w.heap.size) ∧ ∀ W1, Kq X w W1 → Runs enc gf lb l X W1
theorem Sq.kq {w w' : World} {f : Value} {α : Type} {enc : α → Array Value} {l : List α} {X : Nat → Prop} (h : Sq enc w f l X) (hk : Kq X w w') : Sq enc w' f l X := by
  obtain ⟨gf, lb, e, h0, hX, h1⟩ := h
  exact ⟨gf, lb, e, h0, fun k hx => Nat.lt_of_lt_of_le (hX k hx) hk.1, fun W1 hW => h1 W1 (hk.trans hW)⟩
theorem Kq.of_below {X : Nat → Prop} {w w' : World} (h : Below w.heap.size w w') : Kq X w w' := ⟨h.size, fun k _ _ hk _ => (h.block k (Array.getElem?_eq_some_iff.1 hk).1).trans hk⟩
theorem Kq.sub {X Y : Nat → Prop} {w w' : World} (h : Kq X w w') (hXY : ∀ k, Y k → X k) : Kq Y w w' := ⟨h.1, fun k o hY => h.2 k o (hXY k hY)⟩
theorem Sq.below {w w' : World} {f : Value} {α : Type} {enc : α → Array Value} {l : List α} {X : Nat → Prop} (h : Sq enc w f l X) (hb : Below w.heap.size w w') : Sq enc w' f l X := h.kq (Kq.of_below hb)
theorem Cons.sub {y : Value} {α : Type} {enc : α → Array Value} {l : List α} {X Y : Nat → Prop} {W1 : World} {J Jx : Nat → List α → World → Prop} (h : Cons enc y l X W1 J Jx) (hXY : ∀ k, Y k → X k) : Cons enc y l Y W1 J Jx :=
  ⟨h.yk, h.st, h.stx, h.start, fun s pre x Wp W hJ hs hp => (h.go s pre x Wp W hJ hs hp).mono (fun _ _ ⟨h1, h2, h3⟩ => ⟨h1, h2.sub (fun k hk => hk.imp (hXY k) id), h3⟩)⟩
/-- a range may say that more blocks are its own -/
theorem Sq.wide {w : World} {f : Value} {α : Type} {enc : α → Array Value} {l : List α} {X Y : Nat → Prop} (h : Sq enc w f l X) (hXY : ∀ k, X k → Y k) (hY : ∀ k, Y k → k < w.heap.size) : Sq enc w f l Y := by
  obtain ⟨gf, lb, e, h0, hX, h1⟩ := h
  exact ⟨gf, lb, e, h0, hY, fun W1 hW y J Jx hC => h1 W1 (hW.sub hXY) y J Jx (hC.sub hXY)⟩

theorem row_kept {W W' : World} {base : Nat} {e : TypeId} {size : Nat} {v : Value} {n : Nat} {xs : List Value} {row : Option Nat} (h : W.ownsRow base e size v n xs) (hg : W.grownBy W' row) (hr : ∀ r, row = some r → ∃ o : Obj, W.heap[r]? = some o ∧ o.isCells = false) : W'.ownsRow base e size v n xs := by
  refine ⟨h.1, ?_⟩
  rcases h.2 with hn | ⟨g, cap, cur, rfl, hb, hgg, rest⟩
  · exact .inl hn
  · exact .inr ⟨g, cap, cur, rfl, hb, (hg.block g (Array.getElem?_eq_some_iff.1 hgg).1 (fun e => by obtain ⟨o, ho, hc⟩ := hr g e.symm; rw [hgg] at ho; cases ho; cases hc)).trans hgg, rest⟩
theorem Ch.kept {X : Nat → Prop} {w W W' : World} {row : Option Nat} {B : Nat} (h : Ch X w W) (hB : w.heap.size ≤ B) (hg : W.grownBy W' row) (hr : ∀ r, row = some r → B ≤ r ∧ ∃ o : Obj, W.heap[r]? = some o ∧ o.isCells = false) : Ch X w W' :=
  ⟨hg.os.trans h.os, hg.tape.trans h.tape, hg.output.trans h.output, Nat.le_trans h.size hg.size, fun k hk hX => (hg.block k (Nat.lt_of_lt_of_le hk h.size) (fun e => by have := (hr k e.symm).1; omega)).trans (h.block k hk hX)⟩
theorem KeepsFrom.of_ch {B : Nat} {Y : Nat → Prop} {W W' : World} (h : Ch Y W W') (hY : ∀ k, Y k → ∃ o : Obj, W.heap[k]? = some o ∧ o.isCells = true) : KeepsFrom B W W' :=
  ⟨h.size, fun k o _ hk ho => h.obj hk (fun hX => by obtain ⟨o', h1, h2⟩ := hY k hX; rw [hk] at h1; cases h1; rw [ho] at h2; cases h2)⟩
theorem KeepsFrom.up {B B' : Nat} {W W' : World} (h : KeepsFrom B W W') (hB : B ≤ B') : KeepsFrom B' W W' := ⟨h.size, fun k o hk => h.same k o (by omega)⟩

theorem Sb.bx {n s : Nat} {W W' : World} (h : Sb n s W W') {b : Nat} {v : Value} {t : TypeId} (hb : Bx W b v t) (hn : b < n ∨ s ≤ b) : Bx W' b v t := by
  refine hb.ch h ?_
  rintro ⟨h1, h2 | ⟨o, h2, h3⟩⟩
  · omega
  · rw [show W.heap[b]? = _ from hb] at h2; cases h2; cases h3
theorem Sb.row {n s : Nat} {W W' : World} (h : Sb n s W W') {base : Nat} {e : TypeId} {size : Nat} {v : Value} {m : Nat} {xs : List Value} (hr : W.ownsRow base e size v m xs) (hs : s ≤ base) : W'.ownsRow base e size v m xs := by
  refine Ch.row h hr ?_
  rintro k hk ⟨h1, h2 | ⟨o, h2, h3⟩⟩
  · have := (row_obj hr hk).1; omega
  · obtain ⟨_, cur, h4⟩ := row_obj hr hk
    rw [h4] at h2; cases h2; cases h3
theorem Sb.below {n s : Nat} {W W' : World} (h : Sb n s W W') {B : Nat} {w : World} (hb : Below B w W) (hB : B ≤ w.heap.size) (hn : B ≤ n) : Below B w W' :=
  hb.trans (Ch.below h (Nat.le_trans hB hb.size) (fun k hk hx => by omega))
theorem Sb.size {n s : Nat} {W W' : World} (h : Sb n s W W') : W.heap.size ≤ W'.heap.size := Ch.size h


/-- 'for .. := range f { .. }' -/
theorem range_sqA {α : Type} {enc : α → Array Value} {g : Operand} {ps : Array Tmp} {assign body : Code} {Q : Exit → Act → World → Prop} {a : Act} {w : World} {n : Nat} {f : Value} {l : List α} {X : Nat → Prop}
    (hps : ∀ x, (enc x).size = ps.size) (hg : a.eval g = f) (hS : Sq enc w f l X)
    (I : Nat → List α → World → Prop) (Ix : Nat → Code → List α → World → Prop) (A : Nat → Nat → Nat → List α → α → Act → World → Prop)
    (hI : ∀ s pre W W', I s pre W → Sb w.heap.size s W W' → I s pre W') (hIx : ∀ s c pre W W', Ix s c pre W → Sb w.heap.size s W W' → Ix s c pre W')
    (hA : ∀ s z t pre x a' W W', A s z t pre x a' W → Sb w.heap.size s W W' → A s z t pre x a' W')
    (hstart : ∀ W0, Below w.heap.size w W0 → w.heap.size + 2 ≤ W0.heap.size → I W0.heap.size [] W0)
    (hassign : ∀ (m l' s : Nat) (pre : List α) (x : α) (Wp W : World) (K : Act → World → Prop), I s pre Wp → Sb w.heap.size s Wp W → pre ++ [x] <+: l → (∀ a' W', KeepsFrom w.heap.size W W' → Kq (fun k => X k ∨ (w.heap.size + 2 ≤ k ∧ k < s) ∨ (Wp.heap.size ≤ k ∧ k < W.heap.size)) W W' → A s Wp.heap.size W.heap.size pre x a' W' → K a' W') →
      assign.wpIn (Fence.wide.inRound l') m Tryz.prog (Exit.then K (fun _ _ _ => False)) { tmps := (ps.zip (enc x)).foldl (fun t (p, v) => t.setIfInBounds p v) a.tmps, defers := [] } W)
    (hbody : ∀ (m l' : Nat) (s z t : Nat) (pre : List α) (x : α) (a' : Act) (W : World), A s z t pre x a' W → pre ++ [x] <+: l → body.wpIn (Fence.wide.inRound l') m Tryz.prog (ownPostX w.heap.size (Kq (fun k => X k ∨ (w.heap.size + 2 ≤ k ∧ k < s) ∨ (z ≤ k ∧ k < t))) (I s) (Ix s) (pre ++ [x]) W) a' W)
    (hdone : ∀ (s : Nat) (W : World), I s l W → W.heap[w.heap.size]? = some (.deferred (some [])) → Q .normal { a with defers := { target := .collected w.heap.size, args := #[] } :: a.defers } W)
    (hstop : ∀ (s : Nat) (c : Code) (pre : List α) (W : World), Ix s c pre W → W.heap[w.heap.size]? = some (.deferred (some [])) → c.wpIn Fence.wide n Tryz.prog Q { a with defers := { target := .collected w.heap.size, args := #[] } :: a.defers } W) :
    (Code.rangeFunc g ps assign body).wpIn Fence.wide n Tryz.prog Q a w := by
  obtain ⟨gf, lb, rfl, h0, hX, h1⟩ := hS
  have og : ∀ {s : Nat} {W W' : World} {row : Option Nat}, W.grownBy W' row → (∀ r, row = some r → w.heap.size ≤ r ∧ ∃ o : Obj, W.heap[r]? = some o ∧ o.isCells = false) → Sb w.heap.size s W W' :=
    fun hgr hr => Ch.of_grown hgr (fun k e _ => ⟨(hr k e).1, .inr (hr k e).2⟩)
  refine range_law (α := α) (σ := Nat × Nat × Nat) (ps := ps) hg h0 enc hps (fun s pre W => ∃ Wp, I s.1 pre Wp ∧ Sb w.heap.size s.1 Wp W ∧ Wp.heap.size = s.2.1 ∧ W.heap.size = s.2.2) (fun s => I s.1) (fun s => Ix s.1) (fun s => Kq (fun k => X k ∨ (w.heap.size + 2 ≤ k ∧ k < s.1) ∨ (s.2.1 ≤ k ∧ k < s.2.2))) (fun _ pre x => pre ++ [x] <+: l) (fun _ W => ∃ s, I s l W) (fun c _ W => ∃ s pre, Ix s c pre W)
    (fun s => A s.1 s.2.1 s.2.2)
    (fun s pre A B row hi hgr hr => hI s.1 pre A B hi (og hgr hr)) (fun s c pre A B row hi hgr hr => hIx s.1 c pre A B hi (og hgr hr))
    (fun _ A B row ⟨s, hi⟩ hgr hr => ⟨s, hI s _ A B hi (og hgr hr)⟩) (fun c _ A B row ⟨s, pre, hi⟩ hgr hr => ⟨s, pre, hIx s c pre A B hi (og hgr hr)⟩)
    (fun s pre x a' _ A B row h hgr hr => hA s.1 s.2.1 s.2.2 pre x a' A B h (og hgr hr))
    (fun _ => Kq.trans) (fun _ W l o o' _ h ho => Kq.put W l o o' h ho)
    (fun m l' s pre x W K hi hnx hK => by obtain ⟨Wp, h1, h2, h3, h4⟩ := hi; rw [← h3, ← h4] at hK; exact hassign m l' s.1 pre x Wp W K h1 h2 hnx hK)
    (fun m l' s pre x a' W h hnx => hbody m l' s.1 s.2.1 s.2.2 pre x a' W h hnx) ?_ (fun _ W h hD => by obtain ⟨s, hi⟩ := h; exact hdone s W hi hD) (fun c _ W h hD => by obtain ⟨s, pre, hi⟩ := h; exact hstop s c pre W hi hD)
  intro W1 R0 R1 hR0 hR1 hb hs h2 hcap
  have hck : ∀ {s : Nat} {W W' : World}, Sb W1.heap.size s W W' → Sb w.heap.size s W W' := fun hc => hc.low hb.size
  refine (h1 W1 (Kq.of_below hb) _ (fun s pre W => I s pre W ∧ Two w.heap.size R0 W) (fun s pre W => ∃ c, Ix s c pre W ∧ Two w.heap.size (R1 c) W) ⟨.inl ⟨_, rfl⟩, ?_, ?_, ?_, ?_⟩).mono ?_
  · rintro s pre W W' ⟨hi, ht⟩ hc
    exact ⟨hI s pre W W' hi (hck hc), ht.ch hc (fun h => by omega) (fun h => by omega)⟩
  · rintro s pre W W' ⟨c, hi, ht⟩ hc
    exact ⟨c, hIx s c pre W W' hi (hck hc), ht.ch hc (fun h => by omega) (fun h => by omega)⟩
  · intro W0 hB
    exact ⟨hstart W0 (hb.trans (hB.mono hb.size)) (by have := hB.size; omega), ⟨(hB.block _ (by omega)).trans h2.1, (hB.block _ (by omega)).trans h2.2⟩⟩
  · rintro s pre x Wp W ⟨hi, ht⟩ hsb hp
    refine .inl ⟨_, rfl, (hcap (s, Wp.heap.size, W.heap.size) pre x W ⟨Wp, hi, hck hsb, rfl, rfl⟩ hp (ht.ch hsb (fun h => by omega) (fun h => by omega))).mono ?_⟩
    rintro e W' (⟨rfl, hk, hi', hq, ht'⟩ | ⟨rfl, hk, hq, c, hx, ht'⟩)
    · exact ⟨by rw [hs]; exact hk, by rw [hs]; exact hq, .inl ⟨rfl, hi', ht'⟩⟩
    · exact ⟨by rw [hs]; exact hk, by rw [hs]; exact hq, .inr ⟨rfl, c, hx, ht'⟩⟩
  · rintro e W2 ⟨hv, ⟨s, hi, ht⟩ | ⟨s, pre, c, hi, ht⟩⟩
    · exact ⟨hv, .inl ⟨[], ⟨s, hi⟩, ht⟩⟩
    · exact ⟨hv, .inr ⟨c, [], ⟨s, pre, hi⟩, ht⟩⟩

/-- 'for k, v := range f { .. }', k and v plain variables -/
theorem range_sq2 {α : Type} {e1 e2 : α → Value} {g : Operand} {p1 p2 : Tmp} {assign body : Code} {Q : Exit → Act → World → Prop} {a : Act} {w : World} {n : Nat} {f : Value} {l : List α} {X : Nat → Prop} (r1 r2 : Nat)
    (hg : a.eval g = f) (hS : Sq (fun x => #[e1 x, e2 x]) w f l X)
    (I : Nat → List α → World → Prop) (Ix : Nat → Code → List α → World → Prop)
    (hI : ∀ s pre W W', I s pre W → Sb w.heap.size s W W' → I s pre W') (hIx : ∀ s c pre W W', Ix s c pre W → Sb w.heap.size s W W' → Ix s c pre W')
    (hstart : ∀ W0, Below w.heap.size w W0 → w.heap.size + 2 ≤ W0.heap.size → I W0.heap.size [] W0)
    (hassign : ∀ (m l' : Nat) (x : α) (W : World) (K : Act → World → Prop), K { tmps := (((a.tmps.setIfInBounds p1 (e1 x)).setIfInBounds p2 (e2 x)).setIfInBounds r1 (e1 x)).setIfInBounds r2 (e2 x), defers := [] } W →
      assign.wpIn (Fence.wide.inRound l') m Tryz.prog (Exit.then K (fun _ _ _ => False)) { tmps := (a.tmps.setIfInBounds p1 (e1 x)).setIfInBounds p2 (e2 x), defers := [] } W)
    (hbody : ∀ (m l' : Nat) (s : Nat) (pre : List α) (x : α) (Wp W : World), I s pre Wp → Sb w.heap.size s Wp W → pre ++ [x] <+: l → body.wpIn (Fence.wide.inRound l') m Tryz.prog (ownPostX w.heap.size (Kq (fun k => X k ∨ (w.heap.size + 2 ≤ k ∧ k < s) ∨ (Wp.heap.size ≤ k ∧ k < W.heap.size))) (I s) (Ix s) (pre ++ [x]) W) { tmps := (((a.tmps.setIfInBounds p1 (e1 x)).setIfInBounds p2 (e2 x)).setIfInBounds r1 (e1 x)).setIfInBounds r2 (e2 x), defers := [] } W)
    (hdone : ∀ (s : Nat) (W : World), I s l W → W.heap[w.heap.size]? = some (.deferred (some [])) → Q .normal { a with defers := { target := .collected w.heap.size, args := #[] } :: a.defers } W)
    (hstop : ∀ (s : Nat) (c : Code) (pre : List α) (W : World), Ix s c pre W → W.heap[w.heap.size]? = some (.deferred (some [])) → c.wpIn Fence.wide n Tryz.prog Q { a with defers := { target := .collected w.heap.size, args := #[] } :: a.defers } W) :
    (Code.rangeFunc g #[p1, p2] assign body).wpIn Fence.wide n Tryz.prog Q a w := by
  refine range_sqA (fun _ => rfl) hg hS I Ix (fun s z t pre x a' W => (∃ Wp, I s pre Wp ∧ Sb w.heap.size s Wp W ∧ Wp.heap.size = z ∧ t ≤ W.heap.size) ∧ a' = { tmps := (((a.tmps.setIfInBounds p1 (e1 x)).setIfInBounds p2 (e2 x)).setIfInBounds r1 (e1 x)).setIfInBounds r2 (e2 x), defers := [] }) hI hIx
    ?_ hstart (fun m l' s pre x Wp W K hi hsb _ hK => ?_) (fun m l' s z t pre x a' W h hnx => ?_) hdone hstop
  · rintro s z t pre x a' W W' ⟨⟨Wp, h1, h2, h3, h4⟩, h5⟩ hs
    exact ⟨⟨Wp, h1, h2.trans hs, h3, Nat.le_trans h4 (Ch.size hs)⟩, h5⟩
  rotate_left
  · obtain ⟨⟨Wp, h1, h2, rfl, h4⟩, rfl⟩ := h
    refine wpIn_mono (hbody m l' s pre x Wp W h1 h2 hnx) ?_
    have up : ∀ W', Kq (fun k => X k ∨ (w.heap.size + 2 ≤ k ∧ k < s) ∨ (Wp.heap.size ≤ k ∧ k < W.heap.size)) W W' → Kq (fun k => X k ∨ (w.heap.size + 2 ≤ k ∧ k < s) ∨ (Wp.heap.size ≤ k ∧ k < t)) W W' := fun W' hk => hk.sub (fun k hk => hk.imp id (fun h => h.imp id (fun h => ⟨h.1, Nat.lt_of_lt_of_le h.2 h4⟩)))
    rintro e a3 W3 hp
    cases e with
    | normal => exact ⟨hp.1, up _ hp.2.1, hp.2.2⟩
    | ret => exact ⟨hp.1, up _ hp.2.1, hp.2.2⟩
    | exit id => exact ⟨hp.1, up _ hp.2.1, hp.2.2⟩
    | goto t => exact ⟨hp.1, up _ hp.2.1, hp.2.2⟩
    | panic ch => exact hp.elim
    | outgrown => exact hp.elim
  have e : ((#[p1, p2] : Array Tmp).zip #[e1 x, e2 x]).foldl (fun t (p, v) => t.setIfInBounds p v) a.tmps = (a.tmps.setIfInBounds p1 (e1 x)).setIfInBounds p2 (e2 x) := by simp [Array.zip]
  rw [e]
  exact hassign m l' x W K (hK _ _ (KeepsFrom.refl _ _) (Kq.refl _ _) ⟨⟨Wp, hi, hsb, rfl, Nat.le_refl _⟩, rfl⟩)

theorem kq_cell {X : Nat → Prop} {W W' : World} (h : Kq X W W') {p : Addr} {v : Value} (hX : X p.block) (hp : W.cell? p = some v) : W'.cell? p = some v := by
  obtain ⟨o, ho, hc⟩ := cells_of_cell hp
  have := h.2 _ _ hX ho hc
  simp only [World.cell?, ho] at hp
  simp only [World.cell?, this]
  exact hp
theorem kq_bx {X : Nat → Prop} {W W' : World} (h : Kq X W W') {b : Nat} {v : Value} {t : TypeId} (hX : X b) (hp : Bx W b v t) : Bx W' b v t := h.2 _ _ hX hp rfl
theorem kq_row {X : Nat → Prop} {W W' : World} (h : Kq X W W') {base : Nat} {e : TypeId} {size : Nat} {v : Value} {n : Nat} {xs : List Value} (hr : W.ownsRow base e size v n xs) (hX : ∀ k, v.ownBlock = some k → X k) : W'.ownsRow base e size v n xs := by
  refine ⟨hr.1, ?_⟩
  rcases hr.2 with hn | ⟨g, cap, cur, rfl, hb, hgg, rest⟩
  · exact .inl hn
  · exact .inr ⟨g, cap, cur, rfl, hb, h.2 _ _ (hX g rfl) hgg rfl, rest⟩
theorem Kq.alloc {X : Nat → Prop} {W W' : World} (h : Kq X W W') (o : Obj) : Kq X W (W'.alloc o) := h.trans ⟨by simp, fun k p _ hk _ => (Below.heap_alloc W' o k (Array.getElem?_eq_some_iff.1 hk).1).trans hk⟩
end Go.Proofs.YthmfcloecmnfnaaGreat

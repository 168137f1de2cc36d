/-
  Ranges as values: what it says that a value is a range over a list, whoever ranges over it; and the statement 'for k, v := range s' for whatever body.
-/
import Derived.Test.YtlhijbgdccejbaaRRange
namespace Go.Proofs.Ytlhijbgdccejbaa
open Go.RowKit Go.Shelf Go.Sort
open Go.Lib hiding intOf

/-- a function that may be called -/
def Ent0 (gf : Nat) : Prop := ∀ args w, (callFunc gf args).run Try.prog w = .ok (.enter gf args) w
/-- what a range is handed: a loop's yield, or a function -/
def Yk (y : Value) : Prop := (∃ l, y = .func (.yield l) #[] #[]) ∨ ∃ gf caps, y = .func (.func gf) #[] caps ∧ Ent0 gf
/-- a call of it -/
def Yd (y : Value) (args : Array Value) (W : World) (R : Ending → World → Prop) : Prop :=
  (∃ l, y = .func (.yield l) #[] #[] ∧ Yld Try.prog l args W R) ∨ ∃ gf caps, y = .func (.func gf) #[] caps ∧ Ent0 gf ∧ Calls Try.prog gf (args ++ caps) W R
theorem Yd.mono {y : Value} {args : Array Value} {W : World} {R R' : Ending → World → Prop} (h : Yd y args W R) (hr : ∀ e w, R e w → R' e w) : Yd y args W R' := by
  rcases h with ⟨l, e, h⟩ | ⟨gf, caps, e, h0, h⟩
  · exact .inl ⟨l, e, h.mono hr⟩
  · exact .inr ⟨gf, caps, e, h0, h.mono hr⟩
theorem Yd.yield {l : Nat} {args : Array Value} {W : World} {R : Ending → World → Prop} (h : Yd (.func (.yield l) #[] #[]) args W R) : Yld Try.prog l args W R := by
  rcases h with ⟨l', e, h⟩ | ⟨gf, caps, e, h0, h⟩
  · cases e; exact h
  · cases e
theorem Yd.func {gf : Nat} {caps args : Array Value} {W : World} {R : Ending → World → Prop} (h : Yd (.func (.func gf) #[] caps) args W R) : Calls Try.prog gf (args ++ caps) W R := by
  rcases h with ⟨l', e, h⟩ | ⟨gf, caps, e, h0, h⟩
  · cases e
  · cases e; exact h
/-- what is told -/
def encm (x : Ent) : Array Value := #[.string x.1, .int .i64 x.2]

/-- what a range, or the book-keeping of its loop, may have turned -/
def Sb (n s : Nat) (W W' : World) : Prop := Ch (fun k => n ≤ k ∧ (k < s ∨ ∃ o : Obj, W.heap[k]? = some o ∧ o.isCells = false)) W W'
theorem Sb.of_ch {n s : Nat} {W W' : World} (h : Ch (fun k => n ≤ k ∧ k < s) W W') : Sb n s W W' := h.mono (fun _ _ hk => ⟨hk.1, .inl hk.2⟩)
theorem Sb.low {n m s : Nat} {W W' : World} (h : Sb n s W W') (hm : m ≤ n) : Sb m s W W' := Ch.mono h (fun _ _ hk => ⟨Nat.le_trans hm hk.1, hk.2⟩)
/-- what the one who ranges owes: J holds from the start on (s: memory's size when all is ready), whatever the range does with blocks of its own; each call keeps the range's blocks, and goes on with J, or leaves with Jx -/
structure Cons (y : Value) (l : List Ent) (X : Nat → Prop) (W1 : World) (J Jx : Nat → List Ent → World → Prop) : Prop where
  yk : Yk y
  st : ∀ s pre W W', J s pre W → Sb W1.heap.size s W W' → J s pre W'
  stx : ∀ s pre W W', Jx s pre W → Sb W1.heap.size s W W' → Jx s pre W'
  start : ∀ W0, Below W1.heap.size W1 W0 → J W0.heap.size [] W0
  go : ∀ s pre x W, J s pre W → pre ++ [x] <+: l → Yd y (encm x) W fun e W' => KeepsFrom W1.heap.size W W' ∧ Kq (fun k => X k ∨ (W1.heap.size ≤ k ∧ k < s)) W W' ∧ ((e = .returned (.bool true) ∧ J s (pre ++ [x]) W') ∨ (e = .returned (.bool false) ∧ Jx s (pre ++ [x]) W'))

/-- a call of a range comes to its end -/
def Runs (gf : Nat) (lb : Array Value) (l : List Ent) (X : Nat → Prop) (W1 : World) : Prop :=
  ∀ y J Jx, Cons y l X W1 J Jx → Calls Try.prog gf (#[y] ++ lb) W1 fun e W2 => (∃ v, e = .returned v) ∧ ((∃ s, J s l W2) ∨ ∃ s pre, Jx s pre W2)

/-- f is a range over l; what it is lies in the blocks of X -/
def Sq (w : World) (f : Value) (l : List Ent) (X : Nat → Prop) : Prop :=
  ∃ gf lb, f = .func (.func gf) #[] lb ∧ Ent0 gf ∧ (∀ k, X k → k < w.heap.size) ∧ ∀ W1, Kq X w W1 → Runs gf lb l X W1
theorem Sq.kq {w w' : World} {f : Value} {l : List Ent} {X : Nat → Prop} (h : Sq w f l X) (hk : Kq X w w') : Sq w' f l X := by
  obtain ⟨gf, lb, e, h0, hX, h1⟩ := h
  exact ⟨gf, lb, e, h0, fun k hx => Nat.lt_of_lt_of_le (hX k hx) hk.1, fun W1 hW => h1 W1 (hk.trans hW)⟩
theorem Kq.of_below {X : Nat → Prop} {w w' : World} (h : Below w.heap.size w w') : Kq X w w' := ⟨h.size, fun k _ _ hk _ => (h.block k (Array.getElem?_eq_some_iff.1 hk).1).trans hk⟩
theorem Kq.sub {X Y : Nat → Prop} {w w' : World} (h : Kq X w w') (hXY : ∀ k, Y k → X k) : Kq Y w w' := ⟨h.1, fun k o hY => h.2 k o (hXY k hY)⟩
theorem Sq.below {w w' : World} {f : Value} {l : List Ent} {X : Nat → Prop} (h : Sq w f l X) (hb : Below w.heap.size w w') : Sq w' f l X := h.kq (Kq.of_below hb)
theorem Cons.sub {y : Value} {l : List Ent} {X Y : Nat → Prop} {W1 : World} {J Jx : Nat → List Ent → World → Prop} (h : Cons y l X W1 J Jx) (hXY : ∀ k, Y k → X k) : Cons y l Y W1 J Jx :=
  ⟨h.yk, h.st, h.stx, h.start, fun s pre x W hJ hp => (h.go s pre x W hJ hp).mono (fun _ _ ⟨h1, h2, h3⟩ => ⟨h1, h2.sub (fun k hk => hk.imp (hXY k) id), h3⟩)⟩
/-- a range may say that more blocks are its own -/
theorem Sq.wide {w : World} {f : Value} {l : List Ent} {X Y : Nat → Prop} (h : Sq w f l X) (hXY : ∀ k, X k → Y k) (hY : ∀ k, Y k → k < w.heap.size) : Sq w f l Y := by
  obtain ⟨gf, lb, e, h0, hX, h1⟩ := h
  exact ⟨gf, lb, e, h0, hY, fun W1 hW y J Jx hC => h1 W1 (hW.sub hXY) y J Jx (hC.sub hXY)⟩

theorem row_kept {W W' : World} {base : Nat} {e : TypeId} {size : Nat} {v : Value} {n : Nat} {xs : List Value} {row : Option Nat} (h : W.ownsRow base e size v n xs) (hg : W.grownBy W' row) (hr : ∀ r, row = some r → ∃ o : Obj, W.heap[r]? = some o ∧ o.isCells = false) : W'.ownsRow base e size v n xs := by
  refine ⟨h.1, ?_⟩
  rcases h.2 with hn | ⟨g, cap, cur, rfl, hb, hgg, rest⟩
  · exact .inl hn
  · exact .inr ⟨g, cap, cur, rfl, hb, (hg.block g (Array.getElem?_eq_some_iff.1 hgg).1 (fun e => by obtain ⟨o, ho, hc⟩ := hr g e.symm; rw [hgg] at ho; cases ho; cases hc)).trans hgg, rest⟩
theorem Ch.kept {X : Nat → Prop} {w W W' : World} {row : Option Nat} {B : Nat} (h : Ch X w W) (hB : w.heap.size ≤ B) (hg : W.grownBy W' row) (hr : ∀ r, row = some r → B ≤ r ∧ ∃ o : Obj, W.heap[r]? = some o ∧ o.isCells = false) : Ch X w W' :=
  ⟨hg.os.trans h.os, hg.tape.trans h.tape, hg.output.trans h.output, Nat.le_trans h.size hg.size, fun k hk hX => (hg.block k (Nat.lt_of_lt_of_le hk h.size) (fun e => by have := (hr k e.symm).1; omega)).trans (h.block k hk hX)⟩
theorem KeepsFrom.of_ch {B : Nat} {Y : Nat → Prop} {W W' : World} (h : Ch Y W W') (hY : ∀ k, Y k → ∃ o : Obj, W.heap[k]? = some o ∧ o.isCells = true) : KeepsFrom B W W' :=
  ⟨h.size, fun k o _ hk ho => h.obj hk (fun hX => by obtain ⟨o', h1, h2⟩ := hY k hX; rw [hk] at h1; cases h1; rw [ho] at h2; cases h2)⟩
theorem KeepsFrom.up {B B' : Nat} {W W' : World} (h : KeepsFrom B W W') (hB : B ≤ B') : KeepsFrom B' W W' := ⟨h.size, fun k o hk => h.same k o (by omega)⟩

theorem Sb.bx {n s : Nat} {W W' : World} (h : Sb n s W W') {b : Nat} {v : Value} {t : TypeId} (hb : Bx W b v t) (hn : b < n ∨ s ≤ b) : Bx W' b v t := by
  refine hb.ch h ?_
  rintro ⟨h1, h2 | ⟨o, h2, h3⟩⟩
  · omega
  · rw [show W.heap[b]? = _ from hb] at h2; cases h2; cases h3
theorem Sb.row {n s : Nat} {W W' : World} (h : Sb n s W W') {base : Nat} {e : TypeId} {size : Nat} {v : Value} {m : Nat} {xs : List Value} (hr : W.ownsRow base e size v m xs) (hs : s ≤ base) : W'.ownsRow base e size v m xs := by
  refine Ch.row h hr ?_
  rintro k hk ⟨h1, h2 | ⟨o, h2, h3⟩⟩
  · have := (row_obj hr hk).1; omega
  · obtain ⟨_, cur, h4⟩ := row_obj hr hk
    rw [h4] at h2; cases h2; cases h3
theorem Sb.below {n s : Nat} {W W' : World} (h : Sb n s W W') {B : Nat} {w : World} (hb : Below B w W) (hB : B ≤ w.heap.size) (hn : B ≤ n) : Below B w W' :=
  hb.trans (Ch.below h (Nat.le_trans hB hb.size) (fun k hk hx => by omega))
theorem Sb.size {n s : Nat} {W W' : World} (h : Sb n s W W') : W.heap.size ≤ W'.heap.size := Ch.size h

theorem zip2 (p1 p2 : Tmp) (x : Ent) (t : Array Value) : ((#[p1, p2] : Array Tmp).zip (encm x)).foldl (fun t (p, v) => t.setIfInBounds p v) t = (t.setIfInBounds p1 (.string x.1)).setIfInBounds p2 (.int .i64 x.2) := by
  simp [encm, Array.zip]

/-- 'for k, v := range f { .. }' -/
theorem range_sq {g : Operand} {p1 p2 : Tmp} {assign body : Code} {Q : Exit → Act → World → Prop} {a : Act} {w : World} {n : Nat} {f : Value} {l : List Ent} {X : Nat → Prop} (r1 r2 : Nat)
    (hg : a.eval g = f) (hS : Sq w f l X)
    (I : Nat → List Ent → World → Prop) (Ix : Nat → Code → List Ent → World → Prop)
    (hI : ∀ s pre W W', I s pre W → Sb w.heap.size s W W' → I s pre W') (hIx : ∀ s c pre W W', Ix s c pre W → Sb w.heap.size s W W' → Ix s c pre W')
    (hstart : ∀ W0, Below w.heap.size w W0 → w.heap.size + 2 ≤ W0.heap.size → I W0.heap.size [] W0)
    (hassign : ∀ (m l' : Nat) (x : Ent) (W : World) (K : Act → World → Prop), K { tmps := (((a.tmps.setIfInBounds p1 (.string x.1)).setIfInBounds p2 (.int .i64 x.2)).setIfInBounds r1 (.string x.1)).setIfInBounds r2 (.int .i64 x.2), defers := [] } W →
      assign.wpIn (Fence.wide.inRound l') m Try.prog (Exit.then K (fun _ _ _ => False)) { tmps := (a.tmps.setIfInBounds p1 (.string x.1)).setIfInBounds p2 (.int .i64 x.2), defers := [] } W)
    (hbody : ∀ (m l' : Nat) (s : Nat) (pre : List Ent) (x : Ent) (W : World), I s pre W → pre ++ [x] <+: l → body.wpIn (Fence.wide.inRound l') m Try.prog (ownPostX w.heap.size (Kq (fun k => X k ∨ (w.heap.size + 2 ≤ k ∧ k < s))) (I s) (Ix s) (pre ++ [x]) W) { tmps := (((a.tmps.setIfInBounds p1 (.string x.1)).setIfInBounds p2 (.int .i64 x.2)).setIfInBounds r1 (.string x.1)).setIfInBounds r2 (.int .i64 x.2), defers := [] } W)
    (hdone : ∀ (s : Nat) (W : World), I s l W → W.heap[w.heap.size]? = some (.deferred (some [])) → Q .normal { a with defers := { target := .collected w.heap.size, args := #[] } :: a.defers } W)
    (hstop : ∀ (s : Nat) (c : Code) (pre : List Ent) (W : World), Ix s c pre W → W.heap[w.heap.size]? = some (.deferred (some [])) → c.wpIn Fence.wide n Try.prog Q { a with defers := { target := .collected w.heap.size, args := #[] } :: a.defers } W) :
    (Code.rangeFunc g #[p1, p2] assign body).wpIn Fence.wide n Try.prog Q a w := by
  obtain ⟨gf, lb, rfl, h0, hX, h1⟩ := hS
  have og : ∀ {s : Nat} {W W' : World} {row : Option Nat}, W.grownBy W' row → (∀ r, row = some r → w.heap.size ≤ r ∧ ∃ o : Obj, W.heap[r]? = some o ∧ o.isCells = false) → Sb w.heap.size s W W' :=
    fun hgr hr => Ch.of_grown hgr (fun k e _ => ⟨(hr k e).1, .inr (hr k e).2⟩)
  refine range_law (α := Ent) (σ := Nat) (ps := #[p1, p2]) hg h0 encm (fun _ => rfl) I Ix (fun s => Kq (fun k => X k ∨ (w.heap.size + 2 ≤ k ∧ k < s))) (fun _ pre x => pre ++ [x] <+: l) (fun _ W => ∃ s, I s l W) (fun c _ W => ∃ s pre, Ix s c pre W)
    (fun s pre x a' W => I s pre W ∧ a' = { tmps := (((a.tmps.setIfInBounds p1 (.string x.1)).setIfInBounds p2 (.int .i64 x.2)).setIfInBounds r1 (.string x.1)).setIfInBounds r2 (.int .i64 x.2), defers := [] })
    (fun s pre A B row hi hgr hr => hI s pre A B hi (og hgr hr)) (fun s c pre A B row hi hgr hr => hIx s c pre A B hi (og hgr hr))
    (fun _ A B row ⟨s, hi⟩ hgr hr => ⟨s, hI s _ A B hi (og hgr hr)⟩) (fun c _ A B row ⟨s, pre, hi⟩ hgr hr => ⟨s, pre, hIx s c pre A B hi (og hgr hr)⟩)
    (fun s pre x a' _ A B row h hgr hr => ⟨hI s pre A B h.1 (og hgr hr), h.2⟩)
    (fun _ => Kq.trans) (fun _ W l o o' _ h ho => Kq.put W l o o' h ho)
    (fun m l' s pre x W K hi _ hK => by rw [zip2]; exact hassign m l' x W K (hK _ _ (KeepsFrom.refl _ _) (Kq.refl _ _) ⟨hi, rfl⟩))
    (fun m l' s pre x a' W h hnx => by obtain ⟨hi, rfl⟩ := h; exact hbody m l' s pre x W hi hnx) ?_ (fun _ W h hD => by obtain ⟨s, hi⟩ := h; exact hdone s W hi hD) (fun c _ W h hD => by obtain ⟨s, pre, hi⟩ := h; exact hstop s c pre W hi hD)
  intro W1 R0 R1 hR0 hR1 hb hs h2 hcap
  have hck : ∀ {s : Nat} {W W' : World}, Sb W1.heap.size s W W' → Sb w.heap.size s W W' := fun hc => hc.low hb.size
  refine (h1 W1 (Kq.of_below hb) _ (fun s pre W => I s pre W ∧ Two w.heap.size R0 W) (fun s pre W => ∃ c, Ix s c pre W ∧ Two w.heap.size (R1 c) W) ⟨.inl ⟨_, rfl⟩, ?_, ?_, ?_, ?_⟩).mono ?_
  · rintro s pre W W' ⟨hi, ht⟩ hc
    exact ⟨hI s pre W W' hi (hck hc), ht.ch hc (fun h => by omega) (fun h => by omega)⟩
  · rintro s pre W W' ⟨c, hi, ht⟩ hc
    exact ⟨c, hIx s c pre W W' hi (hck hc), ht.ch hc (fun h => by omega) (fun h => by omega)⟩
  · intro W0 hB
    exact ⟨hstart W0 (hb.trans (hB.mono hb.size)) (by have := hB.size; omega), ⟨(hB.block _ (by omega)).trans h2.1, (hB.block _ (by omega)).trans h2.2⟩⟩
  · rintro s pre x W ⟨hi, ht⟩ hp
    refine .inl ⟨_, rfl, (hcap s pre x W hi hp ht).mono ?_⟩
    rintro e W' (⟨rfl, hk, hi', hq, ht'⟩ | ⟨rfl, hk, hq, c, hx, ht'⟩)
    · exact ⟨by rw [hs]; exact hk, by rw [hs]; exact hq, .inl ⟨rfl, hi', ht'⟩⟩
    · exact ⟨by rw [hs]; exact hk, by rw [hs]; exact hq, .inr ⟨rfl, c, hx, ht'⟩⟩
  · rintro e W2 ⟨hv, ⟨s, hi, ht⟩ | ⟨s, pre, c, hi, ht⟩⟩
    · exact ⟨hv, .inl ⟨[], ⟨s, hi⟩, ht⟩⟩
    · exact ⟨hv, .inr ⟨c, [], ⟨s, pre, hi⟩, ht⟩⟩

theorem kq_cell {X : Nat → Prop} {W W' : World} (h : Kq X W W') {p : Addr} {v : Value} (hX : X p.block) (hp : W.cell? p = some v) : W'.cell? p = some v := by
  obtain ⟨o, ho, hc⟩ := cells_of_cell hp
  have := h.2 _ _ hX ho hc
  simp only [World.cell?, ho] at hp
  simp only [World.cell?, this]
  exact hp
theorem kq_bx {X : Nat → Prop} {W W' : World} (h : Kq X W W') {b : Nat} {v : Value} {t : TypeId} (hX : X b) (hp : Bx W b v t) : Bx W' b v t := h.2 _ _ hX hp rfl
theorem kq_row {X : Nat → Prop} {W W' : World} (h : Kq X W W') {base : Nat} {e : TypeId} {size : Nat} {v : Value} {n : Nat} {xs : List Value} (hr : W.ownsRow base e size v n xs) (hX : ∀ k, v.ownBlock = some k → X k) : W'.ownsRow base e size v n xs := by
  refine ⟨hr.1, ?_⟩
  rcases hr.2 with hn | ⟨g, cap, cur, rfl, hb, hgg, rest⟩
  · exact .inl hn
  · exact .inr ⟨g, cap, cur, rfl, hb, h.2 _ _ (hX g rfl) hgg rfl, rest⟩
theorem Kq.alloc {X : Nat → Prop} {W W' : World} (h : Kq X W W') (o : Obj) : Kq X W (W'.alloc o) := h.trans ⟨by simp, fun k p _ hk _ => (Below.heap_alloc W' o k (Array.getElem?_eq_some_iff.1 hk).1).trans hk⟩
end Go.Proofs.Ytlhijbgdccejbaa

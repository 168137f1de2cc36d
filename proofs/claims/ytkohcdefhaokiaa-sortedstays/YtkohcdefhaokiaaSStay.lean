/-
  A range over a map while acts are done: what was lent stays, the map goes on with cells of its own.
-/
import Derived.Test.YtkohcdefhaokiaaSPlay
import Derived.Maps.AppendAt
import Derived.Maps.OwnIn
namespace Go.Proofs.Ytkohcdefhaokiaa
open Go.RowKit Go.Shelf Go.Lib Go.Sort

theorem rf_kept {W W' : World} {rb base : Nat} {es : List Ent} {kv vv : Value} {row : Option Nat} (h : Rf W rb base es kv vv) (hg : W.grownBy W' row) (hr : ∀ r, row = some r → ∃ o : Obj, W.heap[r]? = some o ∧ o.isCells = false) : Rf W' rb base es kv vv :=
  ⟨(hg.block rb h.lt (fun e => by obtain ⟨o, ho, hc⟩ := hr rb e.symm; rw [h.hd] at ho; cases ho; cases hc)).trans h.hd, h.al, row_kept h.kv.1 hg hr, row_kept h.kv.2 hg hr⟩
theorem jn_kept {W W' : World} {mb rb base : Nat} {es : List Ent} {sv : Value} {q : Option Nat} {c : Nat} {kv vv : Value} {row : Option Nat} (h : Jn W mb rb base es sv q c kv vv) (hg : W.grownBy W' row) (hr : ∀ r, row = some r → ∃ o : Obj, W.heap[r]? = some o ∧ o.isCells = false) : Jn W' mb rb base es sv q c kv vv :=
  ⟨mp_kept h.m hg hr, rf_kept h.r hg hr, h.sh⟩
theorem bx_rf {W : World} {rb base : Nat} {es : List Ent} {kv vv : Value} (h : Rf W rb base es kv vv) {b : Nat} {v : Value} {t : TypeId} (hb : Bx W b v t) : b ≠ rb := by
  rintro rfl
  have e1 : W.heap[b]? = _ := hb
  rw [h.hd] at e1
  injection e1 with e1
  injection e1 with e2 e3
  cases e2
theorem bx_mp {W : World} {mb : Nat} {es : List Ent} {sv : Value} {q : Option Nat} {c : Nat} (h : Mp W mb es sv q c) {b : Nat} {v : Value} {t : TypeId} (hb : Bx W b v t) : b ≠ mb := by
  rintro rfl
  have e1 : W.heap[b]? = _ := hb
  rw [h.hd] at e1
  injection e1 with e1
  injection e1 with e2 e3
  cases e2
theorem Mp.qbx {W : World} {mb : Nat} {es : List Ent} {sv : Value} {q : Option Nat} {c : Nat} (h : Mp W mb es sv q c) {b : Nat} (hb : q = some b) : Bx W b (.int .i64 (c : Int)) 3 := by
  rcases h.lent with ⟨h0, _⟩ | ⟨b', e, hx⟩
  · rw [h0] at hb; cases hb
  · rw [hb] at e; cases e; exact hx
theorem bx_xd {W W' : World} {mb rb base c : Nat} {es es' : List Ent} {sv kr vr : Value} {q : Option Nat} (hM : Mp W mb es sv q c) (hR : Rf W rb base es' kr vr) (hc : Ch (Xd mb rb c sv) W W') {b : Nat} {v : Value} {t : TypeId} (hb : Bx W b v t) (ht : 69 ≠ t) : Bx W' b v t := by
  refine hb.ch hc ?_
  rintro (e | e | ⟨_, e⟩)
  · exact bx_rf hR hb e
  · exact bx_mp hM hb e
  · exact row_box hM.row hb ht e rfl

/-- what stands in boxes while the law goes on: the acts, the map, the document's -/
def Env (b4 b8 b9 mb rb : Nat) (mv : Value) (W : World) : Prop := Bx W b4 mv 22 ∧ Bx W b8 (.pointer (some ⟨mb, 0, none⟩)) 24 ∧ Bx W b9 (.pointer (some ⟨rb, 0, none⟩)) 26
theorem Env.xd {W W' : World} {b4 b8 b9 mb rb base c : Nat} {mv : Value} {es es' : List Ent} {sv kr vr : Value} {q : Option Nat} (h : Env b4 b8 b9 mb rb mv W) (hM : Mp W mb es sv q c) (hR : Rf W rb base es' kr vr) (hc : Ch (Xd mb rb c sv) W W') : Env b4 b8 b9 mb rb mv W' :=
  ⟨bx_xd hM hR hc h.1 (by decide), bx_xd hM hR hc h.2.1 (by decide), bx_xd hM hR hc h.2.2 (by decide)⟩
theorem Env.below {W W' : World} {b4 b8 b9 mb rb : Nat} {mv : Value} (h : Env b4 b8 b9 mb rb mv W) (hb : Below W.heap.size W W') : Env b4 b8 b9 mb rb mv W' :=
  ⟨h.1.below hb h.1.lt, h.2.1.below hb h.2.1.lt, h.2.2.below hb h.2.2.lt⟩
theorem Env.kept {W W' : World} {b4 b8 b9 mb rb : Nat} {mv : Value} {row : Option Nat} (h : Env b4 b8 b9 mb rb mv W) (hg : W.grownBy W' row) (hr : ∀ r, row = some r → ∃ o : Obj, W.heap[r]? = some o ∧ o.isCells = false) : Env b4 b8 b9 mb rb mv W' :=
  ⟨bx_kept h.1 hg hr, bx_kept h.2.1 hg hr, bx_kept h.2.2 hg hr⟩

/-- the map and the document's, and where their blocks lie -/
structure Ps (w0 : World) (mb rb : Nat) (es : List Ent) (sv : Value) (q : Option Nat) (kr vr : Value) (w : World) : Prop where
  jn : Jn w mb rb w0.heap.size es sv q 0 kr vr
  bl : Below w0.heap.size w0 w
  hs : ∀ g, sv.ownBlock = some g → w0.heap.size ≤ g
  hq : ∀ b, q = some b → w0.heap.size ≤ b
  hm : w0.heap.size ≤ mb
  hr : w0.heap.size ≤ rb
  dq : Dq q vr
theorem Ps.below {w0 w w' : World} {mb rb : Nat} {es : List Ent} {sv : Value} {q : Option Nat} {kr vr : Value} (h : Ps w0 mb rb es sv q kr vr w) (hb : Below w.heap.size w w') : Ps w0 mb rb es sv q kr vr w' :=
  ⟨h.jn.below hb, h.bl.trans (hb.mono h.bl.size), h.hs, h.hq, h.hm, h.hr, h.dq⟩
theorem Ps.drew {w0 w : World} {mb rb : Nat} {es : List Ent} {sv : Value} {q : Option Nat} {kr vr : Value} (h : Ps w0 mb rb es sv q kr vr w) : Ps w0 mb rb es sv q kr vr w.drew :=
  ⟨jn_drew h.jn, h.bl.drew, h.hs, h.hq, h.hm, h.hr, h.dq⟩
theorem does_ps {w0 w : World} {mb rb : Nat} {es : List Ent} {sv : Value} {q : Option Nat} {kr vr : Value} (h : Ps w0 mb rb es sv q kr vr w) (kind : Int) (k : ByteArray) (v : Int) (hk : k.size < 4611686018427387904) (hn : es.length ≤ 8796093021999) :
    Calls Try.prog 11 #[.pointer (some ⟨mb, 0, none⟩), .pointer (some ⟨rb, 0, none⟩), .agg #[.int .i64 kind, .string k, .int .i64 v]] w fun e w' => e = .returned (.bool true) ∧ (∃ sv' q' kr' vr', Ps w0 mb rb (act kind k v es) sv' q' kr' vr' w') ∧ Ch (Xd mb rb 0 sv) w w' := by
  refine (does_any h.jn (by decide) kind k v hk (by omega) h.bl.size).mono ?_
  rintro e w' ⟨rfl, sv', q', c', kr', vr', hJ, hC, hT, hF, hD⟩
  have hc : c' = 0 := by rcases hT with ⟨_, _, h⟩ | ⟨h, _⟩ <;> exact h
  subst hc
  have hz := h.bl.size
  refine ⟨rfl, ⟨sv', q', kr', vr', hJ, h.bl.trans (hC.below hz ?_), ?_, ?_, h.hm, h.hr, hD h.dq⟩, hC⟩
  · rintro k hk (rfl | rfl | ⟨_, e⟩)
    · have := h.hr; omega
    · have := h.hm; omega
    · have := h.hs k e; omega
  · intro g hg
    rcases hT with ⟨rfl, _⟩ | ⟨_, h2, _⟩
    · exact h.hs g hg
    · rcases h2 g hg with ⟨_, e⟩ | e
      · exact h.hs g e
      · omega
  · intro g hg
    rcases hT with ⟨_, rfl, _⟩ | ⟨_, _, h2⟩
    · exact h.hq g hg
    · rcases h2 g hg with ⟨_, e⟩ | e
      · exact h.hq g e
      · omega

/-- what a range keeps while acts are done: the boxes of keys and values, the count of the lent cells, the map as it has become -/
structure SI (V : World) (b13 b14 mb rb base : Nat) (sv0 : Value) (lb N0 : Nat) (pre : List Ent) (kv vv : Value) (es : List Ent) (sv : Value) (q : Option Nat) (c : Nat) (kr vr : Value) (W : World) : Prop where
  k : Bx W b13 kv 27
  v : Bx W b14 vv 28
  l : Bx W lb (.int .i64 1) 3
  rows : KV W N0 kv vv pre
  jn : Jn W mb rb base es sv q c kr vr
  ph : (sv = sv0 ∧ q = some lb ∧ c = 1) ∨ (c = 0 ∧ (∀ g, sv.ownBlock = some g → N0 ≤ g) ∧ ∀ b, q = some b → N0 ≤ b)
  dk : ∀ g, kv.ownBlock = some g → kr.ownBlock ≠ some g
  dv : ∀ g, vv.ownBlock = some g → vr.ownBlock ≠ some g ∧ q ≠ some g
  dq : Dq q vr
  dl : vr.ownBlock ≠ some lb
  ch : Ch (fun b => b = mb ∨ b = rb ∨ b = b13 ∨ b = b14 ∨ b = lb) V W
  lt : lb < N0
  le : N0 ≤ W.heap.size
  vn : V.heap.size + 2 ≤ N0
  bx : mb < V.heap.size ∧ rb < V.heap.size ∧ b13 < V.heap.size ∧ b14 < V.heap.size
  s0 : ∀ g, sv0.ownBlock = some g → g < V.heap.size ∧ g ≠ mb ∧ g ≠ rb ∧ g ≠ b13 ∧ g ≠ b14

theorem SI.kept {V : World} {b13 b14 mb rb base : Nat} {sv0 : Value} {lb N0 : Nat} {pre : List Ent} {kv vv : Value} {es : List Ent} {sv : Value} {q : Option Nat} {c : Nat} {kr vr : Value} {W W' : World} {row : Option Nat} (h : SI V b13 b14 mb rb base sv0 lb N0 pre kv vv es sv q c kr vr W) (hg : W.grownBy W' row) (hr : ∀ r, row = some r → V.heap.size ≤ r ∧ ∃ o : Obj, W.heap[r]? = some o ∧ o.isCells = false) : SI V b13 b14 mb rb base sv0 lb N0 pre kv vv es sv q c kr vr W' :=
  have hr' := fun r e => (hr r e).2
  ⟨bx_kept h.k hg hr', bx_kept h.v hg hr', bx_kept h.l hg hr', ⟨row_kept h.rows.1 hg hr', row_kept h.rows.2 hg hr'⟩, jn_kept h.jn hg hr', h.ph, h.dk, h.dv, h.dq, h.dl, h.ch.kept (Nat.le_refl _) hg hr, h.lt, Nat.le_trans h.le hg.size, h.vn, h.bx, h.s0⟩

/-- which cells a range needs kept -/
def cbOf (V : World) (sv0 : Value) : Nat := sv0.ownBlock.getD V.heap.size

/-- a step of a round that turns only what a round may turn -/
theorem SI.kq {V : World} {b13 b14 mb rb base : Nat} {sv0 : Value} {lb N0 : Nat} {pre : List Ent} {kv vv : Value} {es : List Ent} {sv : Value} {q : Option Nat} {c : Nat} {kr vr : Value} {W W' : World} (h : SI V b13 b14 mb rb base sv0 lb N0 pre kv vv es sv q c kr vr W) {Y : Nat → Prop} (hc : Ch Y W W') (hY : ∀ k, Y k → k = mb ∨ k = rb ∨ k = b13 ∨ k = b14 ∨ N0 ≤ k) (hO : ∀ k, Y k → ∃ o : Obj, W.heap[k]? = some o ∧ o.isCells = true) :
    KeepsFrom V.heap.size W W' ∧ Kq (Xp (V.heap.size + 2) (cbOf V sv0) (lb, N0)) W W' ∧ Ch (fun b => b = mb ∨ b = rb ∨ b = b13 ∨ b = b14 ∨ b = lb) V W' := by
  have hbx := h.bx
  have hvn := h.vn
  have hlt := h.lt
  refine ⟨KeepsFrom.of_ch hc hO, Kq.of_ch hc ?_, ?_⟩
  · intro k hX hk
    rcases hX with e | e | ⟨e1, e2⟩
    · unfold cbOf at e
      cases hs : sv0.ownBlock with
      | none =>
        rw [hs] at e
        simp at e
        rcases hY k hk with e' | e' | e' | e' | e' <;> omega
      | some g =>
        rw [hs] at e
        simp at e
        subst e
        obtain ⟨a1, a2, a3, a4, a5⟩ := h.s0 k hs
        rcases hY k hk with e' | e' | e' | e' | e'
        · exact a2 e'
        · exact a3 e'
        · exact a4 e'
        · exact a5 e'
        · omega
    · have e : k = lb := e
      subst e
      rcases hY k hk with e' | e' | e' | e' | e'
      · exact bx_mp h.jn.m h.l e'
      · exact bx_rf h.jn.r h.l e'
      · exact h.l.ne h.k (by decide) e'
      · exact h.l.ne h.v (by decide) e'
      · omega
    · have e2 : k < N0 := e2
      rcases hY k hk with e' | e' | e' | e' | e' <;> omega
  · refine ⟨hc.os.trans h.ch.os, hc.tape.trans h.ch.tape, hc.output.trans h.ch.output, Nat.le_trans h.ch.size hc.size, fun k hk hX => (hc.block k (Nat.lt_of_lt_of_le hk h.ch.size) ?_).trans (h.ch.block k hk hX)⟩
    intro hk'
    rcases hY k hk' with e' | e' | e' | e' | e'
    · exact hX (.inl e')
    · exact hX (.inr (.inl e'))
    · exact hX (.inr (.inr (.inl e')))
    · exact hX (.inr (.inr (.inr (.inl e'))))
    · omega

/-- behind the two appends of a round -/
theorem SI.app {V : World} {b13 b14 mb rb base : Nat} {sv0 : Value} {lb N0 : Nat} {pre pre' : List Ent} {kv vv rk rv : Value} {es : List Ent} {sv : Value} {q : Option Nat} {c : Nat} {kr vr : Value} {W W' : World} (h : SI V b13 b14 mb rb base sv0 lb N0 pre kv vv es sv q c kr vr W)
    (D : Rd2 W lb b13 b14 N0 1 kv vv rk rv rk rv pre' pre' W') (hk : ∀ g, rk.ownBlock = some g → kv.ownBlock = some g ∨ W.heap.size ≤ g) (hv : ∀ g, rv.ownBlock = some g → vv.ownBlock = some g ∨ W.heap.size ≤ g) :
    SI V b13 b14 mb rb base sv0 lb N0 pre' rk rv es sv q c kr vr W' ∧ KeepsFrom V.heap.size W W' ∧ Kq (Xp (V.heap.size + 2) (cbOf V sv0) (lb, N0)) W W' := by
  have hRY : ∀ k, RY b13 b14 kv vv k → k = mb ∨ k = rb ∨ k = b13 ∨ k = b14 ∨ N0 ≤ k := by
    rintro k (e | e | e | e)
    · exact .inr (.inr (.inl e))
    · exact .inr (.inr (.inr (.inl e)))
    · exact .inr (.inr (.inr (.inr (row_obj h.rows.1 e).1)))
    · exact .inr (.inr (.inr (.inr (row_obj h.rows.2 e).1)))
  have hO : ∀ k, RY b13 b14 kv vv k → ∃ o : Obj, W.heap[k]? = some o ∧ o.isCells = true := by
    rintro k (rfl | rfl | e | e)
    · exact ⟨_, h.k, rfl⟩
    · exact ⟨_, h.v, rfl⟩
    · obtain ⟨_, cur, hx⟩ := row_obj h.rows.1 e; exact ⟨_, hx, rfl⟩
    · obtain ⟨_, cur, hx⟩ := row_obj h.rows.2 e; exact ⟨_, hx, rfl⟩
  obtain ⟨k1, k2, k3⟩ := h.kq D.ch hRY hO
  have nmb : ¬ RY b13 b14 kv vv mb := by
    rintro (e | e | e | e)
    · exact bx_mp h.jn.m h.k e.symm
    · exact bx_mp h.jn.m h.v e.symm
    · obtain ⟨_, cur, hx⟩ := row_obj h.rows.1 e
      rw [h.jn.m.hd] at hx; injection hx with hx; injection hx with _ hx; cases hx
    · obtain ⟨_, cur, hx⟩ := row_obj h.rows.2 e
      rw [h.jn.m.hd] at hx; injection hx with hx; injection hx with _ hx; cases hx
  have nrb : ¬ RY b13 b14 kv vv rb := by
    rintro (e | e | e | e)
    · exact bx_rf h.jn.r h.k e.symm
    · exact bx_rf h.jn.r h.v e.symm
    · obtain ⟨_, cur, hx⟩ := row_obj h.rows.1 e
      rw [h.jn.r.hd] at hx; injection hx with hx; injection hx with _ hx; cases hx
    · obtain ⟨_, cur, hx⟩ := row_obj h.rows.2 e
      rw [h.jn.r.hd] at hx; injection hx with hx; injection hx with _ hx; cases hx
  have nsv : ∀ g, sv.ownBlock = some g → ¬ RY b13 b14 kv vv g := by
    rintro g hg (e | e | e | e)
    · exact row_box h.jn.m.row h.k (by decide) hg e
    · exact row_box h.jn.m.row h.v (by decide) hg e
    · exact row_ne h.jn.m.row h.rows.1 (by decide) hg e rfl
    · exact row_ne h.jn.m.row h.rows.2 (by decide) hg e rfl
  have nq : ∀ b, q = some b → ¬ RY b13 b14 kv vv b := by
    rintro b hb (e | e | e | e)
    · exact (h.jn.m.qbx hb).ne h.k (by decide) e
    · exact (h.jn.m.qbx hb).ne h.v (by decide) e
    · exact row_box h.rows.1 (h.jn.m.qbx hb) (by decide) e rfl
    · exact (h.dv b e).2 hb
  have nr : ∀ g, kr.ownBlock = some g ∨ vr.ownBlock = some g → ¬ RY b13 b14 kv vv g := by
    rintro g (hg | hg) (e | e | e | e)
    · exact row_box h.jn.r.kv.1 h.k (by decide) hg e
    · exact row_box h.jn.r.kv.1 h.v (by decide) hg e
    · exact h.dk g e hg
    · exact row_ne h.jn.r.kv.1 h.rows.2 (by decide) hg e rfl
    · exact row_box h.jn.r.kv.2 h.k (by decide) hg e
    · exact row_box h.jn.r.kv.2 h.v (by decide) hg e
    · exact row_ne h.jn.r.kv.2 h.rows.1 (by decide) hg e rfl
    · exact (h.dv g e).1 hg
  refine ⟨⟨D.k, D.v, D.m7, ⟨D.kr, D.vr⟩, ⟨h.jn.m.ch D.ch nmb nsv nq, h.jn.r.ch D.ch nrb nr, h.jn.sh⟩, h.ph, ?_, ?_, h.dq, h.dl, k3, h.lt, D.le, h.vn, h.bx, h.s0⟩, k1, k2⟩
  · intro g e e'
    rcases hk g e with e1 | e1
    · exact h.dk g e1 e'
    · have := (h.jn.r.kv.1.lt g e').2; omega
  · intro g e
    rcases hv g e with e1 | e1
    · exact h.dv g e1
    · refine ⟨fun e' => ?_, fun e' => ?_⟩
      · have := (h.jn.r.kv.2.lt g e').2; omega
      · have := h.jn.m.q_lt e'; omega

/-- behind an act of a round -/
theorem SI.act {V : World} {b13 b14 mb rb base : Nat} {sv0 : Value} {lb N0 : Nat} {pre : List Ent} {kv vv : Value} {es es' : List Ent} {sv : Value} {q : Option Nat} {c : Nat} {kr vr : Value} {W W' : World} (h : SI V b13 b14 mb rb base sv0 lb N0 pre kv vv es sv q c kr vr W) (hE : DEnd W mb rb base es' sv q c kr vr W') :
    (∃ sv' q' c' kr' vr', SI V b13 b14 mb rb base sv0 lb N0 pre kv vv es' sv' q' c' kr' vr' W') ∧ KeepsFrom V.heap.size W W' ∧ Kq (Xp (V.heap.size + 2) (cbOf V sv0) (lb, N0)) W W' := by
  obtain ⟨sv', q', c', kr', vr', hJ, hC, hT, hF, hD⟩ := hE
  have hXd : ∀ k, Xd mb rb c sv k → k = mb ∨ k = rb ∨ k = b13 ∨ k = b14 ∨ N0 ≤ k := by
    rintro k (e | e | ⟨hc, e⟩)
    · exact .inr (.inl e)
    · exact .inl e
    · rcases h.ph with ⟨_, _, h1⟩ | ⟨_, h2, _⟩
      · omega
      · exact .inr (.inr (.inr (.inr (h2 k e))))
  have hO : ∀ k, Xd mb rb c sv k → ∃ o : Obj, W.heap[k]? = some o ∧ o.isCells = true := by
    rintro k (rfl | rfl | ⟨_, e⟩)
    · exact ⟨_, h.jn.r.hd, rfl⟩
    · exact ⟨_, h.jn.m.hd, rfl⟩
    · obtain ⟨_, cur, hx⟩ := row_obj h.jn.m.row e; exact ⟨_, hx, rfl⟩
  obtain ⟨k1, k2, k3⟩ := h.kq hC hXd hO
  have hle := h.le
  have hlt := h.lt
  refine ⟨⟨sv', q', c', kr', vr', bx_xd h.jn.m h.jn.r hC h.k (by decide), bx_xd h.jn.m h.jn.r hC h.v (by decide), bx_xd h.jn.m h.jn.r hC h.l (by decide), ?_, hJ, ?_, ?_, ?_, hD h.dq, ?_, k3, h.lt, Nat.le_trans h.le hC.size, h.vn, h.bx, h.s0⟩, k1, k2⟩
  · refine ⟨hC.row h.rows.1 ?_, hC.row h.rows.2 ?_⟩
    · rintro g hg (e | e | ⟨_, e⟩)
      · obtain ⟨_, cur, hx⟩ := row_obj h.rows.1 hg
        rw [e, h.jn.r.hd] at hx; injection hx with hx; injection hx with _ hx; cases hx
      · obtain ⟨_, cur, hx⟩ := row_obj h.rows.1 hg
        rw [e, h.jn.m.hd] at hx; injection hx with hx; injection hx with _ hx; cases hx
      · exact row_ne h.jn.m.row h.rows.1 (by decide) e hg rfl
    · rintro g hg (e | e | ⟨_, e⟩)
      · obtain ⟨_, cur, hx⟩ := row_obj h.rows.2 hg
        rw [e, h.jn.r.hd] at hx; injection hx with hx; injection hx with _ hx; cases hx
      · obtain ⟨_, cur, hx⟩ := row_obj h.rows.2 hg
        rw [e, h.jn.m.hd] at hx; injection hx with hx; injection hx with _ hx; cases hx
      · exact row_ne h.jn.m.row h.rows.2 (by decide) e hg rfl
  · rcases hT with ⟨rfl, rfl, rfl⟩ | ⟨h0, h1, h2⟩
    · exact h.ph
    · refine .inr ⟨h0, fun g hg => ?_, fun b hb => ?_⟩
      · rcases h1 g hg with ⟨hc, e⟩ | e
        · rcases h.ph with ⟨_, _, h3⟩ | ⟨_, h3, _⟩
          · omega
          · exact h3 g e
        · omega
      · rcases h2 b hb with ⟨hc, e⟩ | e
        · rcases h.ph with ⟨_, _, h3⟩ | ⟨_, _, h3⟩
          · omega
          · exact h3 b e
        · omega
  · intro g e e'
    have hg := (h.rows.1.lt g e).2
    rcases hF with ⟨rfl, _⟩ | hF
    · exact h.dk g e e'
    · have := hF g (.inl e'); omega
  · intro g e
    have hg := (h.rows.2.lt g e).2
    refine ⟨fun e' => ?_, fun e' => ?_⟩
    · rcases hF with ⟨_, rfl⟩ | hF
      · exact (h.dv g e).1 e'
      · have := hF g (.inr e'); omega
    · rcases hT with ⟨_, rfl, _⟩ | ⟨_, _, h2⟩
      · exact (h.dv g e).2 e'
      · rcases h2 g e' with ⟨_, e1⟩ | e1
        · exact (h.dv g e).2 e1
        · omega
  · intro e'
    rcases hF with ⟨_, rfl⟩ | hF
    · exact h.dl e'
    · have := hF lb (.inr e'); omega

/-- where a range begins -/
theorem SI.start {w0 V W0 : World} {b13 b14 mb rb : Nat} {es : List Ent} {sv : Value} {q : Option Nat} {kr vr : Value} {lb : Nat} (hP : Ps w0 mb rb es sv q kr vr V) (h13 : Bx V b13 (.slice none 0 0) 27) (h14 : Bx V b14 (.slice none 0 0) 28)
    (hM : Mp W0 mb es sv (some lb) (0 + 1)) (hch : Ch (fun b => b = mb ∨ q = some b) V W0) (hlq : q = some lb ∨ (q = none ∧ V.heap.size + 2 ≤ lb)) (hs0 : V.heap.size + 2 ≤ W0.heap.size) :
    SI V b13 b14 mb rb w0.heap.size sv lb W0.heap.size [] (.slice none 0 0) (.slice none 0 0) es sv (some lb) 1 kr vr W0 := by
  have hm := hP.jn.m
  have hr := hP.jn.r
  have nb : ∀ {b : Nat} {v : Value} {t : TypeId}, Bx V b v t → t ≠ 3 → ¬ (b = mb ∨ q = some b) := by
    rintro b v t hb ht (e | e)
    · exact bx_mp hm hb e
    · exact (hm.notBx hb ht).2 e
  have nr : ∀ g, kr.ownBlock = some g ∨ vr.ownBlock = some g → ¬ (g = mb ∨ q = some g) := by
    rintro g (hg | hg) (e | e)
    · obtain ⟨_, cur, hx⟩ := row_obj hr.kv.1 hg
      rw [e, hm.hd] at hx; injection hx with hx; injection hx with _ hx; cases hx
    · exact row_box hr.kv.1 (hm.qbx e) (by decide) hg rfl
    · obtain ⟨_, cur, hx⟩ := row_obj hr.kv.2 hg
      rw [e, hm.hd] at hx; injection hx with hx; injection hx with _ hx; cases hx
    · exact hP.dq g e hg
  have hrf := hm.rf hr
  have hl := hM.qbx rfl
  have nvl : vr.ownBlock ≠ some lb := by
    intro e
    rcases hlq with e1 | ⟨_, e1⟩
    · exact hP.dq lb e1 e
    · have := (hr.kv.2.lt lb e).2; omega
  refine ⟨h13.ch hch (nb h13 (by decide)), h14.ch hch (nb h14 (by decide)), by simpa using hl, ⟨World.ownsRow_nil _ _ _ _, World.ownsRow_nil _ _ _ _⟩, ⟨hM, hr.ch hch ?_ nr, hP.jn.sh⟩, .inl ⟨rfl, rfl, rfl⟩, fun g e => (by cases e), fun g e => (by cases e), fun b hb e => (by cases hb; exact nvl e), nvl, ?_, hl.lt, Nat.le_refl _, hs0, ⟨hm.lt, hr.lt, h13.lt, h14.lt⟩, ?_⟩
  · rintro (e | e)
    · exact hrf.1 e.symm
    · exact hrf.2.2 rb e rfl
  · refine ⟨hch.os, hch.tape, hch.output, hch.size, fun k hk hX => hch.block k hk ?_⟩
    rintro (e | e)
    · exact hX (.inl e)
    · rcases hlq with e1 | ⟨e1, _⟩
      · rw [e1] at e; cases e; exact hX (.inr (.inr (.inr (.inr rfl))))
      · rw [e1] at e; cases e
  · intro g hg
    refine ⟨hm.own_lt hg, fun e => hm.apart (by rw [hg, e]), hrf.2.1 g hg, row_box hm.row h13 (by decide) hg, row_box hm.row h14 (by decide) hg⟩

/-- where a range ends -/
theorem SI.fin {w0 V W W2 : World} {b13 b14 mb rb : Nat} {es0 : List Ent} {sv0 : Value} {q0 : Option Nat} {kr0 vr0 : Value} {lb N0 : Nat} {pre : List Ent} {kv vv : Value} {es : List Ent} {sv : Value} {q : Option Nat} {c : Nat} {kr vr : Value} (hP : Ps w0 mb rb es0 sv0 q0 kr0 vr0 V) (hb13 : w0.heap.size ≤ b13) (hb14 : w0.heap.size ≤ b14)
    (h : SI V b13 b14 mb rb w0.heap.size sv0 lb N0 pre kv vv es sv q c kr vr W) (hlq : q0 = some lb ∨ (q0 = none ∧ V.heap.size + 2 ≤ lb)) (hb : Back (V.heap.size + 2) 0 lb W W2) :
    Bx W2 b13 kv 27 ∧ Bx W2 b14 vv 28 ∧ KV W2 w0.heap.size kv vv pre ∧ Ps w0 mb rb es sv q kr vr W2 ∧ Ch (fun b => b = mb ∨ b = rb ∨ b = b13 ∨ b = b14) V W2 := by
  obtain ⟨hch, hl⟩ := hb
  have nX : ∀ {k : Nat} {o : Obj}, W.heap[k]? = some o → o.isCells = true → k ≠ lb → ¬ (k = lb ∨ (V.heap.size + 2 ≤ k ∧ ∃ o, W.heap[k]? = some o ∧ o.isCells = false)) := by
    rintro k o hk ho hne (e | ⟨_, o', h1, h2⟩)
    · exact hne e
    · rw [hk] at h1; cases h1; rw [ho] at h2; cases h2
  have hlt := h.lt
  have hvn := h.vn
  have hwV := hP.bl.size
  have e13 := h.k.ch hch (nX h.k rfl (fun e => h.l.ne h.k (by decide) e.symm))
  have e14 := h.v.ch hch (nX h.v rfl (fun e => h.l.ne h.v (by decide) e.symm))
  have rowk : ∀ {base : Nat} {e : TypeId} {size : Nat} {v : Value} {n : Nat} {xs : List Value}, W.ownsRow base e size v n xs → v.ownBlock ≠ some lb → W2.ownsRow base e size v n xs := fun {base e size v n xs} hr hne => hch.row hr (fun k hk => by
    obtain ⟨h1, cur, h2⟩ := row_obj hr hk
    exact nX h2 rfl (fun e => hne (by rw [hk, e])))
  have hmb : mb ≠ lb := fun e => bx_mp h.jn.m h.l e.symm
  have hrb : rb ≠ lb := fun e => bx_rf h.jn.r h.l e.symm
  have hkl : kv.ownBlock ≠ some lb := fun e => by have := (row_obj h.rows.1 e).1; omega
  have hvl : vv.ownBlock ≠ some lb := fun e => by have := (row_obj h.rows.2 e).1; omega
  have hkr : kr.ownBlock ≠ some lb := fun e => row_box h.jn.r.kv.1 h.l (by decide) e rfl
  have hsl : sv.ownBlock ≠ some lb := fun e => row_box h.jn.m.row h.l (by decide) e rfl
  have hR2 : Rf W2 rb w0.heap.size es kr vr := ⟨hch.obj h.jn.r.hd (nX h.jn.r.hd rfl hrb), h.jn.r.al, rowk h.jn.r.kv.1 hkr, rowk h.jn.r.kv.2 h.dl⟩
  have hM2 : Mp W2 mb es sv q 0 := by
    refine ⟨hch.obj h.jn.m.hd (nX h.jn.m.hd rfl hmb), rowk h.jn.m.row hsl, h.jn.m.rise, ?_⟩
    rcases h.ph with ⟨_, rfl, _⟩ | ⟨rfl, _, h3⟩
    · exact .inr ⟨lb, rfl, hl⟩
    · cases q with
      | none => exact .inl ⟨rfl, rfl⟩
      | some b => exact .inr ⟨b, rfl, (h.jn.m.qbx rfl).ch hch (nX (h.jn.m.qbx rfl) rfl (fun e => by have := h3 b rfl; omega))⟩
  have hCh : Ch (fun b => b = mb ∨ b = rb ∨ b = b13 ∨ b = b14) V W2 := by
    refine ⟨hch.os.trans h.ch.os, hch.tape.trans h.ch.tape, hch.output.trans h.ch.output, Nat.le_trans h.ch.size hch.size, fun k hk hX => ?_⟩
    by_cases e : k = lb
    · subst e
      rcases hlq with rfl | ⟨_, h0⟩
      · exact (show W2.heap[k]? = _ from hl).trans (show V.heap[k]? = _ from hP.jn.m.qbx rfl).symm
      · omega
    · refine (hch.block k (Nat.lt_of_lt_of_le hk h.ch.size) ?_).trans (h.ch.block k hk ?_)
      · rintro (e' | ⟨e', _⟩)
        · exact e e'
        · omega
      · rintro (e' | e' | e' | e' | e')
        · exact hX (.inl e')
        · exact hX (.inr (.inl e'))
        · exact hX (.inr (.inr (.inl e')))
        · exact hX (.inr (.inr (.inr e')))
        · exact e e'
  refine ⟨e13, e14, ⟨row_low (rowk h.rows.1 hkl) (by omega), row_low (rowk h.rows.2 hvl) (by omega)⟩, ⟨⟨hM2, hR2, h.jn.sh⟩, hP.bl.trans (hCh.below hwV ?_), ?_, ?_, hP.hm, hP.hr, h.dq⟩, hCh⟩
  · have := hP.hm
    have := hP.hr
    rintro k hk (e | e | e | e) <;> omega
  · intro g hg
    rcases h.ph with ⟨rfl, _, _⟩ | ⟨_, h2, _⟩
    · exact hP.hs g hg
    · have := h2 g hg; omega
  · intro g hg
    rcases h.ph with ⟨_, rfl, _⟩ | ⟨_, _, h2⟩
    · cases hg
      rcases hlq with e | ⟨_, e⟩
      · exact hP.hq _ e
      · omega
    · have := h2 g hg; omega
theorem Ps.kept {w0 V W W' : World} {mb rb : Nat} {es : List Ent} {sv : Value} {q : Option Nat} {kr vr : Value} {row : Option Nat} (h : Ps w0 mb rb es sv q kr vr W) (hV : w0.heap.size ≤ V.heap.size) (hg : W.grownBy W' row) (hr : ∀ r, row = some r → V.heap.size ≤ r ∧ ∃ o : Obj, W.heap[r]? = some o ∧ o.isCells = false) : Ps w0 mb rb es sv q kr vr W' :=
  ⟨jn_kept h.jn hg (fun r e => (hr r e).2), h.bl.grown hg h.bl.size (fun k hk => Nat.le_trans hV (hr k hk).1), h.hs, h.hq, h.hm, h.hr, h.dq⟩
/-- nothing that was there before the law is touched -/
theorem SI.bel {w0 V W : World} {b13 b14 mb rb : Nat} {es0 : List Ent} {sv0 : Value} {q0 : Option Nat} {kr0 vr0 : Value} {lb N0 : Nat} {pre : List Ent} {kv vv : Value} {es : List Ent} {sv : Value} {q : Option Nat} {c : Nat} {kr vr : Value} (h : SI V b13 b14 mb rb w0.heap.size sv0 lb N0 pre kv vv es sv q c kr vr W) (hP : Ps w0 mb rb es0 sv0 q0 kr0 vr0 V) (hb13 : w0.heap.size ≤ b13) (hb14 : w0.heap.size ≤ b14) (hlq : q0 = some lb ∨ (q0 = none ∧ V.heap.size + 2 ≤ lb)) : Below w0.heap.size w0 W := by
  have hz := hP.bl.size
  refine hP.bl.trans (h.ch.below hz ?_)
  have h1 := hP.hm
  have h2 := hP.hr
  rintro k hk (e | e | e | e | e)
  · omega
  · omega
  · omega
  · omega
  · subst e
    rcases hlq with e | ⟨_, e⟩
    · have := hP.hq k e; omega
    · omega
theorem bx_ry {V : World} {b13 b14 mb rb base : Nat} {sv0 : Value} {lb N0 : Nat} {pre : List Ent} {kv vv : Value} {es : List Ent} {sv : Value} {q : Option Nat} {c : Nat} {kr vr : Value} {W W' : World} (h : SI V b13 b14 mb rb base sv0 lb N0 pre kv vv es sv q c kr vr W) (hc : Ch (RY b13 b14 kv vv) W W') {b : Nat} {u : Value} {t : TypeId} (hb : Bx W b u t) (h1 : t ≠ 27) (h2 : t ≠ 28) (h3 : t ≠ 9) (h4 : t ≠ 3) : Bx W' b u t := by
  refine hb.ch hc ?_
  rintro (e | e | e | e)
  · exact hb.ne h.k h1 e
  · exact hb.ne h.v h2 e
  · exact row_box h.rows.1 hb h3.symm e rfl
  · exact row_box h.rows.2 hb h4.symm e rfl
theorem Env.ry {V : World} {b4 b8 b9 : Nat} {mv : Value} {b13 b14 mb rb base : Nat} {sv0 : Value} {lb N0 : Nat} {pre : List Ent} {kv vv : Value} {es : List Ent} {sv : Value} {q : Option Nat} {c : Nat} {kr vr : Value} {W W' : World} (hE : Env b4 b8 b9 mb rb mv W) (h : SI V b13 b14 mb rb base sv0 lb N0 pre kv vv es sv q c kr vr W) (hc : Ch (RY b13 b14 kv vv) W W') : Env b4 b8 b9 mb rb mv W' :=
  ⟨bx_ry h hc hE.1 (by decide) (by decide) (by decide) (by decide), bx_ry h hc hE.2.1 (by decide) (by decide) (by decide) (by decide), bx_ry h hc hE.2.2 (by decide) (by decide) (by decide) (by decide)⟩
theorem at_case {v v' : Value} {n N : Nat} (h : v'.ownBlock = v.ownBlock ∨ v'.ownBlock = some n) (hN : N ≤ n) : ∀ g, v'.ownBlock = some g → v.ownBlock = some g ∨ N ≤ g := by
  intro g e
  rcases h with e1 | e1
  · exact .inl (e1.symm.trans e)
  · rw [e1] at e; cases e; exact .inr hN
/-- what a step of a round between its two halves begins with -/
theorem SI.half {V : World} {b13 b14 mb rb base : Nat} {sv0 : Value} {lb N0 : Nat} {pre : List Ent} {kv vv : Value} {es : List Ent} {sv : Value} {q : Option Nat} {c : Nat} {kr vr : Value} {W : World} (h : SI V b13 b14 mb rb base sv0 lb N0 pre kv vv es sv q c kr vr W) : Rd2 W lb b13 b14 N0 1 kv vv kv vv kv vv pre pre W :=
  ⟨h.k, h.v, h.l, h.rows.1, h.rows.2, Ch.refl _ _, h.le, h.lt⟩
/-- what a range keeps from round to round -/
def Ii (w0 V : World) (b13 b14 mb rb b8 b9 n : Nat) (sv0 mv : Value) (sq : Option Nat) (s : Nat × Nat) (pre : List Ent) (W : World) : Prop :=
  ∃ kv vv es' sv' q' c' kr' vr', SI V b13 b14 mb rb w0.heap.size sv0 s.1 s.2 pre kv vv es' sv' q' c' kr' vr' W ∧ es'.length ≤ n + pre.length ∧ Env w0.heap.size b8 b9 mb rb mv W ∧ (sq = some s.1 ∨ (sq = none ∧ V.heap.size + 2 ≤ s.1))
/-- what a range leaves -/
def Ee (w0 V : World) (b13 b14 mb rb n : Nat) (told : List Ent) (W : World) : Prop :=
  ∃ kv vv es2 sv2 q2 kr2 vr2, Bx W b13 kv 27 ∧ Bx W b14 vv 28 ∧ KV W w0.heap.size kv vv told ∧ Ps w0 mb rb es2 sv2 q2 kr2 vr2 W ∧ Ch (fun b => b = mb ∨ b = rb ∨ b = b13 ∨ b = b14) V W ∧ es2.length ≤ n
theorem SI.one {V : World} {b13 b14 mb rb base : Nat} {sv0 : Value} {lb N0 : Nat} {pre : List Ent} {kv vv : Value} {es : List Ent} {sv : Value} {q : Option Nat} {c : Nat} {kr vr : Value} {W : World} (h : SI V b13 b14 mb rb base sv0 lb N0 pre kv vv es sv q c kr vr W) : c < 4611686018427387904 := by
  rcases h.ph with ⟨_, _, h⟩ | ⟨h, _⟩ <;> omega
theorem Ii.kept {w0 V : World} {b13 b14 mb rb b8 b9 n : Nat} {sv0 mv : Value} {sq : Option Nat} (s : Nat × Nat) : OwnFrom V.heap.size (Ii w0 V b13 b14 mb rb b8 b9 n sv0 mv sq s) := by
  rintro pre A B row ⟨kv, vv, es', sv', q', c', kr', vr', h1, h2, h4, h5⟩ hg hr
  exact ⟨kv, vv, es', sv', q', c', kr', vr', h1.kept hg hr, h2, h4.kept hg (fun r e => (hr r e).2), h5⟩
theorem Ee.kept {w0 V : World} {b13 b14 mb rb n : Nat} {told : List Ent} (hV : w0.heap.size ≤ V.heap.size) : OwnFrom V.heap.size (fun (_ : Unit) W => Ee w0 V b13 b14 mb rb n told W) := by
  rintro _ A B row ⟨kv, vv, es2, sv2, q2, kr2, vr2, h1, h2, h3, h4, h5, h6⟩ hg hr
  have hr' := fun r e => (hr r e).2
  exact ⟨kv, vv, es2, sv2, q2, kr2, vr2, bx_kept h1 hg hr', bx_kept h2 hg hr', ⟨row_kept h3.1 hg hr', row_kept h3.2 hg hr'⟩, h4.kept hV hg hr, h5.kept (Nat.le_refl _) hg hr, h6⟩
theorem Ii.start {w0 V W0 : World} {b13 b14 mb rb b8 b9 lb : Nat} {es : List Ent} {sv mv kr vr : Value} {sq : Option Nat} (hP : Ps w0 mb rb es sv sq kr vr V) (hE : Env w0.heap.size b8 b9 mb rb mv V) (h13 : Bx V b13 (.slice none 0 0) 27) (h14 : Bx V b14 (.slice none 0 0) 28)
    (hM : Mp W0 mb es sv (some lb) (0 + 1)) (hch : Ch (fun b => b = mb ∨ sq = some b) V W0) (hlq : sq = some lb ∨ (sq = none ∧ V.heap.size + 2 ≤ lb)) (hs0 : V.heap.size + 2 ≤ W0.heap.size) : Ii w0 V b13 b14 mb rb b8 b9 es.length sv mv sq (lb, W0.heap.size) [] W0 := by
  have hm := hP.jn.m
  have nb : ∀ {b : Nat} {v : Value} {t : TypeId}, Bx V b v t → t ≠ 3 → ¬ (b = mb ∨ sq = some b) := by
    rintro b v t hb ht (e | e)
    · exact bx_mp hm hb e
    · exact (hm.notBx hb ht).2 e
  exact ⟨_, _, _, _, _, _, _, _, SI.start hP h13 h14 hM hch hlq hs0, by simp, ⟨hE.1.ch hch (nb hE.1 (by decide)), hE.2.1.ch hch (nb hE.2.1 (by decide)), hE.2.2.ch hch (nb hE.2.2 (by decide))⟩, hlq⟩
theorem Ii.out {w0 V A W2 : World} {b13 b14 mb rb b8 b9 n : Nat} {es told : List Ent} {sv mv kr vr : Value} {sq : Option Nat} {s : Nat × Nat} (hP : Ps w0 mb rb es sv sq kr vr V) (hb13 : w0.heap.size ≤ b13) (hb14 : w0.heap.size ≤ b14) (h : Ii w0 V b13 b14 mb rb b8 b9 n sv mv sq s told A) (hb : Back (V.heap.size + 2) 0 s.1 A W2) : Ee w0 V b13 b14 mb rb (n + told.length) told W2 := by
  obtain ⟨kv, vv, es', sv', q', c', kr', vr', h1, h2, _, h5⟩ := h
  obtain ⟨a1, a2, a3, a4, a5⟩ := SI.fin hP hb13 hb14 h1 h5 hb
  exact ⟨kv, vv, es', sv', q', kr', vr', a1, a2, a3, a4, a5, h2⟩
theorem SI.drew {V : World} {b13 b14 mb rb base : Nat} {sv0 : Value} {lb N0 : Nat} {pre : List Ent} {kv vv : Value} {es : List Ent} {sv : Value} {q : Option Nat} {c : Nat} {kr vr : Value} {W : World} (h : SI V b13 b14 mb rb base sv0 lb N0 pre kv vv es sv q c kr vr W) : SI V b13 b14 mb rb base sv0 lb N0 pre kv vv es sv q c kr vr W.drew :=
  ⟨h.k, h.v, h.l, h.rows, jn_drew h.jn, h.ph, h.dk, h.dv, h.dq, h.dl, h.ch.drew, h.lt, h.le, h.vn, h.bx, h.s0⟩
theorem keeps_drew {B : Nat} {W W' : World} (h : KeepsFrom B W W') : KeepsFrom B W W'.drew := ⟨h.size, h.same⟩
theorem kq_drew {X : Nat → Prop} {W W' : World} (h : Kq X W W') : Kq X W W'.drew := h
/-- what an act of a round leaves, for the round -/
theorem SI.done {w0 V W0 W W' : World} {b8 b9 n : Nat} {mv : Value} {sq : Option Nat} {b13 b14 mb rb : Nat} {sv0 : Value} {s : Nat × Nat} {pre : List Ent} {kv vv : Value} {es es' : List Ent} {sv : Value} {q : Option Nat} {c : Nat} {kr vr : Value} (h : SI V b13 b14 mb rb w0.heap.size sv0 s.1 s.2 pre kv vv es sv q c kr vr W) (hk : KeepsFrom V.heap.size W0 W) (hq : Kq (Xp (V.heap.size + 2) (cbOf V sv0) (s.1, s.2)) W0 W) (hE : Env w0.heap.size b8 b9 mb rb mv W) (hlq : sq = some s.1 ∨ (sq = none ∧ V.heap.size + 2 ≤ s.1))
    (hD : DEnd W mb rb w0.heap.size es' sv q c kr vr W') (hn : es'.length ≤ n + pre.length) : KeepsFrom V.heap.size W0 W' ∧ Kq (Xp (V.heap.size + 2) (cbOf V sv0) s) W0 W' ∧ Ii w0 V b13 b14 mb rb b8 b9 n sv0 mv sq s pre W' := by
  obtain ⟨⟨sv9, q9, c9, kr9, vr9, S9⟩, kf9, kq9⟩ := h.act hD
  have E9 := hE.xd h.jn.m h.jn.r (by obtain ⟨_, _, _, _, _, _, hC, _⟩ := hD; exact hC)
  exact ⟨hk.trans kf9, hq.trans kq9, _, _, _, _, _, _, _, _, S9, hn, E9, hlq⟩
/-- what the two boxes and the two maps are not stays while these are turned -/
theorem bx_ch4 {w0 V W : World} {b13 b14 mb rb : Nat} {es : List Ent} {sv kr vr k13 v14 : Value} {q : Option Nat} (hP : Ps w0 mb rb es sv q kr vr V) (h13 : Bx V b13 k13 27) (h14 : Bx V b14 v14 28) (hC : Ch (fun b => b = mb ∨ b = rb ∨ b = b13 ∨ b = b14) V W) {b : Nat} {u : Value} {t : TypeId} (hb : Bx V b u t) (h1 : t ≠ 27) (h2 : t ≠ 28) : Bx W b u t := by
  refine hb.ch hC ?_
  rintro (e | e | e | e)
  · exact bx_mp hP.jn.m hb e
  · exact bx_rf hP.jn.r hb e
  · exact hb.ne h13 h1 e
  · exact hb.ne h14 h2 e
theorem Env.ch4 {w0 V W : World} {b4 b8 b9 b13 b14 mb rb : Nat} {mv : Value} {es : List Ent} {sv kr vr k13 v14 : Value} {q : Option Nat} (h : Env b4 b8 b9 mb rb mv V) (hP : Ps w0 mb rb es sv q kr vr V) (h13 : Bx V b13 k13 27) (h14 : Bx V b14 v14 28) (hC : Ch (fun b => b = mb ∨ b = rb ∨ b = b13 ∨ b = b14) V W) : Env b4 b8 b9 mb rb mv W :=
  ⟨bx_ch4 hP h13 h14 hC h.1 (by decide) (by decide), bx_ch4 hP h13 h14 hC h.2.1 (by decide) (by decide), bx_ch4 hP h13 h14 hC h.2.2 (by decide) (by decide)⟩
theorem KV.ch4 {w0 V W : World} {base b13 b14 mb rb : Nat} {l : List Ent} {es : List Ent} {kv vv sv kr vr k13 v14 : Value} {q : Option Nat} (h : KV V base kv vv l) (hP : Ps w0 mb rb es sv q kr vr V) (h13 : Bx V b13 k13 27) (h14 : Bx V b14 v14 28) (hC : Ch (fun b => b = mb ∨ b = rb ∨ b = b13 ∨ b = b14) V W) : KV W base kv vv l := by
  refine ⟨hC.row h.1 ?_, hC.row h.2 ?_⟩
  · rintro g hg (e | e | e | e)
    · obtain ⟨_, cur, hx⟩ := row_obj h.1 hg
      rw [e, hP.jn.m.hd] at hx; injection hx with hx; injection hx with _ hx; cases hx
    · obtain ⟨_, cur, hx⟩ := row_obj h.1 hg
      rw [e, hP.jn.r.hd] at hx; injection hx with hx; injection hx with _ hx; cases hx
    · exact row_box h.1 h13 (by decide) hg e
    · exact row_box h.1 h14 (by decide) hg e
  · rintro g hg (e | e | e | e)
    · obtain ⟨_, cur, hx⟩ := row_obj h.2 hg
      rw [e, hP.jn.m.hd] at hx; injection hx with hx; injection hx with _ hx; cases hx
    · obtain ⟨_, cur, hx⟩ := row_obj h.2 hg
      rw [e, hP.jn.r.hd] at hx; injection hx with hx; injection hx with _ hx; cases hx
    · exact row_box h.2 h13 (by decide) hg e
    · exact row_box h.2 h14 (by decide) hg e
theorem Rg.ch4 {w0 V W : World} {n₀ b13 b14 mb rb : Nat} {f pv : Value} {p : Option Addr} {es : List Ent} {sv kr vr k13 v14 : Value} {q : Option Nat} (h : Rg V n₀ f p pv) (hP : Ps w0 mb rb es sv q kr vr V) (h13 : Bx V b13 k13 27) (h14 : Bx V b14 v14 28) (hC : Ch (fun b => b = mb ∨ b = rb ∨ b = b13 ∨ b = b14) V W) : Rg W n₀ f p pv := by
  obtain ⟨bm, bp, e, h1, h2, h3⟩ := h
  exact ⟨bm, bp, e, bx_ch4 hP h13 h14 hC h1 (by decide) (by decide), bx_ch4 hP h13 h14 hC h2 (by decide) (by decide), h3⟩
theorem Rg.below {W W' : World} {n₀ : Nat} {f pv : Value} {p : Option Addr} (h : Rg W n₀ f p pv) (hb : Below W.heap.size W W') : Rg W' n₀ f p pv := by
  obtain ⟨bm, bp, e, h1, h2, h3⟩ := h
  exact ⟨bm, bp, e, h1.below hb h1.lt, h2.below hb h2.lt, h3⟩
/-- the maps stay while the two boxes are emptied -/
theorem Ps.ch4 {w0 V W : World} {b13 b14 mb rb : Nat} {es : List Ent} {sv kr vr k13 v14 : Value} {q : Option Nat} (hP : Ps w0 mb rb es sv q kr vr V) (h13 : Bx V b13 k13 27) (h14 : Bx V b14 v14 28) (hb13 : w0.heap.size ≤ b13) (hb14 : w0.heap.size ≤ b14) (hC : Ch (fun b => b = b13 ∨ b = b14) V W) : Ps w0 mb rb es sv q kr vr W := by
  refine ⟨⟨hP.jn.m.ch hC ?_ ?_ ?_, hP.jn.r.ch hC ?_ ?_, hP.jn.sh⟩, hP.bl.trans (hC.below hP.bl.size ?_), hP.hs, hP.hq, hP.hm, hP.hr, hP.dq⟩
  · rintro (e | e)
    · exact bx_mp hP.jn.m h13 e.symm
    · exact bx_mp hP.jn.m h14 e.symm
  · rintro g hg (e | e)
    · exact row_box hP.jn.m.row h13 (by decide) hg e
    · exact row_box hP.jn.m.row h14 (by decide) hg e
  · rintro b hb (e | e)
    · exact (hP.jn.m.qbx hb).ne h13 (by decide) e
    · exact (hP.jn.m.qbx hb).ne h14 (by decide) e
  · rintro (e | e)
    · exact bx_rf hP.jn.r h13 e.symm
    · exact bx_rf hP.jn.r h14 e.symm
  · rintro g (hg | hg) (e | e)
    · exact row_box hP.jn.r.kv.1 h13 (by decide) hg e
    · exact row_box hP.jn.r.kv.1 h14 (by decide) hg e
    · exact row_box hP.jn.r.kv.2 h13 (by decide) hg e
    · exact row_box hP.jn.r.kv.2 h14 (by decide) hg e
  · rintro k hk (e | e) <;> omega
theorem boxes_nil {V : World} {b13 b14 : Nat} {k13 v14 : Value} (h13 : Bx V b13 k13 27) (h14 : Bx V b14 v14 28) :
    Bx ((V.setCell ⟨b13, 0, none⟩ (.slice none 0 0)).setCell ⟨b14, 0, none⟩ (.slice none 0 0)) b13 (.slice none 0 0) 27 ∧ Bx ((V.setCell ⟨b13, 0, none⟩ (.slice none 0 0)).setCell ⟨b14, 0, none⟩ (.slice none 0 0)) b14 (.slice none 0 0) 28 ∧ Ch (fun b => b = b13 ∨ b = b14) V ((V.setCell ⟨b13, 0, none⟩ (.slice none 0 0)).setCell ⟨b14, 0, none⟩ (.slice none 0 0)) := by
  have c1 : Ch (fun b => b = b13) V (V.setCell ⟨b13, 0, none⟩ (.slice none 0 0)) := (Ch.refl (fun b => b = b13) V).setCell ⟨b13, 0, none⟩ _ (fun _ => rfl)
  have c2 : Ch (fun b => b = b14) (V.setCell ⟨b13, 0, none⟩ (.slice none 0 0)) ((V.setCell ⟨b13, 0, none⟩ (.slice none 0 0)).setCell ⟨b14, 0, none⟩ (.slice none 0 0)) := (Ch.refl (fun b => b = b14) _).setCell ⟨b14, 0, none⟩ _ (fun _ => rfl)
  have hne := h13.ne h14 (by decide)
  have x13 := one0 h13 (.slice none 0 0)
  have x14 := h14.ch c1 hne.symm
  exact ⟨x13.ch c2 hne, one0 x14 _, (c1.mono' (fun b e => .inl e)).trans (c2.mono' (fun b e => .inr e))⟩
end Go.Proofs.Ytkohcdefhaokiaa

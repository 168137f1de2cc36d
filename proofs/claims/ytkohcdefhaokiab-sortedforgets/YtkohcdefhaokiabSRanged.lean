/-
  ranged: a range's keys and values, at most so many.
-/
import Derived.Test.YtkohcdefhaokiabSUser
import Derived.Maps.AppendAt
import Derived.Deep.RegionHeld3
namespace Go.Proofs.Ytkohcdefhaokiab
open Go.RowKit Go.Shelf Go.Lib Go.Sort

attribute [local go_sem] Oper.semAt_some

/-- what a range of this kind goes over -/
def pick (kind : Int) (k : ByteArray) (es : List Ent) : List Ent :=
  if kind = 5 then es.drop (pos es k) else if kind = 6 then es.reverse else if kind = 7 then under es k else es
/-- of these so many -/
def most (m : Int) (l : List Ent) : List Ent := if m < 0 then l else l.take m.toNat

def kcells (l : List Ent) : List Value := l.map (fun e => .string e.1)
def vcells (l : List Ent) : List Value := l.map (fun e => .int .i64 e.2)

/-- a slice of keys, a slice of values -/
def KV (w : World) (base : Nat) (kv vv : Value) (l : List Ent) : Prop := w.ownsRow base 9 1 kv l.length (kcells l) ∧ w.ownsRow base 3 1 vv l.length (vcells l)

theorem infoStr : (Try.prog.info? 9).map (fun i => (i.zero, i.size, i.bytes)) = some (some (.string ⟨#[]⟩), 1, 16) := by kernel_rfl
theorem infoInt : (Try.prog.info? 3).map (fun i => (i.zero, i.size, i.bytes)) = some (some (.int .i64 0), 1, 8) := by kernel_rfl

theorem row_kept {W W' : World} {base : Nat} {e : TypeId} {size : Nat} {v : Value} {n : Nat} {xs : List Value} {row : Option Nat} (h : W.ownsRow base e size v n xs) (hg : W.grownBy W' row) (hr : ∀ r, row = some r → ∃ o : Obj, W.heap[r]? = some o ∧ o.isCells = false) : W'.ownsRow base e size v n xs := by
  refine ⟨h.1, ?_⟩
  rcases h.2 with hn | ⟨g, cap, cur, rfl, hb, hgg, rest⟩
  · exact .inl hn
  · exact .inr ⟨g, cap, cur, rfl, hb, (hg.block g (Array.getElem?_eq_some_iff.1 hgg).1 (fun e => by obtain ⟨o, ho, hc⟩ := hr g e.symm; rw [hgg] at ho; cases ho; cases hc)).trans hgg, rest⟩
theorem mp_kept {W W' : World} {mb : Nat} {es : List Ent} {sv : Value} {q : Option Nat} {c : Nat} {row : Option Nat} (h : Mp W mb es sv q c) (hg : W.grownBy W' row) (hr : ∀ r, row = some r → ∃ o : Obj, W.heap[r]? = some o ∧ o.isCells = false) : Mp W' mb es sv q c := by
  have kp : ∀ {k : Nat} {o : Obj}, W.heap[k]? = some o → o.isCells = true → W'.heap[k]? = some o := fun {k o} hk ho => (hg.block k (Array.getElem?_eq_some_iff.1 hk).1 (fun e => by obtain ⟨o', ho', hc⟩ := hr k e.symm; rw [hk] at ho'; cases ho'; rw [ho] at hc; cases hc)).trans hk
  exact ⟨kp h.hd rfl, row_kept h.row hg hr, h.rise, h.lent.imp id (fun ⟨b, e, hb⟩ => ⟨b, e, kp hb rfl⟩)⟩
theorem Ch.kept {X : Nat → Prop} {w W W' : World} {row : Option Nat} {B : Nat} (h : Ch X w W) (hB : w.heap.size ≤ B) (hg : W.grownBy W' row) (hr : ∀ r, row = some r → B ≤ r ∧ ∃ o : Obj, W.heap[r]? = some o ∧ o.isCells = false) : Ch X w W' :=
  ⟨hg.os.trans h.os, hg.tape.trans h.tape, hg.output.trans h.output, Nat.le_trans h.size hg.size, fun k hk hX => (hg.block k (Nat.lt_of_lt_of_le hk h.size) (fun e => by have := (hr k e.symm).1; omega)).trans (h.block k hk hX)⟩
theorem KeepsFrom.of_ch {B : Nat} {Y : Nat → Prop} {W W' : World} (h : Ch Y W W') (hY : ∀ k, Y k → ∃ o : Obj, W.heap[k]? = some o ∧ o.isCells = true) : KeepsFrom B W W' :=
  ⟨h.size, fun k o _ hk ho => h.obj hk (fun hX => by obtain ⟨o', h1, h2⟩ := hY k hX; rw [hk] at h1; cases h1; rw [ho] at h2; cases h2)⟩
theorem Bx.ne {W : World} {b b' : Nat} {v v' : Value} {t t' : TypeId} (h : Bx W b v t) (h' : Bx W b' v' t') (ht : t ≠ t') : b ≠ b' := by
  rintro rfl
  have e1 : W.heap[b]? = _ := h
  rw [show W.heap[b]? = _ from h'] at e1
  injection e1 with e1
  injection e1 with e2 e3
  exact ht e3.symm
theorem row_obj {W : World} {base : Nat} {e : TypeId} {size : Nat} {v : Value} {n : Nat} {xs : List Value} (h : W.ownsRow base e size v n xs) {g : Nat} (hg : v.ownBlock = some g) : base ≤ g ∧ ∃ cur, W.heap[g]? = some (.cells cur e (0, 0)) := by
  rcases h.2 with ⟨rfl, _⟩ | ⟨g', cap, cur, rfl, hb, hgg, _⟩
  · cases hg
  · cases hg; exact ⟨hb, cur, hgg⟩
theorem row_ne {W : World} {base base' : Nat} {e e' : TypeId} {size size' : Nat} {v v' : Value} {n n' : Nat} {xs xs' : List Value} (h : W.ownsRow base e size v n xs) (h' : W.ownsRow base' e' size' v' n' xs') (he : e ≠ e') {g g' : Nat} (hg : v.ownBlock = some g) (hg' : v'.ownBlock = some g') : g ≠ g' := by
  rintro rfl
  obtain ⟨_, cur, h1⟩ := row_obj h hg
  obtain ⟨_, cur', h2⟩ := row_obj h' hg'
  rw [h1] at h2
  injection h2 with e1
  injection e1 with e2 e3
  exact he e3
theorem row_box {W : World} {base : Nat} {e t : TypeId} {size : Nat} {v : Value} {n : Nat} {xs : List Value} (h : W.ownsRow base e size v n xs) {b : Nat} {u : Value} (hb : Bx W b u t) (he : e ≠ t) {g : Nat} (hg : v.ownBlock = some g) : g ≠ b := by
  rintro rfl
  obtain ⟨_, cur, h1⟩ := row_obj h hg
  rw [show W.heap[g]? = _ from hb] at h1
  injection h1 with e1
  injection e1 with e2 e3
  exact he e3.symm

/-- what the loop of 'ranged' keeps: two boxes, how many, the slices, the map -/
structure RI (w : World) (b7 b10 b11 mb : Nat) (es : List Ent) (sv : Value) (q : Option Nat) (m : Int) (lb N0 c' : Nat) (pre : List Ent) (kv vv : Value) (W : World) : Prop where
  k : Bx W b10 kv 27
  v : Bx W b11 vv 28
  m7 : Bx W b7 (.int .i64 m) 3
  kv : KV W N0 kv vv pre
  mp : Mp W mb es sv (some lb) c'
  ch : Ch (fun b => b = mb ∨ q = some b) w W
  lt : lb < N0
  le : N0 ≤ W.heap.size
  bx : w.heap.size ≤ b7 ∧ w.heap.size ≤ b10 ∧ w.heap.size ≤ b11 ∧ b7 < N0 ∧ b10 < N0 ∧ b11 < N0 ∧ lb ≠ b7

theorem RI.kept {w : World} {b7 b10 b11 mb : Nat} {es : List Ent} {sv : Value} {q : Option Nat} {m : Int} {lb N0 c' : Nat} {pre : List Ent} {kv vv : Value} {W W' : World} {row : Option Nat} {B : Nat} (h : RI w b7 b10 b11 mb es sv q m lb N0 c' pre kv vv W) (hB : w.heap.size ≤ B) (hg : W.grownBy W' row) (hr : ∀ r, row = some r → B ≤ r ∧ ∃ o : Obj, W.heap[r]? = some o ∧ o.isCells = false) : RI w b7 b10 b11 mb es sv q m lb N0 c' pre kv vv W' :=
  have hr' := fun r e => (hr r e).2
  ⟨bx_kept h.k hg hr', bx_kept h.v hg hr', bx_kept h.m7 hg hr', ⟨row_kept h.kv.1 hg hr', row_kept h.kv.2 hg hr'⟩, mp_kept h.mp hg hr', h.ch.kept hB hg hr, h.lt, Nat.le_trans h.le hg.size, h.bx⟩

/-- the blocks that a round of 'ranged' turns -/
def RY (b10 b11 : Nat) (kv vv : Value) (k : Nat) : Prop := k = b10 ∨ k = b11 ∨ kv.ownBlock = some k ∨ vv.ownBlock = some k

theorem RI.step {w : World} {b7 b10 b11 mb : Nat} {es : List Ent} {sv : Value} {q : Option Nat} {m : Int} {lb N0 c' B n₁ : Nat} {pre pre' : List Ent} {kv vv kv' vv' : Value} {W W' : World} (h : RI w b7 b10 b11 mb es sv q m lb N0 c' pre kv vv W)
    (hc : Ch (RY b10 b11 kv vv) W W') (h1 : Bx W' b10 kv' 27) (h2 : Bx W' b11 vv' 28) (h3 : KV W' N0 kv' vv' pre') (hn : b10 < n₁ ∧ b11 < n₁) :
    RI w b7 b10 b11 mb es sv q m lb N0 c' pre' kv' vv' W' ∧ KeepsFrom B W W' ∧ Kq (Xp n₁ (sv.ownBlock.getD mb) (lb, N0)) W W' := by
  have hlb : Bx W lb (.int .i64 (c' : Int)) 3 := by
    rcases h.mp.lent with ⟨h0, _⟩ | ⟨b, e, hb⟩
    · cases h0
    · cases e; exact hb
  have nmb : ¬ RY b10 b11 kv vv mb := by
    rintro (e | e | e | e)
    · exact (h.mp.notBx h.k (by decide)).1 e.symm
    · exact (h.mp.notBx h.v (by decide)).1 e.symm
    · obtain ⟨_, cur, hx⟩ := row_obj h.kv.1 e
      rw [h.mp.hd] at hx; injection hx with hx; injection hx with _ hx; cases hx
    · obtain ⟨_, cur, hx⟩ := row_obj h.kv.2 e
      rw [h.mp.hd] at hx; injection hx with hx; injection hx with _ hx; cases hx
  have nsv : ∀ g, sv.ownBlock = some g → ¬ RY b10 b11 kv vv g := by
    rintro g hg (e | e | e | e)
    · exact row_box h.mp.row h.k (by decide) hg e
    · exact row_box h.mp.row h.v (by decide) hg e
    · exact row_ne h.mp.row h.kv.1 (by decide) hg e rfl
    · exact row_ne h.mp.row h.kv.2 (by decide) hg e rfl
  have hbx := h.bx
  have nrow : ∀ k, kv.ownBlock = some k ∨ vv.ownBlock = some k → N0 ≤ k := fun k e => e.elim (fun e => (row_obj h.kv.1 e).1) (fun e => (row_obj h.kv.2 e).1)
  have nlb : ¬ RY b10 b11 kv vv lb := by
    rintro (e | e | e)
    · exact hlb.ne h.k (by decide) e
    · exact hlb.ne h.v (by decide) e
    · have := nrow lb e; have := h.lt; omega
  have n7 : ¬ RY b10 b11 kv vv b7 := by
    rintro (e | e | e)
    · exact h.m7.ne h.k (by decide) e
    · exact h.m7.ne h.v (by decide) e
    · have := nrow b7 e; omega
  refine ⟨⟨h1, h2, h.m7.ch hc n7, h3, h.mp.ch hc nmb nsv (fun b e => by cases e; exact nlb), ?_, h.lt, Nat.le_trans h.le hc.size, h.bx⟩, KeepsFrom.of_ch hc ?_, Kq.of_ch hc ?_⟩
  · refine ⟨hc.os.trans h.ch.os, hc.tape.trans h.ch.tape, hc.output.trans h.ch.output, Nat.le_trans h.ch.size hc.size, fun k hk hX => (hc.block k (Nat.lt_of_lt_of_le hk h.ch.size) ?_).trans (h.ch.block k hk hX)⟩
    rintro (e | e | e)
    · omega
    · omega
    · have := nrow k e; omega
  · rintro k (rfl | rfl | e | e)
    · exact ⟨_, h.k, rfl⟩
    · exact ⟨_, h.v, rfl⟩
    · obtain ⟨_, cur, hx⟩ := row_obj h.kv.1 e; exact ⟨_, hx, rfl⟩
    · obtain ⟨_, cur, hx⟩ := row_obj h.kv.2 e; exact ⟨_, hx, rfl⟩
  · rintro k (rfl | rfl | ⟨e1, e2⟩)
    · cases hsv : sv.ownBlock with
      | none => simpa using nmb
      | some g => simpa using nsv g hsv
    · exact nlb
    · rintro (e | e | e)
      · omega
      · omega
      · have := nrow k e
        simp at e2
        omega

theorem new_one (w : World) (n : Nat) (hn : n = w.heap.size) (v : Value) (t : TypeId) : ∀ j u, ([v] : List Value)[j]? = some u → (w.alloc (.cells #[v] t)).cell? ((⟨n, 0, none⟩ : Addr).add j) = some u := by
  subst hn
  exact cell_one_new _ _ _

/-- between the steps of a round -/
structure Rd2 (W : World) (b7 b10 b11 N0 : Nat) (m : Int) (kv0 vv0 bk bv rk rv : Value) (pk pv : List Ent) (W' : World) : Prop where
  k : Bx W' b10 bk 27
  v : Bx W' b11 bv 28
  m7 : Bx W' b7 (.int .i64 m) 3
  kr : W'.ownsRow N0 9 1 rk pk.length (kcells pk)
  vr : W'.ownsRow N0 3 1 rv pv.length (vcells pv)
  ch : Ch (RY b10 b11 kv0 vv0) W W'
  le : N0 ≤ W'.heap.size
  b7lt : b7 < N0

theorem Rd2.appK {W : World} {b7 b10 b11 N0 : Nat} {m : Int} {kv0 vv0 bk bv rv v1 : Value} {pk pv : List Ent} {W' w1 : World} {x : Ent} {o : Obj} (h : Rd2 W b7 b10 b11 N0 m kv0 vv0 bk bv kv0 rv pk pv W') (hown : w1.ownsRow N0 9 1 v1 (pk.length + 1) (kcells pk ++ [.string x.1])) (hg : (W'.alloc o).grownBy w1 kv0.ownBlock) : Rd2 W b7 b10 b11 N0 m kv0 vv0 bk bv v1 rv (pk ++ [x]) pv w1 := by
  have kpt : ∀ {b : Nat} {v : Value} {t : TypeId}, Bx W' b v t → t ≠ 9 → Bx w1 b v t := fun {b v t} hb ht => by
    refine (hg.block b (by have := hb.lt; simp; omega) (fun e => row_box h.kr hb (fun h => ht h.symm) e.symm rfl)).trans ?_
    exact hb.alloc _
  have hs := hg.size
  simp at hs
  refine ⟨kpt h.k (by decide), kpt h.v (by decide), kpt h.m7 (by decide), by simpa [kcells] using hown, ?_, ?_, by have := h.le; omega, h.b7lt⟩
  · refine (h.vr.alloc _).kept hg ?_
    cases hv : rv.ownBlock with
    | none => exact .inl rfl
    | some g => exact .inr (fun e => row_ne h.vr h.kr (by decide) hv e.symm rfl)
  · refine h.ch.trans ⟨hg.os, hg.tape, hg.output, by omega, fun k hk hX => ?_⟩
    rw [hg.block k (by simp; omega) (fun e => hX (.inr (.inr (.inl e.symm)))), Below.heap_alloc W' _ k hk]
theorem Rd2.appV {W : World} {b7 b10 b11 N0 : Nat} {m : Int} {kv0 vv0 bk bv rk v1 : Value} {pk pv : List Ent} {W' w1 : World} {x : Ent} {o : Obj} (h : Rd2 W b7 b10 b11 N0 m kv0 vv0 bk bv rk vv0 pk pv W') (hown : w1.ownsRow N0 3 1 v1 (pv.length + 1) (vcells pv ++ [.int .i64 x.2])) (hg : (W'.alloc o).grownBy w1 vv0.ownBlock) : Rd2 W b7 b10 b11 N0 m kv0 vv0 bk bv rk v1 pk (pv ++ [x]) w1 := by
  have kpt : ∀ {b : Nat} {v : Value} {t : TypeId}, Bx W' b v t → (t ≠ 3 ∨ b < N0) → Bx w1 b v t := fun {b v t} hb ht => by
    refine (hg.block b (by have := hb.lt; simp; omega) (fun e => ?_)).trans (hb.alloc _)
    rcases ht with ht | ht
    · exact row_box h.vr hb (fun h => ht h.symm) e.symm rfl
    · have := (row_obj h.vr e.symm).1; omega
  have hs := hg.size
  simp at hs
  refine ⟨kpt h.k (.inl (by decide)), kpt h.v (.inl (by decide)), kpt h.m7 (.inr h.b7lt), ?_, by simpa [vcells] using hown, ?_, by have := h.le; omega, h.b7lt⟩
  · refine (h.kr.alloc _).kept hg ?_
    cases hv : rk.ownBlock with
    | none => exact .inl rfl
    | some g => exact .inr (fun e => row_ne h.kr h.vr (by decide) hv e.symm rfl)
  · refine h.ch.trans ⟨hg.os, hg.tape, hg.output, by omega, fun k hk hX => ?_⟩
    rw [hg.block k (by simp; omega) (fun e => hX (.inr (.inr (.inr e.symm)))), Below.heap_alloc W' _ k hk]
theorem Rd2.stK {W : World} {b7 b10 b11 N0 : Nat} {m : Int} {kv0 vv0 bk bv rk rv : Value} {pk pv : List Ent} {W' : World} (h : Rd2 W b7 b10 b11 N0 m kv0 vv0 bk bv rk rv pk pv W') : Rd2 W b7 b10 b11 N0 m kv0 vv0 rk bv rk rv pk pv (W'.setCell ⟨b10, 0, none⟩ rk) := by
  have hch : Ch (fun b => b = b10) W' (W'.setCell ⟨b10, 0, none⟩ rk) := (Ch.refl (fun b => b = b10) W').setCell ⟨b10, 0, none⟩ _ (fun _ => rfl)
  exact ⟨one0 h.k _, h.v.ch hch (h.v.ne h.k (by decide)), h.m7.ch hch (h.m7.ne h.k (by decide)), hch.row h.kr (fun g hg => row_box h.kr h.k (by decide) hg), hch.row h.vr (fun g hg => row_box h.vr h.k (by decide) hg), h.ch.trans (hch.mono (fun k _ e => .inl e)), Nat.le_trans h.le hch.size, h.b7lt⟩
theorem Rd2.stV {W : World} {b7 b10 b11 N0 : Nat} {m : Int} {kv0 vv0 bk bv rk rv : Value} {pk pv : List Ent} {W' : World} (h : Rd2 W b7 b10 b11 N0 m kv0 vv0 bk bv rk rv pk pv W') : Rd2 W b7 b10 b11 N0 m kv0 vv0 bk rv rk rv pk pv (W'.setCell ⟨b11, 0, none⟩ rv) := by
  have hch : Ch (fun b => b = b11) W' (W'.setCell ⟨b11, 0, none⟩ rv) := (Ch.refl (fun b => b = b11) W').setCell ⟨b11, 0, none⟩ _ (fun _ => rfl)
  exact ⟨h.k.ch hch (h.k.ne h.v (by decide)), one0 h.v _, h.m7.ch hch (h.m7.ne h.v (by decide)), hch.row h.kr (fun g hg => row_box h.kr h.v (by decide) hg), hch.row h.vr (fun g hg => row_box h.vr h.v (by decide) hg), h.ch.trans (hch.mono (fun k _ e => .inr (.inl e))), Nat.le_trans h.le hch.size, h.b7lt⟩

/-- what 'ranged' leaves -/
def REnd (w : World) (b10 b11 mb : Nat) (es : List Ent) (sv : Value) (q : Option Nat) (c : Nat) (told : List Ent) (W : World) : Prop :=
  ∃ kv vv q', Bx W b10 kv 27 ∧ Bx W b11 vv 28 ∧ KV W w.heap.size kv vv told ∧ Mp W mb es sv q' c ∧ Ch (fun b => b = mb) w W ∧ (q' = q ∨ (q = none ∧ ∃ b, q' = some b ∧ w.heap.size ≤ b))

theorem row_low {W : World} {base base' : Nat} {e : TypeId} {size : Nat} {v : Value} {n : Nat} {xs : List Value} (h : W.ownsRow base e size v n xs) (hb : base' ≤ base) : W.ownsRow base' e size v n xs :=
  ⟨h.1, h.2.imp id (fun ⟨g, cap, cur, e1, e2, rest⟩ => ⟨g, cap, cur, e1, Nat.le_trans hb e2, rest⟩)⟩

theorem REnd.kept {w : World} {b10 b11 mb : Nat} {es : List Ent} {sv : Value} {q : Option Nat} {c : Nat} {told : List Ent} {W W' : World} {row : Option Nat} {B : Nat} (h : REnd w b10 b11 mb es sv q c told W) (hB : w.heap.size ≤ B) (hg : W.grownBy W' row) (hr : ∀ r, row = some r → B ≤ r ∧ ∃ o : Obj, W.heap[r]? = some o ∧ o.isCells = false) : REnd w b10 b11 mb es sv q c told W' := by
  obtain ⟨kv, vv, q', h1, h2, h3, h4, h5, h6⟩ := h
  have hr' := fun r e => (hr r e).2
  exact ⟨kv, vv, q', bx_kept h1 hg hr', bx_kept h2 hg hr', ⟨row_kept h3.1 hg hr', row_kept h3.2 hg hr'⟩, mp_kept h4 hg hr', h5.kept hB hg hr, h6⟩

theorem RI.fin {w : World} {b7 b10 b11 mb : Nat} {es : List Ent} {sv : Value} {q : Option Nat} {m : Int} {lb N0 c n₁ : Nat} {pre : List Ent} {kv vv : Value} {W W' : World} (h : RI w b7 b10 b11 mb es sv q m lb N0 (c + 1) pre kv vv W) (hM : Mp w mb es sv q c) (hq : q = some lb ∨ (q = none ∧ w.heap.size ≤ lb)) (hN : w.heap.size ≤ N0) (hn : w.heap.size ≤ n₁) (hb : Back n₁ c lb W W') : REnd w b10 b11 mb es sv q c pre W' := by
  obtain ⟨hch, hl⟩ := hb
  have hlb : Bx W lb (.int .i64 ((c + 1 : Nat) : Int)) 3 := by
    rcases h.mp.lent with ⟨h0, _⟩ | ⟨b, e, hb⟩
    · cases h0
    · cases e; exact hb
  have nX : ∀ {k : Nat} {o : Obj}, W.heap[k]? = some o → o.isCells = true → k ≠ lb → ¬ (k = lb ∨ (n₁ ≤ k ∧ ∃ o, W.heap[k]? = some o ∧ o.isCells = false)) := by
    rintro k o hk ho hne (e | ⟨_, o', h1, h2⟩)
    · exact hne e
    · rw [hk] at h1; cases h1; rw [ho] at h2; cases h2
  have hap := h.mp.lentApart rfl
  have hlt := h.lt
  refine ⟨kv, vv, some lb, h.k.ch hch (nX h.k rfl (fun e => hlb.ne h.k (by decide) e.symm)), h.v.ch hch (nX h.v rfl (fun e => hlb.ne h.v (by decide) e.symm)), ⟨row_low (hch.row h.kv.1 ?_) hN, row_low (hch.row h.kv.2 ?_) hN⟩, ⟨hch.obj h.mp.hd (nX h.mp.hd rfl (fun e => hap.1 e.symm)), hch.row h.mp.row ?_, h.mp.rise, .inr ⟨lb, rfl, hl⟩⟩, ?_, ?_⟩
  · intro k hk
    obtain ⟨h1, cur, h2⟩ := row_obj h.kv.1 hk
    exact nX h2 rfl (by omega)
  · intro k hk
    obtain ⟨h1, cur, h2⟩ := row_obj h.kv.2 hk
    exact nX h2 rfl (by omega)
  · intro k hk
    obtain ⟨h1, cur, h2⟩ := row_obj h.mp.row hk
    exact nX h2 rfl (fun e => hap.2 (by rw [hk, e]))
  · refine ⟨hch.os.trans h.ch.os, hch.tape.trans h.ch.tape, hch.output.trans h.ch.output, Nat.le_trans h.ch.size hch.size, fun k hk hX => ?_⟩
    by_cases e : k = lb
    · subst e
      rcases hq with rfl | ⟨_, h0⟩
      · rcases hM.lent with ⟨h0, _⟩ | ⟨b, e, hb⟩
        · cases h0
        · cases e; exact (show W'.heap[k]? = _ from hl).trans hb.symm
      · omega
    · refine (hch.block k (Nat.lt_of_lt_of_le hk h.ch.size) ?_).trans (h.ch.block k hk ?_)
      · rintro (e' | ⟨e', _⟩)
        · exact e e'
        · omega
      · rintro (e' | e')
        · exact hX e'
        · rcases hq with rfl | ⟨rfl, _⟩
          · cases e'; exact e rfl
          · cases e'
  · rcases hq with rfl | ⟨rfl, h0⟩
    · exact .inl rfl
    · exact .inr ⟨rfl, lb, rfl, h0⟩

set_option maxRecDepth 100000 in
set_option maxHeartbeats 4000000 in
theorem ranged_def {w : World} {mb : Nat} {es : List Ent} {sv : Value} {q : Option Nat} {c : Nat} (hM : Mp w mb es sv q c) (hc : c < 4611686018427387904) (hn : es.length * 24 ≤ 211106232528000) (kind : Int) (k : ByteArray) (m : Int) (h5 : kind ≠ 5) (h6 : kind ≠ 6) (h7 : kind ≠ 7) (hm : m ≠ 0) :
    Calls Try.prog 7 #[.pointer (some ⟨mb, 0, none⟩), .int .i64 kind, .string k, .int .i64 m] w fun e w' => ∃ kv vv q', e = .returned (.tuple #[kv, vv]) ∧ KV w' w.heap.size kv vv (most m (es)) ∧ Mp w' mb es sv q' c ∧ Ch (fun b => b = mb) w w' ∧ (q' = q ∨ (q = none ∧ ∃ b, q' = some b ∧ w.heap.size ≤ b)) := by
  refine (callsIn_wide (n := 9)).1 ?_
  refine callsIn_of_wp_marks Try.func7 rfl trivial ?_ rfl
  simp only [Try.ntmps7, List.size_toArray, List.length_cons, List.length_nil, Nat.reduceAdd, Nat.reduceSub, Array.replicate_succ, Array.replicate_zero, List.push_toArray, List.append_toArray, List.nil_append, List.cons_append]
  have HM : Hid (Mp w mb es sv q c) := hM
  have hb5 : (kind == 5) = false := by simpa using h5
  have hb6 : (kind == 6) = false := by simpa using h6
  have hb7 : (kind == 7) = false := by simpa using h7
  have hbm : (m == 0) = false := by simpa using hm
  clear hM
  obtain ⟨W3, hW3⟩ : ∃ W3, W3 = ((w.alloc (.cells #[.int .i64 m] 3)).alloc (.cells #[.slice none 0 0] 27)).alloc (.cells #[.slice none 0 0] 28) := ⟨_, rfl⟩
  have hs3 : W3.heap.size = w.heap.size + 1 + 1 + 1 := by rw [hW3]; simp
  have hB3 : Below w.heap.size w W3 := by rw [hW3]; exact (((Below.refl _ w).alloc (Nat.le_refl _) _).alloc (by simp) _).alloc (by simp; omega) _
  have b7 : Bx W3 w.heap.size (.int .i64 m) 3 := by rw [hW3]; exact ((Bx.new w _ _).alloc _).alloc _
  have b10 : Bx W3 (w.heap.size + 1) (.slice none 0 0) 27 := by
    rw [hW3]
    have := (Bx.new (w.alloc (.cells #[.int .i64 m] 3)) (.slice none 0 0) 27).alloc (.cells #[.slice none 0 0] 28)
    rwa [World.size_alloc] at this
  have b11 : Bx W3 (w.heap.size + 1 + 1) (.slice none 0 0) 28 := by
    rw [hW3]
    have := Bx.new ((w.alloc (.cells #[.int .i64 m] 3)).alloc (.cells #[.slice none 0 0] 27)) (.slice none 0 0) 28
    rwa [World.size_alloc, World.size_alloc] at this
  gi_wp2_with (first
    | (refine ⟨trivial, ?_⟩; gi_at_call 17; rw [← hW3]; refine (callsIn_wide.2 (All_any _ _)).mono ?_; rintro e w4 ⟨f, rfl, hR, hB4⟩; have hm4 := (b7.below hB4 (by omega)).cell; have HR : Hid (Rg w4 W3.heap.size f (some ⟨mb, 0, none⟩) (.func (.func 30) #[] #[])) := hR; obtain ⟨bm, bp, rfl, -⟩ := hR))
  have hBv : Below w.heap.size w w4 := hB3.trans (hB4.mono (by omega))
  have hBv3 := hB4
  have HP : Pk w4 (.func (.func 30) #[] #[]) id := .inl ⟨rfl, rfl⟩
  have HPL : es.length ≤ es.length := Nat.le_refl _
  have hsv := hBv.size
  have hsv3 := hBv3.size
  have b7v := b7.below hBv3 (by omega)
  have b10v := b10.below hBv3 (by omega)
  have b11v := b11.below hBv3 (by omega)
  have hMv := HM.out.below hBv
  refine range_map2 (r1 := 13) (r2 := 14) rfl HR.out HP hMv (cb := sv.ownBlock.getD mb) (fun g hg => by simp [hg]) (by omega) hc
    (fun s pre W => ∃ kv vv, RI w w.heap.size (w.heap.size + 1) (w.heap.size + 1 + 1) mb es sv q m s.1 s.2 (c + 1) pre kv vv W ∧ (q = some s.1 ∨ (q = none ∧ w.heap.size ≤ s.1)) ∧ w4.heap.size + 2 ≤ s.2 ∧ (0 ≤ m → (pre.length : Int) < m))
    (fun s cc pre W => cc = .exit 1 ∧ ∃ kv vv, RI w w.heap.size (w.heap.size + 1) (w.heap.size + 1 + 1) mb es sv q m s.1 s.2 (c + 1) pre kv vv W ∧ (q = some s.1 ∨ (q = none ∧ w.heap.size ≤ s.1)) ∧ w4.heap.size + 2 ≤ s.2 ∧ (pre.length : Int) = m ∧ pre <+: es)
    (fun W => REnd w (w.heap.size + 1) (w.heap.size + 1 + 1) mb es sv q c (most m (es)) W) (fun cc W => cc = .exit 1 ∧ REnd w (w.heap.size + 1) (w.heap.size + 1 + 1) mb es sv q c (most m (es)) W)
    ?hI ?hIx ?hE ?hEx ?start ?assign ?body ?out ?outx ?done ?stop
  case hI =>
    rintro s pre A B row ⟨kv, vv, h1, h2, h3, h4⟩ hg hr
    exact ⟨kv, vv, h1.kept hsv hg hr, h2, h3, h4⟩
  case hIx =>
    rintro s cc pre A B row ⟨h0, kv, vv, h1, h2, h3, h4, h5⟩ hg hr
    exact ⟨h0, kv, vv, h1.kept hsv hg hr, h2, h3, h4, h5⟩
  case hE =>
    intro _ A B row h hg hr
    exact h.kept hsv hg hr
  case hEx =>
    rintro cc _ A B row ⟨h0, h⟩ hg hr
    exact ⟨h0, h.kept hsv hg hr⟩
  case start =>
    intro lb W0 hM0 hch hlq hs0
    have hX : ∀ {b : Nat} {v : Value} {t : TypeId}, Bx w4 b v t → b < w4.heap.size → w.heap.size ≤ b → ¬ (b = mb ∨ q = some b) := by
      rintro b v t hb hlt hge (e | e)
      · have := HM.out.lt; omega
      · rcases HM.out.lent with ⟨h0, _⟩ | ⟨b', eb, hb'⟩
        · rw [h0] at e; cases e
        · rw [eb] at e; cases e
          have := (Array.getElem?_eq_some_iff.1 hb').1
          omega
    have hlb0 : lb < W0.heap.size := by
      rcases hM0.lent with ⟨h0, _⟩ | ⟨b, e, hb⟩
      · cases h0
      · cases e; exact (Array.getElem?_eq_some_iff.1 hb).1
    have hne7 : lb ≠ w.heap.size := by
      rcases hlq with e | ⟨_, h⟩
      · rcases HM.out.lent with ⟨h0, _⟩ | ⟨b', eb, hb'⟩
        · rw [h0] at e; cases e
        · rw [eb] at e; cases e
          have := (Array.getElem?_eq_some_iff.1 hb').1
          omega
      · omega
    refine ⟨.slice none 0 0, .slice none 0 0, ⟨b10v.ch hch (hX b10v b10v.lt (by omega)), b11v.ch hch (hX b11v b11v.lt (by omega)), b7v.ch hch (hX b7v b7v.lt (by omega)), ⟨World.ownsRow_nil _ _ _ _, World.ownsRow_nil _ _ _ _⟩, hM0, ?_, hlb0, Nat.le_refl _, ⟨Nat.le_refl _, by omega, by omega, by omega, by omega, by omega, hne7⟩⟩, hlq.imp id (fun h => ⟨h.1, by omega⟩), hs0, ?_⟩
    · exact ⟨hch.os.trans hBv.os, hch.tape.trans hBv.tape, hch.output.trans hBv.output, by have := hch.size; omega, fun k hk hX => (hch.block k (by omega) hX).trans (hBv.block k hk)⟩
    · intro h; simp; omega
  case assign =>
    intro mm l x W K hK
    gi_wp2
    exact hK
  case body =>
    rintro mm l s pre x W ⟨kv, vv, hRI, hq, hN, hlen⟩ hnx
    obtain ⟨i0, hi, hz0, hz1, hz2⟩ := info_parts infoStr
    obtain ⟨j0, hj, hy0, hy1, hy2⟩ := info_parts infoInt
    have hple : pre.length + 1 ≤ es.length := by
      have := hnx.length_le
      simp at this
      have := HPL
      omega
    have hk0 := hRI.k.cell
    have hk1 := hRI.k.fro
    obtain ⟨ka, kc, rfl, -⟩ := row_slice hRI.kv.1
    obtain ⟨va, vc, rfl, -⟩ := row_slice hRI.kv.2
    have RR : Hid (RI w w.heap.size (w.heap.size + 1) (w.heap.size + 1 + 1) mb es sv q m s.1 s.2 (c + 1) pre (.slice ka pre.length kc) (.slice va pre.length vc) W) := hRI
    clear hRI
    have HN : Hid (pre ++ [x] <+: es) := hnx
    clear hnx
    simp only [List.setIfInBounds_toArray, List.set_cons_succ, List.set_cons_zero]
    have bnd : pre.length + 1 ≤ maxLen ∧ (pre.length + 1) * 16 ≤ 140737488355328 ∧ (pre.length + 1) * 8 ≤ 140737488355328 := by unfold maxLen; omega
    have hle0 := RR.out.le
    have D0 : Hid (Rd2 W w.heap.size (w.heap.size + 1) (w.heap.size + 1 + 1) s.2 m (.slice ka pre.length kc) (.slice va pre.length vc) (.slice ka pre.length kc) (.slice va pre.length vc) (.slice ka pre.length kc) (.slice va pre.length vc) pre pre W) := by
      have hR := RR.out
      exact ⟨hR.k, hR.v, hR.m7, hR.kv.1, hR.kv.2, Ch.refl _ _, hR.le, hR.bx.2.2.2.1⟩
    gi_wp2_with (first
      | (gi_at_builtin; refine wpListIn_append_own _ rfl _ _ 27 rfl s.2 9 i0 (.string ⟨#[]⟩) 1 16 Try.underlying27 hi hz0 hz1 hz2 rfl (by decide) _ _ _ rfl (D0.out.kr.alloc _) ⟨W.heap.size, 0, none⟩ 1 1 [.string x.1] rfl rfl (cell_one_new _ _ _) (by simp [Value.oneCell']) bnd.1 bnd.2.1 (by simp; omega) ?_; intro v1 w1 hown1 hgrow1 _; obtain ⟨g1, cap1, rfl⟩ := ownsRow_succ hown1; have D1 : Hid (Rd2 W w.heap.size (w.heap.size + 1) (w.heap.size + 1 + 1) s.2 m (.slice ka pre.length kc) (.slice va pre.length vc) (.slice ka pre.length kc) (.slice va pre.length vc) (.slice (some ⟨g1, 0, none⟩) (pre.length + 1) cap1) (.slice va pre.length vc) (pre ++ [x]) pre w1) := D0.out.appK hown1 hgrow1; clear hown1 hgrow1; have hk2 := D1.out.k.cell; have hk3 := D1.out.k.fro; have D2 : Hid (Rd2 W w.heap.size (w.heap.size + 1) (w.heap.size + 1 + 1) s.2 m (.slice ka pre.length kc) (.slice va pre.length vc) (.slice (some ⟨g1, 0, none⟩) (pre.length + 1) cap1) (.slice va pre.length vc) (.slice (some ⟨g1, 0, none⟩) (pre.length + 1) cap1) (.slice va pre.length vc) (pre ++ [x]) pre (w1.setCell ⟨w.heap.size + 1, 0, none⟩ (.slice (some ⟨g1, 0, none⟩) (pre.length + 1) cap1))) := D1.out.stK; have hv2 := D2.out.v.cell; have hle2 := D2.out.le)
      | (gi_at_builtin; refine wpListIn_append_own _ rfl _ _ 28 rfl s.2 3 j0 (.int .i64 0) 1 8 Try.underlying28 hj hy0 hy1 hy2 rfl (by decide) _ _ _ rfl (D2.out.vr.alloc _) ⟨w1.heap.size, 0, none⟩ 1 1 [.int .i64 x.2] rfl rfl (new_one _ _ (by simp) _ _) (by simp [Value.oneCell']) bnd.1 bnd.2.2 (by simp at hle2 ⊢; omega) ?_; intro v3 w3 hown3 hgrow3 _; obtain ⟨g3, cap3, rfl⟩ := ownsRow_succ hown3; have D3 : Hid (Rd2 W w.heap.size (w.heap.size + 1) (w.heap.size + 1 + 1) s.2 m (.slice ka pre.length kc) (.slice va pre.length vc) (.slice (some ⟨g1, 0, none⟩) (pre.length + 1) cap1) (.slice va pre.length vc) (.slice (some ⟨g1, 0, none⟩) (pre.length + 1) cap1) (.slice (some ⟨g3, 0, none⟩) (pre.length + 1) cap3) (pre ++ [x]) (pre ++ [x]) w3) := D2.out.appV hown3 hgrow3; clear hown3 hgrow3; have hv3 := D3.out.v.cell; have hv4 := D3.out.v.fro; have D4 := D3.out.stV; have D5 : Hid (Rd2 W w.heap.size (w.heap.size + 1) (w.heap.size + 1 + 1) s.2 m (.slice ka pre.length kc) (.slice va pre.length vc) (.slice (some ⟨g1, 0, none⟩) (pre.length + 1) cap1) (.slice (some ⟨g3, 0, none⟩) (pre.length + 1) cap3) (.slice (some ⟨g1, 0, none⟩) (pre.length + 1) cap1) (.slice (some ⟨g3, 0, none⟩) (pre.length + 1) cap3) (pre ++ [x]) (pre ++ [x]) (w3.setCell ⟨w.heap.size + 1 + 1, 0, none⟩ (.slice (some ⟨g3, 0, none⟩) (pre.length + 1) cap3))) := D4; have hk6 := D4.k.cell; have hm6 := D4.m7.cell; clear D4))
    · rename_i he
      have he' : (pre.length : Int) + 1 = m := by simpa using he
      obtain ⟨s1, s2, s3⟩ := RR.out.step (B := w4.heap.size) (n₁ := w4.heap.size + 2) D5.out.ch D5.out.k D5.out.v ⟨D5.out.kr, D5.out.vr⟩ (by omega)
      exact ⟨s2, s3, rfl, _, _, s1, hq, hN, by simp; omega, HN.out⟩
    · rename_i he
      have he' : ¬ (pre.length : Int) + 1 = m := by simpa using he
      obtain ⟨s1, s2, s3⟩ := RR.out.step (B := w4.heap.size) (n₁ := w4.heap.size + 2) D5.out.ch D5.out.k D5.out.v ⟨D5.out.kr, D5.out.vr⟩ (by omega)
      exact ⟨s2, s3, _, _, s1, hq, hN, fun h => by have := hlen h; simp; omega⟩
  case out =>
    rintro s A W2 ⟨kv, vv, h1, h2, h3, h4⟩ hb
    have := h1.fin HM.out h2 (by omega) (by omega) hb
    have e : most m (es) = es := by
      unfold most
      split
      · rfl
      · have h4' : ((es).length : Int) < m := h4 (by omega)
        exact List.take_of_length_le (by omega)
    rw [e]
    exact this
  case outx =>
    rintro s cc pre A W2 ⟨rfl, kv, vv, h1, h2, h3, h4, h5⟩ hb
    have := h1.fin HM.out h2 (by omega) (by omega) hb
    have e : most m (es) = pre := by
      unfold most
      rw [if_neg (by omega), ← h4]
      exact (List.prefix_iff_eq_take.1 h5).symm
    rw [e]
    exact ⟨rfl, this⟩
  case done =>
    rintro W ⟨kv, vv, q', h1, h2, h3, h4, h5, h6⟩ hD
    have c1 := h1.cell
    have c2 := h2.cell
    obtain ⟨ka, kc, rfl, -⟩ := row_slice h3.1
    obtain ⟨va, vc, rfl, -⟩ := row_slice h3.2
    have HE : Hid (KV W w.heap.size (.slice ka (most m (es)).length kc) (.slice va (most m (es)).length vc) (most m (es)) ∧ Mp W mb es sv q' c ∧ Ch (fun b => b = mb) w W) := ⟨h3, h4, h5⟩
    clear h1 h2 h3 h4 h5
    gi_wp2
    refine wpIn_mono ?_ NoPanic.imp
    gi_region
    all_goals refine NoPanic.normal ?_
    all_goals gi_wp2
    all_goals refine ⟨by simp, .inl ⟨_, _, rfl, takes (W := W.drew) hD, ?_⟩⟩
    all_goals
      have hput : W.drew.grownBy (W.drew.putObj w4.heap.size (.deferred none)) (some w4.heap.size) := grownBy_putObj' W.drew _ _
      have hrow : ∀ r : Nat, some w4.heap.size = some r → ∃ o : Obj, W.drew.heap[r]? = some o ∧ o.isCells = false := fun r e => by cases e; exact ⟨_, hD, rfl⟩
      obtain ⟨e1, e2, e3⟩ := HE.out
      exact ⟨_, results_tmp2 rfl _ _ _, .slice ka (most m (es)).length kc, .slice va (most m (es)).length vc, q', rfl, ⟨row_kept (W := W.drew) e1.1 hput hrow, row_kept (W := W.drew) e1.2 hput hrow⟩, mp_kept (W := W.drew) ⟨e2.hd, e2.row, e2.rise, e2.lent⟩ hput hrow, e3.drew.kept (B := w.heap.size) (Nat.le_refl _) hput (fun r e => ⟨by cases e; omega, hrow r e⟩), h6⟩
  case stop =>
    rintro cc W ⟨rfl, kv, vv, q', h1, h2, h3, h4, h5, h6⟩ hD
    have c1 := h1.cell
    have c2 := h2.cell
    obtain ⟨ka, kc, rfl, -⟩ := row_slice h3.1
    obtain ⟨va, vc, rfl, -⟩ := row_slice h3.2
    have HE : Hid (KV W w.heap.size (.slice ka (most m (es)).length kc) (.slice va (most m (es)).length vc) (most m (es)) ∧ Mp W mb es sv q' c ∧ Ch (fun b => b = mb) w W) := ⟨h3, h4, h5⟩
    clear h1 h2 h3 h4 h5
    gi_wp2
    refine wpIn_mono ?_ NoPanic.imp
    gi_region
    all_goals refine NoPanic.normal ?_
    all_goals gi_wp2
    all_goals refine ⟨by simp, .inl ⟨_, _, rfl, takes (W := W.drew) hD, ?_⟩⟩
    all_goals
      have hput : W.drew.grownBy (W.drew.putObj w4.heap.size (.deferred none)) (some w4.heap.size) := grownBy_putObj' W.drew _ _
      have hrow : ∀ r : Nat, some w4.heap.size = some r → ∃ o : Obj, W.drew.heap[r]? = some o ∧ o.isCells = false := fun r e => by cases e; exact ⟨_, hD, rfl⟩
      obtain ⟨e1, e2, e3⟩ := HE.out
      exact ⟨_, results_tmp2 rfl _ _ _, .slice ka (most m (es)).length kc, .slice va (most m (es)).length vc, q', rfl, ⟨row_kept (W := W.drew) e1.1 hput hrow, row_kept (W := W.drew) e1.2 hput hrow⟩, mp_kept (W := W.drew) ⟨e2.hd, e2.row, e2.rise, e2.lent⟩ hput hrow, e3.drew.kept (B := w.heap.size) (Nat.le_refl _) hput (fun r e => ⟨by cases e; omega, hrow r e⟩), h6⟩

set_option maxRecDepth 100000 in
set_option maxHeartbeats 4000000 in
theorem ranged_from {w : World} {mb : Nat} {es : List Ent} {sv : Value} {q : Option Nat} {c : Nat} (hM : Mp w mb es sv q c) (hc : c < 4611686018427387904) (hn : es.length * 24 ≤ 211106232528000) (k : ByteArray) (m : Int) (hm : m ≠ 0) :
    Calls Try.prog 7 #[.pointer (some ⟨mb, 0, none⟩), .int .i64 5, .string k, .int .i64 m] w fun e w' => ∃ kv vv q', e = .returned (.tuple #[kv, vv]) ∧ KV w' w.heap.size kv vv (most m (es.drop (pos es k))) ∧ Mp w' mb es sv q' c ∧ Ch (fun b => b = mb) w w' ∧ (q' = q ∨ (q = none ∧ ∃ b, q' = some b ∧ w.heap.size ≤ b)) := by
  refine (callsIn_wide (n := 9)).1 ?_
  refine callsIn_of_wp_marks Try.func7 rfl trivial ?_ rfl
  simp only [Try.ntmps7, List.size_toArray, List.length_cons, List.length_nil, Nat.reduceAdd, Nat.reduceSub, Array.replicate_succ, Array.replicate_zero, List.push_toArray, List.append_toArray, List.nil_append, List.cons_append]
  have HM : Hid (Mp w mb es sv q c) := hM
  have hbm : (m == 0) = false := by simpa using hm
  clear hM
  obtain ⟨W3, hW3⟩ : ∃ W3, W3 = ((w.alloc (.cells #[.int .i64 m] 3)).alloc (.cells #[.slice none 0 0] 27)).alloc (.cells #[.slice none 0 0] 28) := ⟨_, rfl⟩
  have hs3 : W3.heap.size = w.heap.size + 1 + 1 + 1 := by rw [hW3]; simp
  have hB3 : Below w.heap.size w W3 := by rw [hW3]; exact (((Below.refl _ w).alloc (Nat.le_refl _) _).alloc (by simp) _).alloc (by simp; omega) _
  have b7 : Bx W3 w.heap.size (.int .i64 m) 3 := by rw [hW3]; exact ((Bx.new w _ _).alloc _).alloc _
  have b10 : Bx W3 (w.heap.size + 1) (.slice none 0 0) 27 := by
    rw [hW3]
    have := (Bx.new (w.alloc (.cells #[.int .i64 m] 3)) (.slice none 0 0) 27).alloc (.cells #[.slice none 0 0] 28)
    rwa [World.size_alloc] at this
  have b11 : Bx W3 (w.heap.size + 1 + 1) (.slice none 0 0) 28 := by
    rw [hW3]
    have := Bx.new ((w.alloc (.cells #[.int .i64 m] 3)).alloc (.cells #[.slice none 0 0] 27)) (.slice none 0 0) 28
    rwa [World.size_alloc, World.size_alloc] at this
  gi_wp2_with (first
    | (refine ⟨trivial, ?_⟩; gi_at_call 17; rw [← hW3]; refine (callsIn_wide.2 (All_any _ _)).mono ?_; rintro e w4 ⟨f, rfl, hR, hB4⟩; have hm4 := (b7.below hB4 (by omega)).cell; obtain ⟨bm0, bp0, rfl, -⟩ := hR)
    | (refine ⟨trivial, ?_⟩; gi_at_call 18; refine (callsIn_wide.2 (From_any _ _ _)).mono ?_; rintro e w5 ⟨f, kb, rfl, hR, hkb, -, hB5⟩; have hm5 := (b7.below (hB4.trans (hB5.mono hB4.size)) (by omega)).cell; have HR : Hid (Rg w5 w4.heap.size f (some ⟨mb, 0, none⟩) (.func (.func 31) #[] #[.pointer (some ⟨kb, 0, none⟩)])) := hR; obtain ⟨bm, bp, rfl, -⟩ := hR))
  have hBv : Below w.heap.size w w5 := (hB3.trans (hB4.mono (by omega))).trans (hB5.mono (by have := hB4.size; omega))
  have hBv3 := hB4.trans (hB5.mono hB4.size)
  have HP : Pk w5 (.func (.func 31) #[] #[.pointer (some ⟨kb, 0, none⟩)]) (fun es => es.drop (pos es k)) := .inr (.inr (.inl ⟨kb, k, rfl, hkb, rfl⟩))
  have HPL : (es.drop (pos es k)).length ≤ es.length := by simp
  have hsv := hBv.size
  have hsv3 := hBv3.size
  have b7v := b7.below hBv3 (by omega)
  have b10v := b10.below hBv3 (by omega)
  have b11v := b11.below hBv3 (by omega)
  have hMv := HM.out.below hBv
  refine range_map2 (r1 := 13) (r2 := 14) rfl HR.out HP hMv (cb := sv.ownBlock.getD mb) (fun g hg => by simp [hg]) (by omega) hc
    (fun s pre W => ∃ kv vv, RI w w.heap.size (w.heap.size + 1) (w.heap.size + 1 + 1) mb es sv q m s.1 s.2 (c + 1) pre kv vv W ∧ (q = some s.1 ∨ (q = none ∧ w.heap.size ≤ s.1)) ∧ w5.heap.size + 2 ≤ s.2 ∧ (0 ≤ m → (pre.length : Int) < m))
    (fun s cc pre W => cc = .exit 1 ∧ ∃ kv vv, RI w w.heap.size (w.heap.size + 1) (w.heap.size + 1 + 1) mb es sv q m s.1 s.2 (c + 1) pre kv vv W ∧ (q = some s.1 ∨ (q = none ∧ w.heap.size ≤ s.1)) ∧ w5.heap.size + 2 ≤ s.2 ∧ (pre.length : Int) = m ∧ pre <+: es.drop (pos es k))
    (fun W => REnd w (w.heap.size + 1) (w.heap.size + 1 + 1) mb es sv q c (most m (es.drop (pos es k))) W) (fun cc W => cc = .exit 1 ∧ REnd w (w.heap.size + 1) (w.heap.size + 1 + 1) mb es sv q c (most m (es.drop (pos es k))) W)
    ?hI ?hIx ?hE ?hEx ?start ?assign ?body ?out ?outx ?done ?stop
  case hI =>
    rintro s pre A B row ⟨kv, vv, h1, h2, h3, h4⟩ hg hr
    exact ⟨kv, vv, h1.kept hsv hg hr, h2, h3, h4⟩
  case hIx =>
    rintro s cc pre A B row ⟨h0, kv, vv, h1, h2, h3, h4, h5⟩ hg hr
    exact ⟨h0, kv, vv, h1.kept hsv hg hr, h2, h3, h4, h5⟩
  case hE =>
    intro _ A B row h hg hr
    exact h.kept hsv hg hr
  case hEx =>
    rintro cc _ A B row ⟨h0, h⟩ hg hr
    exact ⟨h0, h.kept hsv hg hr⟩
  case start =>
    intro lb W0 hM0 hch hlq hs0
    have hX : ∀ {b : Nat} {v : Value} {t : TypeId}, Bx w5 b v t → b < w5.heap.size → w.heap.size ≤ b → ¬ (b = mb ∨ q = some b) := by
      rintro b v t hb hlt hge (e | e)
      · have := HM.out.lt; omega
      · rcases HM.out.lent with ⟨h0, _⟩ | ⟨b', eb, hb'⟩
        · rw [h0] at e; cases e
        · rw [eb] at e; cases e
          have := (Array.getElem?_eq_some_iff.1 hb').1
          omega
    have hlb0 : lb < W0.heap.size := by
      rcases hM0.lent with ⟨h0, _⟩ | ⟨b, e, hb⟩
      · cases h0
      · cases e; exact (Array.getElem?_eq_some_iff.1 hb).1
    have hne7 : lb ≠ w.heap.size := by
      rcases hlq with e | ⟨_, h⟩
      · rcases HM.out.lent with ⟨h0, _⟩ | ⟨b', eb, hb'⟩
        · rw [h0] at e; cases e
        · rw [eb] at e; cases e
          have := (Array.getElem?_eq_some_iff.1 hb').1
          omega
      · omega
    refine ⟨.slice none 0 0, .slice none 0 0, ⟨b10v.ch hch (hX b10v b10v.lt (by omega)), b11v.ch hch (hX b11v b11v.lt (by omega)), b7v.ch hch (hX b7v b7v.lt (by omega)), ⟨World.ownsRow_nil _ _ _ _, World.ownsRow_nil _ _ _ _⟩, hM0, ?_, hlb0, Nat.le_refl _, ⟨Nat.le_refl _, by omega, by omega, by omega, by omega, by omega, hne7⟩⟩, hlq.imp id (fun h => ⟨h.1, by omega⟩), hs0, ?_⟩
    · exact ⟨hch.os.trans hBv.os, hch.tape.trans hBv.tape, hch.output.trans hBv.output, by have := hch.size; omega, fun k hk hX => (hch.block k (by omega) hX).trans (hBv.block k hk)⟩
    · intro h; simp; omega
  case assign =>
    intro mm l x W K hK
    gi_wp2
    exact hK
  case body =>
    rintro mm l s pre x W ⟨kv, vv, hRI, hq, hN, hlen⟩ hnx
    obtain ⟨i0, hi, hz0, hz1, hz2⟩ := info_parts infoStr
    obtain ⟨j0, hj, hy0, hy1, hy2⟩ := info_parts infoInt
    have hple : pre.length + 1 ≤ es.length := by
      have := hnx.length_le
      simp at this
      have := HPL
      omega
    have hk0 := hRI.k.cell
    have hk1 := hRI.k.fro
    obtain ⟨ka, kc, rfl, -⟩ := row_slice hRI.kv.1
    obtain ⟨va, vc, rfl, -⟩ := row_slice hRI.kv.2
    have RR : Hid (RI w w.heap.size (w.heap.size + 1) (w.heap.size + 1 + 1) mb es sv q m s.1 s.2 (c + 1) pre (.slice ka pre.length kc) (.slice va pre.length vc) W) := hRI
    clear hRI
    have HN : Hid (pre ++ [x] <+: es.drop (pos es k)) := hnx
    clear hnx
    simp only [List.setIfInBounds_toArray, List.set_cons_succ, List.set_cons_zero]
    have bnd : pre.length + 1 ≤ maxLen ∧ (pre.length + 1) * 16 ≤ 140737488355328 ∧ (pre.length + 1) * 8 ≤ 140737488355328 := by unfold maxLen; omega
    have hle0 := RR.out.le
    have D0 : Hid (Rd2 W w.heap.size (w.heap.size + 1) (w.heap.size + 1 + 1) s.2 m (.slice ka pre.length kc) (.slice va pre.length vc) (.slice ka pre.length kc) (.slice va pre.length vc) (.slice ka pre.length kc) (.slice va pre.length vc) pre pre W) := by
      have hR := RR.out
      exact ⟨hR.k, hR.v, hR.m7, hR.kv.1, hR.kv.2, Ch.refl _ _, hR.le, hR.bx.2.2.2.1⟩
    gi_wp2_with (first
      | (gi_at_builtin; refine wpListIn_append_own _ rfl _ _ 27 rfl s.2 9 i0 (.string ⟨#[]⟩) 1 16 Try.underlying27 hi hz0 hz1 hz2 rfl (by decide) _ _ _ rfl (D0.out.kr.alloc _) ⟨W.heap.size, 0, none⟩ 1 1 [.string x.1] rfl rfl (cell_one_new _ _ _) (by simp [Value.oneCell']) bnd.1 bnd.2.1 (by simp; omega) ?_; intro v1 w1 hown1 hgrow1 _; obtain ⟨g1, cap1, rfl⟩ := ownsRow_succ hown1; have D1 : Hid (Rd2 W w.heap.size (w.heap.size + 1) (w.heap.size + 1 + 1) s.2 m (.slice ka pre.length kc) (.slice va pre.length vc) (.slice ka pre.length kc) (.slice va pre.length vc) (.slice (some ⟨g1, 0, none⟩) (pre.length + 1) cap1) (.slice va pre.length vc) (pre ++ [x]) pre w1) := D0.out.appK hown1 hgrow1; clear hown1 hgrow1; have hk2 := D1.out.k.cell; have hk3 := D1.out.k.fro; have D2 : Hid (Rd2 W w.heap.size (w.heap.size + 1) (w.heap.size + 1 + 1) s.2 m (.slice ka pre.length kc) (.slice va pre.length vc) (.slice (some ⟨g1, 0, none⟩) (pre.length + 1) cap1) (.slice va pre.length vc) (.slice (some ⟨g1, 0, none⟩) (pre.length + 1) cap1) (.slice va pre.length vc) (pre ++ [x]) pre (w1.setCell ⟨w.heap.size + 1, 0, none⟩ (.slice (some ⟨g1, 0, none⟩) (pre.length + 1) cap1))) := D1.out.stK; have hv2 := D2.out.v.cell; have hle2 := D2.out.le)
      | (gi_at_builtin; refine wpListIn_append_own _ rfl _ _ 28 rfl s.2 3 j0 (.int .i64 0) 1 8 Try.underlying28 hj hy0 hy1 hy2 rfl (by decide) _ _ _ rfl (D2.out.vr.alloc _) ⟨w1.heap.size, 0, none⟩ 1 1 [.int .i64 x.2] rfl rfl (new_one _ _ (by simp) _ _) (by simp [Value.oneCell']) bnd.1 bnd.2.2 (by simp at hle2 ⊢; omega) ?_; intro v3 w3 hown3 hgrow3 _; obtain ⟨g3, cap3, rfl⟩ := ownsRow_succ hown3; have D3 : Hid (Rd2 W w.heap.size (w.heap.size + 1) (w.heap.size + 1 + 1) s.2 m (.slice ka pre.length kc) (.slice va pre.length vc) (.slice (some ⟨g1, 0, none⟩) (pre.length + 1) cap1) (.slice va pre.length vc) (.slice (some ⟨g1, 0, none⟩) (pre.length + 1) cap1) (.slice (some ⟨g3, 0, none⟩) (pre.length + 1) cap3) (pre ++ [x]) (pre ++ [x]) w3) := D2.out.appV hown3 hgrow3; clear hown3 hgrow3; have hv3 := D3.out.v.cell; have hv4 := D3.out.v.fro; have D4 := D3.out.stV; have D5 : Hid (Rd2 W w.heap.size (w.heap.size + 1) (w.heap.size + 1 + 1) s.2 m (.slice ka pre.length kc) (.slice va pre.length vc) (.slice (some ⟨g1, 0, none⟩) (pre.length + 1) cap1) (.slice (some ⟨g3, 0, none⟩) (pre.length + 1) cap3) (.slice (some ⟨g1, 0, none⟩) (pre.length + 1) cap1) (.slice (some ⟨g3, 0, none⟩) (pre.length + 1) cap3) (pre ++ [x]) (pre ++ [x]) (w3.setCell ⟨w.heap.size + 1 + 1, 0, none⟩ (.slice (some ⟨g3, 0, none⟩) (pre.length + 1) cap3))) := D4; have hk6 := D4.k.cell; have hm6 := D4.m7.cell; clear D4))
    · rename_i he
      have he' : (pre.length : Int) + 1 = m := by simpa using he
      obtain ⟨s1, s2, s3⟩ := RR.out.step (B := w5.heap.size) (n₁ := w5.heap.size + 2) D5.out.ch D5.out.k D5.out.v ⟨D5.out.kr, D5.out.vr⟩ (by omega)
      exact ⟨s2, s3, rfl, _, _, s1, hq, hN, by simp; omega, HN.out⟩
    · rename_i he
      have he' : ¬ (pre.length : Int) + 1 = m := by simpa using he
      obtain ⟨s1, s2, s3⟩ := RR.out.step (B := w5.heap.size) (n₁ := w5.heap.size + 2) D5.out.ch D5.out.k D5.out.v ⟨D5.out.kr, D5.out.vr⟩ (by omega)
      exact ⟨s2, s3, _, _, s1, hq, hN, fun h => by have := hlen h; simp; omega⟩
  case out =>
    rintro s A W2 ⟨kv, vv, h1, h2, h3, h4⟩ hb
    have := h1.fin HM.out h2 (by omega) (by omega) hb
    have e : most m (es.drop (pos es k)) = es.drop (pos es k) := by
      unfold most
      split
      · rfl
      · have h4' : ((es.drop (pos es k)).length : Int) < m := h4 (by omega)
        exact List.take_of_length_le (by omega)
    rw [e]
    exact this
  case outx =>
    rintro s cc pre A W2 ⟨rfl, kv, vv, h1, h2, h3, h4, h5⟩ hb
    have := h1.fin HM.out h2 (by omega) (by omega) hb
    have e : most m (es.drop (pos es k)) = pre := by
      unfold most
      rw [if_neg (by omega), ← h4]
      exact (List.prefix_iff_eq_take.1 h5).symm
    rw [e]
    exact ⟨rfl, this⟩
  case done =>
    rintro W ⟨kv, vv, q', h1, h2, h3, h4, h5, h6⟩ hD
    have c1 := h1.cell
    have c2 := h2.cell
    obtain ⟨ka, kc, rfl, -⟩ := row_slice h3.1
    obtain ⟨va, vc, rfl, -⟩ := row_slice h3.2
    have HE : Hid (KV W w.heap.size (.slice ka (most m (es.drop (pos es k))).length kc) (.slice va (most m (es.drop (pos es k))).length vc) (most m (es.drop (pos es k))) ∧ Mp W mb es sv q' c ∧ Ch (fun b => b = mb) w W) := ⟨h3, h4, h5⟩
    clear h1 h2 h3 h4 h5
    gi_wp2
    refine wpIn_mono ?_ NoPanic.imp
    gi_region
    all_goals refine NoPanic.normal ?_
    all_goals gi_wp2
    all_goals refine ⟨by simp, .inl ⟨_, _, rfl, takes (W := W.drew) hD, ?_⟩⟩
    all_goals
      have hput : W.drew.grownBy (W.drew.putObj w5.heap.size (.deferred none)) (some w5.heap.size) := grownBy_putObj' W.drew _ _
      have hrow : ∀ r : Nat, some w5.heap.size = some r → ∃ o : Obj, W.drew.heap[r]? = some o ∧ o.isCells = false := fun r e => by cases e; exact ⟨_, hD, rfl⟩
      obtain ⟨e1, e2, e3⟩ := HE.out
      exact ⟨_, results_tmp2 rfl _ _ _, .slice ka (most m (es.drop (pos es k))).length kc, .slice va (most m (es.drop (pos es k))).length vc, q', rfl, ⟨row_kept (W := W.drew) e1.1 hput hrow, row_kept (W := W.drew) e1.2 hput hrow⟩, mp_kept (W := W.drew) ⟨e2.hd, e2.row, e2.rise, e2.lent⟩ hput hrow, e3.drew.kept (B := w.heap.size) (Nat.le_refl _) hput (fun r e => ⟨by cases e; omega, hrow r e⟩), h6⟩
  case stop =>
    rintro cc W ⟨rfl, kv, vv, q', h1, h2, h3, h4, h5, h6⟩ hD
    have c1 := h1.cell
    have c2 := h2.cell
    obtain ⟨ka, kc, rfl, -⟩ := row_slice h3.1
    obtain ⟨va, vc, rfl, -⟩ := row_slice h3.2
    have HE : Hid (KV W w.heap.size (.slice ka (most m (es.drop (pos es k))).length kc) (.slice va (most m (es.drop (pos es k))).length vc) (most m (es.drop (pos es k))) ∧ Mp W mb es sv q' c ∧ Ch (fun b => b = mb) w W) := ⟨h3, h4, h5⟩
    clear h1 h2 h3 h4 h5
    gi_wp2
    refine wpIn_mono ?_ NoPanic.imp
    gi_region
    all_goals refine NoPanic.normal ?_
    all_goals gi_wp2
    all_goals refine ⟨by simp, .inl ⟨_, _, rfl, takes (W := W.drew) hD, ?_⟩⟩
    all_goals
      have hput : W.drew.grownBy (W.drew.putObj w5.heap.size (.deferred none)) (some w5.heap.size) := grownBy_putObj' W.drew _ _
      have hrow : ∀ r : Nat, some w5.heap.size = some r → ∃ o : Obj, W.drew.heap[r]? = some o ∧ o.isCells = false := fun r e => by cases e; exact ⟨_, hD, rfl⟩
      obtain ⟨e1, e2, e3⟩ := HE.out
      exact ⟨_, results_tmp2 rfl _ _ _, .slice ka (most m (es.drop (pos es k))).length kc, .slice va (most m (es.drop (pos es k))).length vc, q', rfl, ⟨row_kept (W := W.drew) e1.1 hput hrow, row_kept (W := W.drew) e1.2 hput hrow⟩, mp_kept (W := W.drew) ⟨e2.hd, e2.row, e2.rise, e2.lent⟩ hput hrow, e3.drew.kept (B := w.heap.size) (Nat.le_refl _) hput (fun r e => ⟨by cases e; omega, hrow r e⟩), h6⟩

set_option maxRecDepth 100000 in
set_option maxHeartbeats 4000000 in
theorem ranged_down {w : World} {mb : Nat} {es : List Ent} {sv : Value} {q : Option Nat} {c : Nat} (hM : Mp w mb es sv q c) (hc : c < 4611686018427387904) (hn : es.length * 24 ≤ 211106232528000) (k : ByteArray) (m : Int) (hm : m ≠ 0) :
    Calls Try.prog 7 #[.pointer (some ⟨mb, 0, none⟩), .int .i64 6, .string k, .int .i64 m] w fun e w' => ∃ kv vv q', e = .returned (.tuple #[kv, vv]) ∧ KV w' w.heap.size kv vv (most m (es.reverse)) ∧ Mp w' mb es sv q' c ∧ Ch (fun b => b = mb) w w' ∧ (q' = q ∨ (q = none ∧ ∃ b, q' = some b ∧ w.heap.size ≤ b)) := by
  refine (callsIn_wide (n := 9)).1 ?_
  refine callsIn_of_wp_marks Try.func7 rfl trivial ?_ rfl
  simp only [Try.ntmps7, List.size_toArray, List.length_cons, List.length_nil, Nat.reduceAdd, Nat.reduceSub, Array.replicate_succ, Array.replicate_zero, List.push_toArray, List.append_toArray, List.nil_append, List.cons_append]
  have HM : Hid (Mp w mb es sv q c) := hM
  have hbm : (m == 0) = false := by simpa using hm
  clear hM
  obtain ⟨W3, hW3⟩ : ∃ W3, W3 = ((w.alloc (.cells #[.int .i64 m] 3)).alloc (.cells #[.slice none 0 0] 27)).alloc (.cells #[.slice none 0 0] 28) := ⟨_, rfl⟩
  have hs3 : W3.heap.size = w.heap.size + 1 + 1 + 1 := by rw [hW3]; simp
  have hB3 : Below w.heap.size w W3 := by rw [hW3]; exact (((Below.refl _ w).alloc (Nat.le_refl _) _).alloc (by simp) _).alloc (by simp; omega) _
  have b7 : Bx W3 w.heap.size (.int .i64 m) 3 := by rw [hW3]; exact ((Bx.new w _ _).alloc _).alloc _
  have b10 : Bx W3 (w.heap.size + 1) (.slice none 0 0) 27 := by
    rw [hW3]
    have := (Bx.new (w.alloc (.cells #[.int .i64 m] 3)) (.slice none 0 0) 27).alloc (.cells #[.slice none 0 0] 28)
    rwa [World.size_alloc] at this
  have b11 : Bx W3 (w.heap.size + 1 + 1) (.slice none 0 0) 28 := by
    rw [hW3]
    have := Bx.new ((w.alloc (.cells #[.int .i64 m] 3)).alloc (.cells #[.slice none 0 0] 27)) (.slice none 0 0) 28
    rwa [World.size_alloc, World.size_alloc] at this
  gi_wp2_with (first
    | (refine ⟨trivial, ?_⟩; gi_at_call 17; rw [← hW3]; refine (callsIn_wide.2 (All_any _ _)).mono ?_; rintro e w4 ⟨f, rfl, hR, hB4⟩; have hm4 := (b7.below hB4 (by omega)).cell; obtain ⟨bm0, bp0, rfl, -⟩ := hR)
    | (refine ⟨trivial, ?_⟩; gi_at_call 19; refine (callsIn_wide.2 (Down_any _ _)).mono ?_; rintro e w5 ⟨f, rfl, hR, hB5⟩; have hm5 := (b7.below (hB4.trans (hB5.mono hB4.size)) (by omega)).cell; have HR : Hid (Rg w5 w4.heap.size f (some ⟨mb, 0, none⟩) (.func (.func 33) #[] #[])) := hR; obtain ⟨bm, bp, rfl, -⟩ := hR))
  have hBv : Below w.heap.size w w5 := (hB3.trans (hB4.mono (by omega))).trans (hB5.mono (by have := hB4.size; omega))
  have hBv3 := hB4.trans (hB5.mono hB4.size)
  have HP : Pk w5 (.func (.func 33) #[] #[]) (List.reverse) := .inr (.inl ⟨rfl, rfl⟩)
  have HPL : (es.reverse).length ≤ es.length := by simp
  have hsv := hBv.size
  have hsv3 := hBv3.size
  have b7v := b7.below hBv3 (by omega)
  have b10v := b10.below hBv3 (by omega)
  have b11v := b11.below hBv3 (by omega)
  have hMv := HM.out.below hBv
  refine range_map2 (r1 := 13) (r2 := 14) rfl HR.out HP hMv (cb := sv.ownBlock.getD mb) (fun g hg => by simp [hg]) (by omega) hc
    (fun s pre W => ∃ kv vv, RI w w.heap.size (w.heap.size + 1) (w.heap.size + 1 + 1) mb es sv q m s.1 s.2 (c + 1) pre kv vv W ∧ (q = some s.1 ∨ (q = none ∧ w.heap.size ≤ s.1)) ∧ w5.heap.size + 2 ≤ s.2 ∧ (0 ≤ m → (pre.length : Int) < m))
    (fun s cc pre W => cc = .exit 1 ∧ ∃ kv vv, RI w w.heap.size (w.heap.size + 1) (w.heap.size + 1 + 1) mb es sv q m s.1 s.2 (c + 1) pre kv vv W ∧ (q = some s.1 ∨ (q = none ∧ w.heap.size ≤ s.1)) ∧ w5.heap.size + 2 ≤ s.2 ∧ (pre.length : Int) = m ∧ pre <+: es.reverse)
    (fun W => REnd w (w.heap.size + 1) (w.heap.size + 1 + 1) mb es sv q c (most m (es.reverse)) W) (fun cc W => cc = .exit 1 ∧ REnd w (w.heap.size + 1) (w.heap.size + 1 + 1) mb es sv q c (most m (es.reverse)) W)
    ?hI ?hIx ?hE ?hEx ?start ?assign ?body ?out ?outx ?done ?stop
  case hI =>
    rintro s pre A B row ⟨kv, vv, h1, h2, h3, h4⟩ hg hr
    exact ⟨kv, vv, h1.kept hsv hg hr, h2, h3, h4⟩
  case hIx =>
    rintro s cc pre A B row ⟨h0, kv, vv, h1, h2, h3, h4, h5⟩ hg hr
    exact ⟨h0, kv, vv, h1.kept hsv hg hr, h2, h3, h4, h5⟩
  case hE =>
    intro _ A B row h hg hr
    exact h.kept hsv hg hr
  case hEx =>
    rintro cc _ A B row ⟨h0, h⟩ hg hr
    exact ⟨h0, h.kept hsv hg hr⟩
  case start =>
    intro lb W0 hM0 hch hlq hs0
    have hX : ∀ {b : Nat} {v : Value} {t : TypeId}, Bx w5 b v t → b < w5.heap.size → w.heap.size ≤ b → ¬ (b = mb ∨ q = some b) := by
      rintro b v t hb hlt hge (e | e)
      · have := HM.out.lt; omega
      · rcases HM.out.lent with ⟨h0, _⟩ | ⟨b', eb, hb'⟩
        · rw [h0] at e; cases e
        · rw [eb] at e; cases e
          have := (Array.getElem?_eq_some_iff.1 hb').1
          omega
    have hlb0 : lb < W0.heap.size := by
      rcases hM0.lent with ⟨h0, _⟩ | ⟨b, e, hb⟩
      · cases h0
      · cases e; exact (Array.getElem?_eq_some_iff.1 hb).1
    have hne7 : lb ≠ w.heap.size := by
      rcases hlq with e | ⟨_, h⟩
      · rcases HM.out.lent with ⟨h0, _⟩ | ⟨b', eb, hb'⟩
        · rw [h0] at e; cases e
        · rw [eb] at e; cases e
          have := (Array.getElem?_eq_some_iff.1 hb').1
          omega
      · omega
    refine ⟨.slice none 0 0, .slice none 0 0, ⟨b10v.ch hch (hX b10v b10v.lt (by omega)), b11v.ch hch (hX b11v b11v.lt (by omega)), b7v.ch hch (hX b7v b7v.lt (by omega)), ⟨World.ownsRow_nil _ _ _ _, World.ownsRow_nil _ _ _ _⟩, hM0, ?_, hlb0, Nat.le_refl _, ⟨Nat.le_refl _, by omega, by omega, by omega, by omega, by omega, hne7⟩⟩, hlq.imp id (fun h => ⟨h.1, by omega⟩), hs0, ?_⟩
    · exact ⟨hch.os.trans hBv.os, hch.tape.trans hBv.tape, hch.output.trans hBv.output, by have := hch.size; omega, fun k hk hX => (hch.block k (by omega) hX).trans (hBv.block k hk)⟩
    · intro h; simp; omega
  case assign =>
    intro mm l x W K hK
    gi_wp2
    exact hK
  case body =>
    rintro mm l s pre x W ⟨kv, vv, hRI, hq, hN, hlen⟩ hnx
    obtain ⟨i0, hi, hz0, hz1, hz2⟩ := info_parts infoStr
    obtain ⟨j0, hj, hy0, hy1, hy2⟩ := info_parts infoInt
    have hple : pre.length + 1 ≤ es.length := by
      have := hnx.length_le
      simp at this
      have := HPL
      omega
    have hk0 := hRI.k.cell
    have hk1 := hRI.k.fro
    obtain ⟨ka, kc, rfl, -⟩ := row_slice hRI.kv.1
    obtain ⟨va, vc, rfl, -⟩ := row_slice hRI.kv.2
    have RR : Hid (RI w w.heap.size (w.heap.size + 1) (w.heap.size + 1 + 1) mb es sv q m s.1 s.2 (c + 1) pre (.slice ka pre.length kc) (.slice va pre.length vc) W) := hRI
    clear hRI
    have HN : Hid (pre ++ [x] <+: es.reverse) := hnx
    clear hnx
    simp only [List.setIfInBounds_toArray, List.set_cons_succ, List.set_cons_zero]
    have bnd : pre.length + 1 ≤ maxLen ∧ (pre.length + 1) * 16 ≤ 140737488355328 ∧ (pre.length + 1) * 8 ≤ 140737488355328 := by unfold maxLen; omega
    have hle0 := RR.out.le
    have D0 : Hid (Rd2 W w.heap.size (w.heap.size + 1) (w.heap.size + 1 + 1) s.2 m (.slice ka pre.length kc) (.slice va pre.length vc) (.slice ka pre.length kc) (.slice va pre.length vc) (.slice ka pre.length kc) (.slice va pre.length vc) pre pre W) := by
      have hR := RR.out
      exact ⟨hR.k, hR.v, hR.m7, hR.kv.1, hR.kv.2, Ch.refl _ _, hR.le, hR.bx.2.2.2.1⟩
    gi_wp2_with (first
      | (gi_at_builtin; refine wpListIn_append_own _ rfl _ _ 27 rfl s.2 9 i0 (.string ⟨#[]⟩) 1 16 Try.underlying27 hi hz0 hz1 hz2 rfl (by decide) _ _ _ rfl (D0.out.kr.alloc _) ⟨W.heap.size, 0, none⟩ 1 1 [.string x.1] rfl rfl (cell_one_new _ _ _) (by simp [Value.oneCell']) bnd.1 bnd.2.1 (by simp; omega) ?_; intro v1 w1 hown1 hgrow1 _; obtain ⟨g1, cap1, rfl⟩ := ownsRow_succ hown1; have D1 : Hid (Rd2 W w.heap.size (w.heap.size + 1) (w.heap.size + 1 + 1) s.2 m (.slice ka pre.length kc) (.slice va pre.length vc) (.slice ka pre.length kc) (.slice va pre.length vc) (.slice (some ⟨g1, 0, none⟩) (pre.length + 1) cap1) (.slice va pre.length vc) (pre ++ [x]) pre w1) := D0.out.appK hown1 hgrow1; clear hown1 hgrow1; have hk2 := D1.out.k.cell; have hk3 := D1.out.k.fro; have D2 : Hid (Rd2 W w.heap.size (w.heap.size + 1) (w.heap.size + 1 + 1) s.2 m (.slice ka pre.length kc) (.slice va pre.length vc) (.slice (some ⟨g1, 0, none⟩) (pre.length + 1) cap1) (.slice va pre.length vc) (.slice (some ⟨g1, 0, none⟩) (pre.length + 1) cap1) (.slice va pre.length vc) (pre ++ [x]) pre (w1.setCell ⟨w.heap.size + 1, 0, none⟩ (.slice (some ⟨g1, 0, none⟩) (pre.length + 1) cap1))) := D1.out.stK; have hv2 := D2.out.v.cell; have hle2 := D2.out.le)
      | (gi_at_builtin; refine wpListIn_append_own _ rfl _ _ 28 rfl s.2 3 j0 (.int .i64 0) 1 8 Try.underlying28 hj hy0 hy1 hy2 rfl (by decide) _ _ _ rfl (D2.out.vr.alloc _) ⟨w1.heap.size, 0, none⟩ 1 1 [.int .i64 x.2] rfl rfl (new_one _ _ (by simp) _ _) (by simp [Value.oneCell']) bnd.1 bnd.2.2 (by simp at hle2 ⊢; omega) ?_; intro v3 w3 hown3 hgrow3 _; obtain ⟨g3, cap3, rfl⟩ := ownsRow_succ hown3; have D3 : Hid (Rd2 W w.heap.size (w.heap.size + 1) (w.heap.size + 1 + 1) s.2 m (.slice ka pre.length kc) (.slice va pre.length vc) (.slice (some ⟨g1, 0, none⟩) (pre.length + 1) cap1) (.slice va pre.length vc) (.slice (some ⟨g1, 0, none⟩) (pre.length + 1) cap1) (.slice (some ⟨g3, 0, none⟩) (pre.length + 1) cap3) (pre ++ [x]) (pre ++ [x]) w3) := D2.out.appV hown3 hgrow3; clear hown3 hgrow3; have hv3 := D3.out.v.cell; have hv4 := D3.out.v.fro; have D4 := D3.out.stV; have D5 : Hid (Rd2 W w.heap.size (w.heap.size + 1) (w.heap.size + 1 + 1) s.2 m (.slice ka pre.length kc) (.slice va pre.length vc) (.slice (some ⟨g1, 0, none⟩) (pre.length + 1) cap1) (.slice (some ⟨g3, 0, none⟩) (pre.length + 1) cap3) (.slice (some ⟨g1, 0, none⟩) (pre.length + 1) cap1) (.slice (some ⟨g3, 0, none⟩) (pre.length + 1) cap3) (pre ++ [x]) (pre ++ [x]) (w3.setCell ⟨w.heap.size + 1 + 1, 0, none⟩ (.slice (some ⟨g3, 0, none⟩) (pre.length + 1) cap3))) := D4; have hk6 := D4.k.cell; have hm6 := D4.m7.cell; clear D4))
    · rename_i he
      have he' : (pre.length : Int) + 1 = m := by simpa using he
      obtain ⟨s1, s2, s3⟩ := RR.out.step (B := w5.heap.size) (n₁ := w5.heap.size + 2) D5.out.ch D5.out.k D5.out.v ⟨D5.out.kr, D5.out.vr⟩ (by omega)
      exact ⟨s2, s3, rfl, _, _, s1, hq, hN, by simp; omega, HN.out⟩
    · rename_i he
      have he' : ¬ (pre.length : Int) + 1 = m := by simpa using he
      obtain ⟨s1, s2, s3⟩ := RR.out.step (B := w5.heap.size) (n₁ := w5.heap.size + 2) D5.out.ch D5.out.k D5.out.v ⟨D5.out.kr, D5.out.vr⟩ (by omega)
      exact ⟨s2, s3, _, _, s1, hq, hN, fun h => by have := hlen h; simp; omega⟩
  case out =>
    rintro s A W2 ⟨kv, vv, h1, h2, h3, h4⟩ hb
    have := h1.fin HM.out h2 (by omega) (by omega) hb
    have e : most m (es.reverse) = es.reverse := by
      unfold most
      split
      · rfl
      · have h4' : ((es.reverse).length : Int) < m := h4 (by omega)
        exact List.take_of_length_le (by omega)
    rw [e]
    exact this
  case outx =>
    rintro s cc pre A W2 ⟨rfl, kv, vv, h1, h2, h3, h4, h5⟩ hb
    have := h1.fin HM.out h2 (by omega) (by omega) hb
    have e : most m (es.reverse) = pre := by
      unfold most
      rw [if_neg (by omega), ← h4]
      exact (List.prefix_iff_eq_take.1 h5).symm
    rw [e]
    exact ⟨rfl, this⟩
  case done =>
    rintro W ⟨kv, vv, q', h1, h2, h3, h4, h5, h6⟩ hD
    have c1 := h1.cell
    have c2 := h2.cell
    obtain ⟨ka, kc, rfl, -⟩ := row_slice h3.1
    obtain ⟨va, vc, rfl, -⟩ := row_slice h3.2
    have HE : Hid (KV W w.heap.size (.slice ka (most m (es.reverse)).length kc) (.slice va (most m (es.reverse)).length vc) (most m (es.reverse)) ∧ Mp W mb es sv q' c ∧ Ch (fun b => b = mb) w W) := ⟨h3, h4, h5⟩
    clear h1 h2 h3 h4 h5
    gi_wp2
    refine wpIn_mono ?_ NoPanic.imp
    gi_region
    all_goals refine NoPanic.normal ?_
    all_goals gi_wp2
    all_goals refine ⟨by simp, .inl ⟨_, _, rfl, takes (W := W.drew) hD, ?_⟩⟩
    all_goals
      have hput : W.drew.grownBy (W.drew.putObj w5.heap.size (.deferred none)) (some w5.heap.size) := grownBy_putObj' W.drew _ _
      have hrow : ∀ r : Nat, some w5.heap.size = some r → ∃ o : Obj, W.drew.heap[r]? = some o ∧ o.isCells = false := fun r e => by cases e; exact ⟨_, hD, rfl⟩
      obtain ⟨e1, e2, e3⟩ := HE.out
      exact ⟨_, results_tmp2 rfl _ _ _, .slice ka (most m (es.reverse)).length kc, .slice va (most m (es.reverse)).length vc, q', rfl, ⟨row_kept (W := W.drew) e1.1 hput hrow, row_kept (W := W.drew) e1.2 hput hrow⟩, mp_kept (W := W.drew) ⟨e2.hd, e2.row, e2.rise, e2.lent⟩ hput hrow, e3.drew.kept (B := w.heap.size) (Nat.le_refl _) hput (fun r e => ⟨by cases e; omega, hrow r e⟩), h6⟩
  case stop =>
    rintro cc W ⟨rfl, kv, vv, q', h1, h2, h3, h4, h5, h6⟩ hD
    have c1 := h1.cell
    have c2 := h2.cell
    obtain ⟨ka, kc, rfl, -⟩ := row_slice h3.1
    obtain ⟨va, vc, rfl, -⟩ := row_slice h3.2
    have HE : Hid (KV W w.heap.size (.slice ka (most m (es.reverse)).length kc) (.slice va (most m (es.reverse)).length vc) (most m (es.reverse)) ∧ Mp W mb es sv q' c ∧ Ch (fun b => b = mb) w W) := ⟨h3, h4, h5⟩
    clear h1 h2 h3 h4 h5
    gi_wp2
    refine wpIn_mono ?_ NoPanic.imp
    gi_region
    all_goals refine NoPanic.normal ?_
    all_goals gi_wp2
    all_goals refine ⟨by simp, .inl ⟨_, _, rfl, takes (W := W.drew) hD, ?_⟩⟩
    all_goals
      have hput : W.drew.grownBy (W.drew.putObj w5.heap.size (.deferred none)) (some w5.heap.size) := grownBy_putObj' W.drew _ _
      have hrow : ∀ r : Nat, some w5.heap.size = some r → ∃ o : Obj, W.drew.heap[r]? = some o ∧ o.isCells = false := fun r e => by cases e; exact ⟨_, hD, rfl⟩
      obtain ⟨e1, e2, e3⟩ := HE.out
      exact ⟨_, results_tmp2 rfl _ _ _, .slice ka (most m (es.reverse)).length kc, .slice va (most m (es.reverse)).length vc, q', rfl, ⟨row_kept (W := W.drew) e1.1 hput hrow, row_kept (W := W.drew) e1.2 hput hrow⟩, mp_kept (W := W.drew) ⟨e2.hd, e2.row, e2.rise, e2.lent⟩ hput hrow, e3.drew.kept (B := w.heap.size) (Nat.le_refl _) hput (fun r e => ⟨by cases e; omega, hrow r e⟩), h6⟩

set_option maxRecDepth 100000 in
set_option maxHeartbeats 4000000 in
theorem ranged_under {w : World} {mb : Nat} {es : List Ent} {sv : Value} {q : Option Nat} {c : Nat} (hM : Mp w mb es sv q c) (hc : c < 4611686018427387904) (hn : es.length * 24 ≤ 211106232528000) (k : ByteArray) (m : Int) (hm : m ≠ 0) :
    Calls Try.prog 7 #[.pointer (some ⟨mb, 0, none⟩), .int .i64 7, .string k, .int .i64 m] w fun e w' => ∃ kv vv q', e = .returned (.tuple #[kv, vv]) ∧ KV w' w.heap.size kv vv (most m (under es k)) ∧ Mp w' mb es sv q' c ∧ Ch (fun b => b = mb) w w' ∧ (q' = q ∨ (q = none ∧ ∃ b, q' = some b ∧ w.heap.size ≤ b)) := by
  refine (callsIn_wide (n := 9)).1 ?_
  refine callsIn_of_wp_marks Try.func7 rfl trivial ?_ rfl
  simp only [Try.ntmps7, List.size_toArray, List.length_cons, List.length_nil, Nat.reduceAdd, Nat.reduceSub, Array.replicate_succ, Array.replicate_zero, List.push_toArray, List.append_toArray, List.nil_append, List.cons_append]
  have HM : Hid (Mp w mb es sv q c) := hM
  have hbm : (m == 0) = false := by simpa using hm
  clear hM
  obtain ⟨W3, hW3⟩ : ∃ W3, W3 = ((w.alloc (.cells #[.int .i64 m] 3)).alloc (.cells #[.slice none 0 0] 27)).alloc (.cells #[.slice none 0 0] 28) := ⟨_, rfl⟩
  have hs3 : W3.heap.size = w.heap.size + 1 + 1 + 1 := by rw [hW3]; simp
  have hB3 : Below w.heap.size w W3 := by rw [hW3]; exact (((Below.refl _ w).alloc (Nat.le_refl _) _).alloc (by simp) _).alloc (by simp; omega) _
  have b7 : Bx W3 w.heap.size (.int .i64 m) 3 := by rw [hW3]; exact ((Bx.new w _ _).alloc _).alloc _
  have b10 : Bx W3 (w.heap.size + 1) (.slice none 0 0) 27 := by
    rw [hW3]
    have := (Bx.new (w.alloc (.cells #[.int .i64 m] 3)) (.slice none 0 0) 27).alloc (.cells #[.slice none 0 0] 28)
    rwa [World.size_alloc] at this
  have b11 : Bx W3 (w.heap.size + 1 + 1) (.slice none 0 0) 28 := by
    rw [hW3]
    have := Bx.new ((w.alloc (.cells #[.int .i64 m] 3)).alloc (.cells #[.slice none 0 0] 27)) (.slice none 0 0) 28
    rwa [World.size_alloc, World.size_alloc] at this
  gi_wp2_with (first
    | (refine ⟨trivial, ?_⟩; gi_at_call 17; rw [← hW3]; refine (callsIn_wide.2 (All_any _ _)).mono ?_; rintro e w4 ⟨f, rfl, hR, hB4⟩; have hm4 := (b7.below hB4 (by omega)).cell; obtain ⟨bm0, bp0, rfl, -⟩ := hR)
    | (refine ⟨trivial, ?_⟩; gi_at_call 20; refine (callsIn_wide.2 (Under_any _ _ _)).mono ?_; rintro e w5 ⟨f, kb, rfl, hR, hkb, -, hB5⟩; have hm5 := (b7.below (hB4.trans (hB5.mono hB4.size)) (by omega)).cell; have HR : Hid (Rg w5 w4.heap.size f (some ⟨mb, 0, none⟩) (.func (.func 34) #[] #[.pointer (some ⟨kb, 0, none⟩)])) := hR; obtain ⟨bm, bp, rfl, -⟩ := hR))
  have hBv : Below w.heap.size w w5 := (hB3.trans (hB4.mono (by omega))).trans (hB5.mono (by have := hB4.size; omega))
  have hBv3 := hB4.trans (hB5.mono hB4.size)
  have HP : Pk w5 (.func (.func 34) #[] #[.pointer (some ⟨kb, 0, none⟩)]) (fun es => under es k) := .inr (.inr (.inr ⟨kb, k, rfl, hkb, rfl⟩))
  have HPL : (under es k).length ≤ es.length := by simp [under]; omega
  have hsv := hBv.size
  have hsv3 := hBv3.size
  have b7v := b7.below hBv3 (by omega)
  have b10v := b10.below hBv3 (by omega)
  have b11v := b11.below hBv3 (by omega)
  have hMv := HM.out.below hBv
  refine range_map2 (r1 := 13) (r2 := 14) rfl HR.out HP hMv (cb := sv.ownBlock.getD mb) (fun g hg => by simp [hg]) (by omega) hc
    (fun s pre W => ∃ kv vv, RI w w.heap.size (w.heap.size + 1) (w.heap.size + 1 + 1) mb es sv q m s.1 s.2 (c + 1) pre kv vv W ∧ (q = some s.1 ∨ (q = none ∧ w.heap.size ≤ s.1)) ∧ w5.heap.size + 2 ≤ s.2 ∧ (0 ≤ m → (pre.length : Int) < m))
    (fun s cc pre W => cc = .exit 1 ∧ ∃ kv vv, RI w w.heap.size (w.heap.size + 1) (w.heap.size + 1 + 1) mb es sv q m s.1 s.2 (c + 1) pre kv vv W ∧ (q = some s.1 ∨ (q = none ∧ w.heap.size ≤ s.1)) ∧ w5.heap.size + 2 ≤ s.2 ∧ (pre.length : Int) = m ∧ pre <+: under es k)
    (fun W => REnd w (w.heap.size + 1) (w.heap.size + 1 + 1) mb es sv q c (most m (under es k)) W) (fun cc W => cc = .exit 1 ∧ REnd w (w.heap.size + 1) (w.heap.size + 1 + 1) mb es sv q c (most m (under es k)) W)
    ?hI ?hIx ?hE ?hEx ?start ?assign ?body ?out ?outx ?done ?stop
  case hI =>
    rintro s pre A B row ⟨kv, vv, h1, h2, h3, h4⟩ hg hr
    exact ⟨kv, vv, h1.kept hsv hg hr, h2, h3, h4⟩
  case hIx =>
    rintro s cc pre A B row ⟨h0, kv, vv, h1, h2, h3, h4, h5⟩ hg hr
    exact ⟨h0, kv, vv, h1.kept hsv hg hr, h2, h3, h4, h5⟩
  case hE =>
    intro _ A B row h hg hr
    exact h.kept hsv hg hr
  case hEx =>
    rintro cc _ A B row ⟨h0, h⟩ hg hr
    exact ⟨h0, h.kept hsv hg hr⟩
  case start =>
    intro lb W0 hM0 hch hlq hs0
    have hX : ∀ {b : Nat} {v : Value} {t : TypeId}, Bx w5 b v t → b < w5.heap.size → w.heap.size ≤ b → ¬ (b = mb ∨ q = some b) := by
      rintro b v t hb hlt hge (e | e)
      · have := HM.out.lt; omega
      · rcases HM.out.lent with ⟨h0, _⟩ | ⟨b', eb, hb'⟩
        · rw [h0] at e; cases e
        · rw [eb] at e; cases e
          have := (Array.getElem?_eq_some_iff.1 hb').1
          omega
    have hlb0 : lb < W0.heap.size := by
      rcases hM0.lent with ⟨h0, _⟩ | ⟨b, e, hb⟩
      · cases h0
      · cases e; exact (Array.getElem?_eq_some_iff.1 hb).1
    have hne7 : lb ≠ w.heap.size := by
      rcases hlq with e | ⟨_, h⟩
      · rcases HM.out.lent with ⟨h0, _⟩ | ⟨b', eb, hb'⟩
        · rw [h0] at e; cases e
        · rw [eb] at e; cases e
          have := (Array.getElem?_eq_some_iff.1 hb').1
          omega
      · omega
    refine ⟨.slice none 0 0, .slice none 0 0, ⟨b10v.ch hch (hX b10v b10v.lt (by omega)), b11v.ch hch (hX b11v b11v.lt (by omega)), b7v.ch hch (hX b7v b7v.lt (by omega)), ⟨World.ownsRow_nil _ _ _ _, World.ownsRow_nil _ _ _ _⟩, hM0, ?_, hlb0, Nat.le_refl _, ⟨Nat.le_refl _, by omega, by omega, by omega, by omega, by omega, hne7⟩⟩, hlq.imp id (fun h => ⟨h.1, by omega⟩), hs0, ?_⟩
    · exact ⟨hch.os.trans hBv.os, hch.tape.trans hBv.tape, hch.output.trans hBv.output, by have := hch.size; omega, fun k hk hX => (hch.block k (by omega) hX).trans (hBv.block k hk)⟩
    · intro h; simp; omega
  case assign =>
    intro mm l x W K hK
    gi_wp2
    exact hK
  case body =>
    rintro mm l s pre x W ⟨kv, vv, hRI, hq, hN, hlen⟩ hnx
    obtain ⟨i0, hi, hz0, hz1, hz2⟩ := info_parts infoStr
    obtain ⟨j0, hj, hy0, hy1, hy2⟩ := info_parts infoInt
    have hple : pre.length + 1 ≤ es.length := by
      have := hnx.length_le
      simp at this
      have := HPL
      omega
    have hk0 := hRI.k.cell
    have hk1 := hRI.k.fro
    obtain ⟨ka, kc, rfl, -⟩ := row_slice hRI.kv.1
    obtain ⟨va, vc, rfl, -⟩ := row_slice hRI.kv.2
    have RR : Hid (RI w w.heap.size (w.heap.size + 1) (w.heap.size + 1 + 1) mb es sv q m s.1 s.2 (c + 1) pre (.slice ka pre.length kc) (.slice va pre.length vc) W) := hRI
    clear hRI
    have HN : Hid (pre ++ [x] <+: under es k) := hnx
    clear hnx
    simp only [List.setIfInBounds_toArray, List.set_cons_succ, List.set_cons_zero]
    have bnd : pre.length + 1 ≤ maxLen ∧ (pre.length + 1) * 16 ≤ 140737488355328 ∧ (pre.length + 1) * 8 ≤ 140737488355328 := by unfold maxLen; omega
    have hle0 := RR.out.le
    have D0 : Hid (Rd2 W w.heap.size (w.heap.size + 1) (w.heap.size + 1 + 1) s.2 m (.slice ka pre.length kc) (.slice va pre.length vc) (.slice ka pre.length kc) (.slice va pre.length vc) (.slice ka pre.length kc) (.slice va pre.length vc) pre pre W) := by
      have hR := RR.out
      exact ⟨hR.k, hR.v, hR.m7, hR.kv.1, hR.kv.2, Ch.refl _ _, hR.le, hR.bx.2.2.2.1⟩
    gi_wp2_with (first
      | (gi_at_builtin; refine wpListIn_append_own _ rfl _ _ 27 rfl s.2 9 i0 (.string ⟨#[]⟩) 1 16 Try.underlying27 hi hz0 hz1 hz2 rfl (by decide) _ _ _ rfl (D0.out.kr.alloc _) ⟨W.heap.size, 0, none⟩ 1 1 [.string x.1] rfl rfl (cell_one_new _ _ _) (by simp [Value.oneCell']) bnd.1 bnd.2.1 (by simp; omega) ?_; intro v1 w1 hown1 hgrow1 _; obtain ⟨g1, cap1, rfl⟩ := ownsRow_succ hown1; have D1 : Hid (Rd2 W w.heap.size (w.heap.size + 1) (w.heap.size + 1 + 1) s.2 m (.slice ka pre.length kc) (.slice va pre.length vc) (.slice ka pre.length kc) (.slice va pre.length vc) (.slice (some ⟨g1, 0, none⟩) (pre.length + 1) cap1) (.slice va pre.length vc) (pre ++ [x]) pre w1) := D0.out.appK hown1 hgrow1; clear hown1 hgrow1; have hk2 := D1.out.k.cell; have hk3 := D1.out.k.fro; have D2 : Hid (Rd2 W w.heap.size (w.heap.size + 1) (w.heap.size + 1 + 1) s.2 m (.slice ka pre.length kc) (.slice va pre.length vc) (.slice (some ⟨g1, 0, none⟩) (pre.length + 1) cap1) (.slice va pre.length vc) (.slice (some ⟨g1, 0, none⟩) (pre.length + 1) cap1) (.slice va pre.length vc) (pre ++ [x]) pre (w1.setCell ⟨w.heap.size + 1, 0, none⟩ (.slice (some ⟨g1, 0, none⟩) (pre.length + 1) cap1))) := D1.out.stK; have hv2 := D2.out.v.cell; have hle2 := D2.out.le)
      | (gi_at_builtin; refine wpListIn_append_own _ rfl _ _ 28 rfl s.2 3 j0 (.int .i64 0) 1 8 Try.underlying28 hj hy0 hy1 hy2 rfl (by decide) _ _ _ rfl (D2.out.vr.alloc _) ⟨w1.heap.size, 0, none⟩ 1 1 [.int .i64 x.2] rfl rfl (new_one _ _ (by simp) _ _) (by simp [Value.oneCell']) bnd.1 bnd.2.2 (by simp at hle2 ⊢; omega) ?_; intro v3 w3 hown3 hgrow3 _; obtain ⟨g3, cap3, rfl⟩ := ownsRow_succ hown3; have D3 : Hid (Rd2 W w.heap.size (w.heap.size + 1) (w.heap.size + 1 + 1) s.2 m (.slice ka pre.length kc) (.slice va pre.length vc) (.slice (some ⟨g1, 0, none⟩) (pre.length + 1) cap1) (.slice va pre.length vc) (.slice (some ⟨g1, 0, none⟩) (pre.length + 1) cap1) (.slice (some ⟨g3, 0, none⟩) (pre.length + 1) cap3) (pre ++ [x]) (pre ++ [x]) w3) := D2.out.appV hown3 hgrow3; clear hown3 hgrow3; have hv3 := D3.out.v.cell; have hv4 := D3.out.v.fro; have D4 := D3.out.stV; have D5 : Hid (Rd2 W w.heap.size (w.heap.size + 1) (w.heap.size + 1 + 1) s.2 m (.slice ka pre.length kc) (.slice va pre.length vc) (.slice (some ⟨g1, 0, none⟩) (pre.length + 1) cap1) (.slice (some ⟨g3, 0, none⟩) (pre.length + 1) cap3) (.slice (some ⟨g1, 0, none⟩) (pre.length + 1) cap1) (.slice (some ⟨g3, 0, none⟩) (pre.length + 1) cap3) (pre ++ [x]) (pre ++ [x]) (w3.setCell ⟨w.heap.size + 1 + 1, 0, none⟩ (.slice (some ⟨g3, 0, none⟩) (pre.length + 1) cap3))) := D4; have hk6 := D4.k.cell; have hm6 := D4.m7.cell; clear D4))
    · rename_i he
      have he' : (pre.length : Int) + 1 = m := by simpa using he
      obtain ⟨s1, s2, s3⟩ := RR.out.step (B := w5.heap.size) (n₁ := w5.heap.size + 2) D5.out.ch D5.out.k D5.out.v ⟨D5.out.kr, D5.out.vr⟩ (by omega)
      exact ⟨s2, s3, rfl, _, _, s1, hq, hN, by simp; omega, HN.out⟩
    · rename_i he
      have he' : ¬ (pre.length : Int) + 1 = m := by simpa using he
      obtain ⟨s1, s2, s3⟩ := RR.out.step (B := w5.heap.size) (n₁ := w5.heap.size + 2) D5.out.ch D5.out.k D5.out.v ⟨D5.out.kr, D5.out.vr⟩ (by omega)
      exact ⟨s2, s3, _, _, s1, hq, hN, fun h => by have := hlen h; simp; omega⟩
  case out =>
    rintro s A W2 ⟨kv, vv, h1, h2, h3, h4⟩ hb
    have := h1.fin HM.out h2 (by omega) (by omega) hb
    have e : most m (under es k) = under es k := by
      unfold most
      split
      · rfl
      · have h4' : ((under es k).length : Int) < m := h4 (by omega)
        exact List.take_of_length_le (by omega)
    rw [e]
    exact this
  case outx =>
    rintro s cc pre A W2 ⟨rfl, kv, vv, h1, h2, h3, h4, h5⟩ hb
    have := h1.fin HM.out h2 (by omega) (by omega) hb
    have e : most m (under es k) = pre := by
      unfold most
      rw [if_neg (by omega), ← h4]
      exact (List.prefix_iff_eq_take.1 h5).symm
    rw [e]
    exact ⟨rfl, this⟩
  case done =>
    rintro W ⟨kv, vv, q', h1, h2, h3, h4, h5, h6⟩ hD
    have c1 := h1.cell
    have c2 := h2.cell
    obtain ⟨ka, kc, rfl, -⟩ := row_slice h3.1
    obtain ⟨va, vc, rfl, -⟩ := row_slice h3.2
    have HE : Hid (KV W w.heap.size (.slice ka (most m (under es k)).length kc) (.slice va (most m (under es k)).length vc) (most m (under es k)) ∧ Mp W mb es sv q' c ∧ Ch (fun b => b = mb) w W) := ⟨h3, h4, h5⟩
    clear h1 h2 h3 h4 h5
    gi_wp2
    refine wpIn_mono ?_ NoPanic.imp
    gi_region
    all_goals refine NoPanic.normal ?_
    all_goals gi_wp2
    all_goals refine ⟨by simp, .inl ⟨_, _, rfl, takes (W := W.drew) hD, ?_⟩⟩
    all_goals
      have hput : W.drew.grownBy (W.drew.putObj w5.heap.size (.deferred none)) (some w5.heap.size) := grownBy_putObj' W.drew _ _
      have hrow : ∀ r : Nat, some w5.heap.size = some r → ∃ o : Obj, W.drew.heap[r]? = some o ∧ o.isCells = false := fun r e => by cases e; exact ⟨_, hD, rfl⟩
      obtain ⟨e1, e2, e3⟩ := HE.out
      exact ⟨_, results_tmp2 rfl _ _ _, .slice ka (most m (under es k)).length kc, .slice va (most m (under es k)).length vc, q', rfl, ⟨row_kept (W := W.drew) e1.1 hput hrow, row_kept (W := W.drew) e1.2 hput hrow⟩, mp_kept (W := W.drew) ⟨e2.hd, e2.row, e2.rise, e2.lent⟩ hput hrow, e3.drew.kept (B := w.heap.size) (Nat.le_refl _) hput (fun r e => ⟨by cases e; omega, hrow r e⟩), h6⟩
  case stop =>
    rintro cc W ⟨rfl, kv, vv, q', h1, h2, h3, h4, h5, h6⟩ hD
    have c1 := h1.cell
    have c2 := h2.cell
    obtain ⟨ka, kc, rfl, -⟩ := row_slice h3.1
    obtain ⟨va, vc, rfl, -⟩ := row_slice h3.2
    have HE : Hid (KV W w.heap.size (.slice ka (most m (under es k)).length kc) (.slice va (most m (under es k)).length vc) (most m (under es k)) ∧ Mp W mb es sv q' c ∧ Ch (fun b => b = mb) w W) := ⟨h3, h4, h5⟩
    clear h1 h2 h3 h4 h5
    gi_wp2
    refine wpIn_mono ?_ NoPanic.imp
    gi_region
    all_goals refine NoPanic.normal ?_
    all_goals gi_wp2
    all_goals refine ⟨by simp, .inl ⟨_, _, rfl, takes (W := W.drew) hD, ?_⟩⟩
    all_goals
      have hput : W.drew.grownBy (W.drew.putObj w5.heap.size (.deferred none)) (some w5.heap.size) := grownBy_putObj' W.drew _ _
      have hrow : ∀ r : Nat, some w5.heap.size = some r → ∃ o : Obj, W.drew.heap[r]? = some o ∧ o.isCells = false := fun r e => by cases e; exact ⟨_, hD, rfl⟩
      obtain ⟨e1, e2, e3⟩ := HE.out
      exact ⟨_, results_tmp2 rfl _ _ _, .slice ka (most m (under es k)).length kc, .slice va (most m (under es k)).length vc, q', rfl, ⟨row_kept (W := W.drew) e1.1 hput hrow, row_kept (W := W.drew) e1.2 hput hrow⟩, mp_kept (W := W.drew) ⟨e2.hd, e2.row, e2.rise, e2.lent⟩ hput hrow, e3.drew.kept (B := w.heap.size) (Nat.le_refl _) hput (fun r e => ⟨by cases e; omega, hrow r e⟩), h6⟩

set_option maxRecDepth 100000 in
set_option maxHeartbeats 4000000 in
theorem ranged_zero {w : World} {mb : Nat} {es : List Ent} {sv : Value} {q : Option Nat} {c : Nat} (hM : Mp w mb es sv q c) (kind : Int) (k : ByteArray) :
    Calls Try.prog 7 #[.pointer (some ⟨mb, 0, none⟩), .int .i64 kind, .string k, .int .i64 0] w fun e w' => ∃ kv vv q', e = .returned (.tuple #[kv, vv]) ∧ KV w' w.heap.size kv vv [] ∧ Mp w' mb es sv q' c ∧ Ch (fun b => b = mb) w w' ∧ (q' = q ∨ (q = none ∧ ∃ b, q' = some b ∧ w.heap.size ≤ b)) := by
  obtain ⟨W3, hW3⟩ : ∃ W3, W3 = ((w.alloc (.cells #[.int .i64 0] 3)).alloc (.cells #[.slice none 0 0] 27)).alloc (.cells #[.slice none 0 0] 28) := ⟨_, rfl⟩
  have hs3 : W3.heap.size = w.heap.size + 1 + 1 + 1 := by rw [hW3]; simp
  have hB3 : Below w.heap.size w W3 := by rw [hW3]; exact (((Below.refl _ w).alloc (Nat.le_refl _) _).alloc (by simp) _).alloc (by simp; omega) _
  have b7 : Bx W3 w.heap.size (.int .i64 0) 3 := by rw [hW3]; exact ((Bx.new w _ _).alloc _).alloc _
  have fin : ∀ w5, Below w.heap.size w w5 → ∃ q', KV w5 w.heap.size (.slice none 0 0) (.slice none 0 0) [] ∧ Mp w5 mb es sv q' c ∧ Ch (fun b => b = mb) w w5 ∧ (q' = q ∨ (q = none ∧ ∃ b, q' = some b ∧ w.heap.size ≤ b)) := fun w5 hB => ⟨q, ⟨World.ownsRow_nil _ _ _ _, World.ownsRow_nil _ _ _ _⟩, hM.below hB, Ch.of_below hB, .inl rfl⟩
  have FIN : Hid _ := fin
  clear fin hM
  refine (callsIn_wide (n := 9)).1 ?_
  refine callsIn_of_wp_marks Try.func7 rfl trivial ?_ rfl
  simp only [Try.ntmps7, List.size_toArray, List.length_cons, List.length_nil, Nat.reduceAdd, Nat.reduceSub, Array.replicate_succ, Array.replicate_zero, List.push_toArray, List.append_toArray, List.nil_append, List.cons_append]
  by_cases h5 : kind = 5
  · subst h5
    gi_wp2_with (first
      | (refine ⟨trivial, ?_⟩; gi_at_call 17; rw [← hW3]; refine (callsIn_wide.2 (All_any _ _)).mono ?_; rintro e w4 ⟨f, rfl, hR, hB4⟩; have hm4 := (b7.below hB4 (by omega)).cell; obtain ⟨bm0, bp0, rfl, -⟩ := hR)
      | (refine ⟨trivial, ?_⟩; gi_at_call 18; refine (callsIn_wide.2 (From_any _ _ _)).mono ?_; rintro e w5 ⟨f, kb, rfl, hR, -, -, hB5⟩; have hm5 := (b7.below (hB4.trans (hB5.mono hB4.size)) (by omega)).cell; obtain ⟨bm, bp, rfl, -⟩ := hR))
    obtain ⟨q', r1, r2, r3, r4⟩ := FIN.out w5 ((hB3.trans (hB4.mono (by omega))).trans (hB5.mono (by have := hB4.size; omega)))
    exact ⟨_, results_tmp2 rfl _ _ _, .slice none 0 0, .slice none 0 0, q', rfl, r1, r2, r3, r4⟩
  · have hb5 : (kind == 5) = false := by simpa using h5
    by_cases h6 : kind = 6
    · subst h6
      gi_wp2_with (first
        | (refine ⟨trivial, ?_⟩; gi_at_call 17; rw [← hW3]; refine (callsIn_wide.2 (All_any _ _)).mono ?_; rintro e w4 ⟨f, rfl, hR, hB4⟩; have hm4 := (b7.below hB4 (by omega)).cell; obtain ⟨bm0, bp0, rfl, -⟩ := hR)
        | (refine ⟨trivial, ?_⟩; gi_at_call 19; refine (callsIn_wide.2 (Down_any _ _)).mono ?_; rintro e w5 ⟨f, rfl, hR, hB5⟩; have hm5 := (b7.below (hB4.trans (hB5.mono hB4.size)) (by omega)).cell; obtain ⟨bm, bp, rfl, -⟩ := hR))
      obtain ⟨q', r1, r2, r3, r4⟩ := FIN.out w5 ((hB3.trans (hB4.mono (by omega))).trans (hB5.mono (by have := hB4.size; omega)))
      exact ⟨_, results_tmp2 rfl _ _ _, .slice none 0 0, .slice none 0 0, q', rfl, r1, r2, r3, r4⟩
    · have hb6 : (kind == 6) = false := by simpa using h6
      by_cases h7 : kind = 7
      · subst h7
        gi_wp2_with (first
          | (refine ⟨trivial, ?_⟩; gi_at_call 17; rw [← hW3]; refine (callsIn_wide.2 (All_any _ _)).mono ?_; rintro e w4 ⟨f, rfl, hR, hB4⟩; have hm4 := (b7.below hB4 (by omega)).cell; obtain ⟨bm0, bp0, rfl, -⟩ := hR)
          | (refine ⟨trivial, ?_⟩; gi_at_call 20; refine (callsIn_wide.2 (Under_any _ _ _)).mono ?_; rintro e w5 ⟨f, kb, rfl, hR, -, -, hB5⟩; have hm5 := (b7.below (hB4.trans (hB5.mono hB4.size)) (by omega)).cell; obtain ⟨bm, bp, rfl, -⟩ := hR))
        obtain ⟨q', r1, r2, r3, r4⟩ := FIN.out w5 ((hB3.trans (hB4.mono (by omega))).trans (hB5.mono (by have := hB4.size; omega)))
        exact ⟨_, results_tmp2 rfl _ _ _, .slice none 0 0, .slice none 0 0, q', rfl, r1, r2, r3, r4⟩
      · have hb7 : (kind == 7) = false := by simpa using h7
        gi_wp2_with (first
          | (refine ⟨trivial, ?_⟩; gi_at_call 17; rw [← hW3]; refine (callsIn_wide.2 (All_any _ _)).mono ?_; rintro e w4 ⟨f, rfl, hR, hB4⟩; have hm4 := (b7.below hB4 (by omega)).cell; obtain ⟨bm0, bp0, rfl, -⟩ := hR))
        obtain ⟨q', r1, r2, r3, r4⟩ := FIN.out w4 (hB3.trans (hB4.mono (by omega)))
        exact ⟨_, results_tmp2 rfl _ _ _, .slice none 0 0, .slice none 0 0, q', rfl, r1, r2, r3, r4⟩

theorem ranged_any {w : World} {mb : Nat} {es : List Ent} {sv : Value} {q : Option Nat} {c : Nat} (hM : Mp w mb es sv q c) (hc : c < 4611686018427387904) (hn : es.length * 24 ≤ 211106232528000) (kind : Int) (k : ByteArray) (m : Int) :
    Calls Try.prog 7 #[.pointer (some ⟨mb, 0, none⟩), .int .i64 kind, .string k, .int .i64 m] w fun e w' => ∃ kv vv q', e = .returned (.tuple #[kv, vv]) ∧ KV w' w.heap.size kv vv (most m (pick kind k es)) ∧ Mp w' mb es sv q' c ∧ Ch (fun b => b = mb) w w' ∧ (q' = q ∨ (q = none ∧ ∃ b, q' = some b ∧ w.heap.size ≤ b)) := by
  by_cases hm : m = 0
  · subst hm
    have e : most 0 (pick kind k es) = [] := by simp [most]
    rw [e]
    exact ranged_zero hM kind k
  · unfold pick
    by_cases h5 : kind = 5
    · subst h5
      rw [if_pos rfl]
      exact ranged_from hM hc hn k m hm
    · rw [if_neg h5]
      by_cases h6 : kind = 6
      · subst h6
        rw [if_pos rfl]
        exact ranged_down hM hc hn k m hm
      · rw [if_neg h6]
        by_cases h7 : kind = 7
        · subst h7
          rw [if_pos rfl]
          exact ranged_under hM hc hn k m hm
        · rw [if_neg h7]
          exact ranged_def hM hc hn kind k m h5 h6 h7 hm
end Go.Proofs.Ytkohcdefhaokiab

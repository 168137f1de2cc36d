/-
  The map of texts: what was put is told, the last value of each key; and what a range over the map keeps while it is told.
-/
import Derived.Test.YtkohcdefhaokiaaTUser
import Derived.Test.YtkohcdefhaokiaaSRanged
namespace Go.Proofs.Ytkohcdefhaokiaa.T
open Go.RowKit Go.Shelf Go.Lib Go.Sort

/-- the last value of a key -/
def lastOf (k : ByteArray) (l : List Ent) : ByteArray := l.foldl (fun acc p => if (p.1.toList == k.toList) = true then p.2 else acc) ⟨#[]⟩
/-- what a map has when all were put -/
def puts (l : List Ent) : List Ent := l.foldl (fun es p => put es p.1 p.2) []
theorem puts_snoc (l : List Ent) (p : Ent) : puts (l ++ [p]) = put (puts l) p.1 p.2 := by simp [puts]
theorem lastOf_snoc (k : ByteArray) (l : List Ent) (p : Ent) : lastOf k (l ++ [p]) = if (p.1.toList == k.toList) = true then p.2 else lastOf k l := by simp [lastOf]
theorem key_eq {a b : ByteArray} : (a.toList == b.toList) = true ↔ a = b := by
  constructor
  · intro h
    apply key_ext
    simpa [Lib.toList_data] using h
  · rintro rfl; simp
theorem snoc_ind {P : List Ent → Prop} (h0 : P []) (hs : ∀ l p, P l → P (l ++ [p])) (l : List Ent) : P l := by
  have : ∀ n (l : List Ent), l.length = n → P l := by
    intro n
    induction n with
    | zero => intro l hl; rw [List.eq_nil_of_length_eq_zero hl]; exact h0
    | succ n ih =>
      intro l hl
      have hne : l ≠ [] := fun e => by rw [e] at hl; simp at hl
      rw [← List.dropLast_concat_getLast hne]
      exact hs _ _ (ih _ (by simp [hl]))
  exact this _ l rfl
theorem puts_rise (l : List Ent) : Rise (puts l) := by
  refine snoc_ind (P := fun l => Rise (puts l)) List.Pairwise.nil (fun l p h => ?_) l
  rw [puts_snoc]; exact put_rise h _ _
theorem puts_len (l : List Ent) : (puts l).length ≤ l.length := by
  refine snoc_ind (P := fun l => (puts l).length ≤ l.length) (by simp [puts]) (fun l p h => ?_) l
  rw [puts_snoc, put_len]
  split <;> simp <;> omega
theorem mem_put {es : List Ent} (hr : Rise es) {k v : ByteArray} {e : Ent} (h : e ∈ put es k v) : e = (k, v) ∨ (e ∈ es ∧ e.1 ≠ k) := by
  cases hh : has es k with
  | true =>
    obtain ⟨hp, hk⟩ := has_lt hh
    unfold put at h
    rw [hh, if_pos rfl] at h
    obtain ⟨j, hj, rfl⟩ := List.mem_iff_getElem.1 h
    rw [List.length_set] at hj
    by_cases e : pos es k = j
    · left; subst e; rw [List.getElem_set_self]
    · right
      rw [List.getElem_set_ne e]
      refine ⟨List.getElem_mem hj, fun ek => ?_⟩
      rcases Nat.lt_or_gt_of_ne e with hlt | hlt
      · have := hr.get hp hj hlt
        rw [hk, ek, lt_irrefl] at this; cases this
      · have := hr.get hj hp hlt
        rw [hk, ek, lt_irrefl] at this; cases this
  | false =>
    unfold put at h
    rw [hh] at h
    simp only [Bool.false_eq_true, if_false] at h
    have key : ∀ e ∈ es, e.1 ≠ k := by
      intro e he ek
      obtain ⟨j, hj, rfl⟩ := List.mem_iff_getElem.1 he
      have h1 := pos_lt es k j hr hj
      rw [ek, lt_irrefl] at h1
      have hjp : ¬ j < pos es k := fun h => by have := h1.2 h; cases this
      by_cases e : j = pos es k
      · subst e; exact has_not hh hj ek
      · have hp : pos es k < es.length := by omega
        have h2 := hr.get hp hj (by omega)
        rw [ek] at h2
        have := (pos_lt es k _ hr hp).1 h2
        omega
    rcases List.mem_append.1 h with h | h
    · exact .inr ⟨List.mem_of_mem_take h, key _ (List.mem_of_mem_take h)⟩
    · rcases List.mem_cons.1 h with h | h
      · exact .inl h
      · exact .inr ⟨List.mem_of_mem_drop h, key _ (List.mem_of_mem_drop h)⟩
theorem puts_last (l : List Ent) : ∀ e ∈ puts l, e.2 = lastOf e.1 l := by
  refine snoc_ind (P := fun l => ∀ e ∈ puts l, e.2 = lastOf e.1 l) (by intro e he; cases he) (fun l p h => ?_) l
  intro e he
  rw [puts_snoc] at he
  rw [lastOf_snoc]
  rcases mem_put (puts_rise l) he with rfl | ⟨h1, h2⟩
  · rw [if_pos (by simp)]
  · rw [if_neg (fun h3 => h2 (key_eq.1 h3).symm)]
    exact h e h1

theorem bx_mpT {W : World} {mb : Nat} {es : List Ent} {sv : Value} {q : Option Nat} {c : Nat} (h : Mp W mb es sv q c) {b : Nat} {v : Value} {t : TypeId} (hb : Bx W b v t) : b ≠ mb := by
  rintro rfl
  have e1 : W.heap[b]? = _ := hb
  rw [h.hd] at e1
  injection e1 with e1
  injection e1 with e2 e3
  cases e2
theorem Mp.qbx {W : World} {mb : Nat} {es : List Ent} {sv : Value} {q : Option Nat} {c : Nat} (h : Mp W mb es sv q c) {b : Nat} (hb : q = some b) : Bx W b (.int .i64 (c : Int)) 3 := by
  rcases h.lent with ⟨h0, _⟩ | ⟨b', e, hx⟩
  · rw [h0] at hb; cases hb
  · rw [hb] at e; cases e; exact hx
theorem mp_keptT {W W' : World} {mb : Nat} {es : List Ent} {sv : Value} {q : Option Nat} {c : Nat} {row : Option Nat} (h : Mp W mb es sv q c) (hg : W.grownBy W' row) (hr : ∀ r, row = some r → ∃ o : Obj, W.heap[r]? = some o ∧ o.isCells = false) : Mp W' mb es sv q c := by
  have kp : ∀ {k : Nat} {o : Obj}, W.heap[k]? = some o → o.isCells = true → W'.heap[k]? = some o := fun {k o} hk ho => (hg.block k (Array.getElem?_eq_some_iff.1 hk).1 (fun e => by obtain ⟨o', ho', hc⟩ := hr k e.symm; rw [hk] at ho'; cases ho'; rw [ho] at hc; cases hc)).trans hk
  exact ⟨kp h.hd rfl, row_kept h.row hg hr, h.rise, h.lent.imp id (fun ⟨b, e, hb⟩ => ⟨b, e, kp hb rfl⟩)⟩
theorem Mp.drew {W : World} {mb : Nat} {es : List Ent} {sv : Value} {q : Option Nat} {c : Nat} (h : Mp W mb es sv q c) : Mp W.drew mb es sv q c := ⟨h.hd, h.row, h.rise, h.lent⟩

/-- what the range keeps: the last key, how many, the map -/
structure TI (V : World) (b8 b9 mb : Nat) (es : List Ent) (sv : Value) (lb N0 : Nat) (k : ByteArray) (n : Nat) (W : World) : Prop where
  l8 : Bx W b8 (.string k) 9
  n9 : Bx W b9 (.int .i64 (n : Int)) 3
  mp : Mp W mb es sv (some lb) 1
  ch : Ch (fun b => b = mb ∨ b = b8 ∨ b = b9 ∨ b = lb) V W
  lt : lb < N0
  le : N0 ≤ W.heap.size
  vn : V.heap.size + 2 ≤ N0
  nl : b9 ≠ lb
  bv : b8 < V.heap.size ∧ b9 < V.heap.size ∧ mb < V.heap.size
  sb : ∀ g, sv.ownBlock = some g → g < V.heap.size

theorem TI.kept {V : World} {b8 b9 mb : Nat} {es : List Ent} {sv : Value} {lb N0 : Nat} {k : ByteArray} {n : Nat} {W W' : World} {row : Option Nat} (h : TI V b8 b9 mb es sv lb N0 k n W) (hg : W.grownBy W' row) (hr : ∀ r, row = some r → V.heap.size ≤ r ∧ ∃ o : Obj, W.heap[r]? = some o ∧ o.isCells = false) : TI V b8 b9 mb es sv lb N0 k n W' :=
  have hr' := fun r e => (hr r e).2
  ⟨bx_kept h.l8 hg hr', bx_kept h.n9 hg hr', mp_keptT h.mp hg hr', h.ch.kept (Nat.le_refl _) hg hr, h.lt, Nat.le_trans h.le hg.size, h.vn, h.nl, h.bv, h.sb⟩
theorem TI.below {V : World} {b8 b9 mb : Nat} {es : List Ent} {sv : Value} {lb N0 : Nat} {k : ByteArray} {n : Nat} {W W' : World} (h : TI V b8 b9 mb es sv lb N0 k n W) (hb : Below W.heap.size W W') : TI V b8 b9 mb es sv lb N0 k n W' :=
  ⟨h.l8.below hb h.l8.lt, h.n9.below hb h.n9.lt, h.mp.below hb, h.ch.trans (Ch.of_below (hb.mono (Nat.le_refl _))), h.lt, Nat.le_trans h.le hb.size, h.vn, h.nl, h.bv, h.sb⟩
/-- a box of the law that the range doesn't turn -/
theorem TI.box {V : World} {b8 b9 mb : Nat} {es : List Ent} {sv : Value} {lb N0 : Nat} {k : ByteArray} {n : Nat} {W : World} (h : TI V b8 b9 mb es sv lb N0 k n W) {b : Nat} {u : Value} {t : TypeId} (hb : Bx V b u t) (hV : b ≠ mb ∧ b ≠ b8 ∧ b ≠ b9 ∧ b ≠ lb) : Bx W b u t := by
  refine hb.ch h.ch ?_
  rintro (e | e | e | e)
  · exact hV.1 e
  · exact hV.2.1 e
  · exact hV.2.2.1 e
  · exact hV.2.2.2 e
/-- which cells a range needs kept -/
def cbOf (V : World) (sv0 : Value) : Nat := sv0.ownBlock.getD V.heap.size
/-- the end of a round -/
theorem TI.step {V : World} {b8 b9 mb : Nat} {es : List Ent} {sv : Value} {lb N0 : Nat} {k : ByteArray} {n : Nat} {W W1 : World} (h : TI V b8 b9 mb es sv lb N0 k n W) (hb : Below W.heap.size W W1) (k' : ByteArray) (n' : Nat) :
    TI V b8 b9 mb es sv lb N0 k' n' ((W1.setCell ⟨b8, 0, none⟩ (.string k')).setCell ⟨b9, 0, none⟩ (.int .i64 (n' : Int))) ∧ KeepsFrom V.heap.size W ((W1.setCell ⟨b8, 0, none⟩ (.string k')).setCell ⟨b9, 0, none⟩ (.int .i64 (n' : Int))) ∧ Kq (Xp (V.heap.size + 2) (cbOf V sv) (lb, N0)) W ((W1.setCell ⟨b8, 0, none⟩ (.string k')).setCell ⟨b9, 0, none⟩ (.int .i64 (n' : Int))) := by
  have h1 := h.below hb
  have c1 : Ch (fun b => b = b8) W1 (W1.setCell ⟨b8, 0, none⟩ (.string k')) := (Ch.refl (fun b => b = b8) W1).setCell ⟨b8, 0, none⟩ _ (fun _ => rfl)
  have c2 : Ch (fun b => b = b9) (W1.setCell ⟨b8, 0, none⟩ (.string k')) ((W1.setCell ⟨b8, 0, none⟩ (.string k')).setCell ⟨b9, 0, none⟩ (.int .i64 (n' : Int))) := (Ch.refl (fun b => b = b9) _).setCell ⟨b9, 0, none⟩ _ (fun _ => rfl)
  have hne := h1.l8.ne h1.n9 (by decide)
  have x8 := one0 h1.l8 (.string k')
  have x9 := h1.n9.ch c1 hne.symm
  have hC1 : Ch (fun b => b = b8 ∨ b = b9) W1 ((W1.setCell ⟨b8, 0, none⟩ (.string k')).setCell ⟨b9, 0, none⟩ (.int .i64 (n' : Int))) := (c1.mono (fun b _ e => .inl e)).trans (c2.mono (fun b _ e => .inr e))
  have hC : Ch (fun b => b = b8 ∨ b = b9) W ((W1.setCell ⟨b8, 0, none⟩ (.string k')).setCell ⟨b9, 0, none⟩ (.int .i64 (n' : Int))) := (Ch.of_below hb).trans hC1
  have hbv := h.bv
  have hvn := h.vn
  have hl := h.mp.qbx rfl
  have n8l : lb ≠ b8 := hl.ne h.l8 (by decide)
  have hnl := h.nl
  refine ⟨⟨x8.ch c2 hne, one0 x9 _, h1.mp.ch hC1 ?_ ?_ ?_, ?_, h.lt, Nat.le_trans h1.le hC1.size, h.vn, h.nl, h.bv, h.sb⟩, KeepsFrom.of_ch hC ?_, Kq.of_ch hC ?_⟩
  · rintro (e | e)
    · exact bx_mpT h1.mp h1.l8 e.symm
    · exact bx_mpT h1.mp h1.n9 e.symm
  · rintro g hg (e | e)
    · exact row_box h1.mp.row h1.l8 (by decide) hg e
    · exact row_box h1.mp.row h1.n9 (by decide) hg e
  · rintro b hq (e | e)
    · cases hq; exact n8l e
    · cases hq; exact hnl e.symm
  · exact h.ch.trans (hC.mono (fun b _ e => e.elim (fun e => .inr (.inl e)) (fun e => .inr (.inr (.inl e)))))
  · rintro b (rfl | rfl)
    · exact ⟨_, h.l8, rfl⟩
    · exact ⟨_, h.n9, rfl⟩
  · rintro b (e | e | ⟨e1, e2⟩)
    · unfold cbOf at e
      cases hs : sv.ownBlock with
      | none =>
        rw [hs] at e
        simp at e
        rintro (e' | e') <;> omega
      | some g =>
        rw [hs] at e
        simp at e
        subst e
        rintro (e' | e')
        · exact row_box h.mp.row h.l8 (by decide) hs e'
        · exact row_box h.mp.row h.n9 (by decide) hs e'
    · have e : b = lb := e
      rintro (e' | e')
      · exact n8l (e.symm.trans e')
      · exact hnl (e'.symm.trans e)
    · rintro (e' | e') <;> omega

/-- where the range begins -/
theorem TI.start {V W0 : World} {b8 b9 mb lb : Nat} {es : List Ent} {sv : Value} {q : Option Nat} (hM : Mp V mb es sv q 0) (h8 : Bx V b8 (.string ⟨#[]⟩) 9) (h9 : Bx V b9 (.int .i64 0) 3) (hq9 : q ≠ some b9) (hM0 : Mp W0 mb es sv (some lb) (0 + 1)) (hch : Ch (fun b => b = mb ∨ q = some b) V W0) (hlq : q = some lb ∨ (q = none ∧ V.heap.size + 2 ≤ lb)) (hs0 : V.heap.size + 2 ≤ W0.heap.size) : TI V b8 b9 mb es sv lb W0.heap.size ⟨#[]⟩ 0 W0 := by
  have hl := hM0.qbx rfl
  refine ⟨h8.ch hch ?_, h9.ch hch ?_, hM0, hch.mono ?_, hl.lt, Nat.le_refl _, hs0, ?_, ⟨h8.lt, h9.lt, hM.lt⟩, fun g hg => ?_⟩
  · rintro (e | e)
    · exact bx_mpT hM h8 e
    · exact (hM.qbx e).ne h8 (by decide) rfl
  · rintro (e | e)
    · exact bx_mpT hM h9 e
    · exact hq9 e
  · rintro b hb (e | e)
    · exact .inl e
    · rcases hlq with e1 | ⟨e1, _⟩
      · rw [e1] at e; cases e; exact .inr (.inr (.inr rfl))
      · rw [e1] at e; cases e
  · rintro rfl
    rcases hlq with e1 | ⟨_, e1⟩
    · exact hq9 e1
    · have := h9.lt; omega
  · obtain ⟨_, cur, hx⟩ := row_obj hM.row hg
    exact (Array.getElem?_eq_some_iff.1 hx).1
/-- where the range ends -/
theorem TI.fin {V W W2 : World} {b8 b9 mb lb N0 n : Nat} {k : ByteArray} {es : List Ent} {sv : Value} {q : Option Nat} (hM : Mp V mb es sv q 0) (h : TI V b8 b9 mb es sv lb N0 k n W) (hlq : q = some lb ∨ (q = none ∧ V.heap.size + 2 ≤ lb)) (hb : Back (V.heap.size + 2) 0 lb W W2) :
    Bx W2 b9 (.int .i64 (n : Int)) 3 ∧ Mp W2 mb es sv (some lb) 0 ∧ Ch (fun b => b = mb ∨ b = b8 ∨ b = b9) V W2 := by
  obtain ⟨hch, hl⟩ := hb
  have nX : ∀ {k : Nat} {o : Obj}, W.heap[k]? = some o → o.isCells = true → k ≠ lb → ¬ (k = lb ∨ (V.heap.size + 2 ≤ k ∧ ∃ o, W.heap[k]? = some o ∧ o.isCells = false)) := by
    rintro k o hk ho hne (e | ⟨_, o', h1, h2⟩)
    · exact hne e
    · rw [hk] at h1; cases h1; rw [ho] at h2; cases h2
  have hlb := h.mp.qbx rfl
  have hmb : mb ≠ lb := fun e => bx_mpT h.mp hlb e.symm
  refine ⟨h.n9.ch hch (nX h.n9 rfl h.nl), ⟨hch.obj h.mp.hd (nX h.mp.hd rfl hmb), hch.row h.mp.row ?_, h.mp.rise, .inr ⟨lb, rfl, hl⟩⟩, ?_⟩
  · intro g hg
    obtain ⟨_, cur, hx⟩ := row_obj h.mp.row hg
    exact nX hx rfl (fun e => row_box h.mp.row hlb (by decide) hg e)
  · refine ⟨hch.os.trans h.ch.os, hch.tape.trans h.ch.tape, hch.output.trans h.ch.output, Nat.le_trans h.ch.size hch.size, fun b hb hX => ?_⟩
    by_cases e : b = lb
    · subst e
      rcases hlq with rfl | ⟨_, h0⟩
      · exact (show W2.heap[b]? = _ from hl).trans (show V.heap[b]? = _ from hM.qbx rfl).symm
      · omega
    · refine (hch.block b (Nat.lt_of_lt_of_le hb h.ch.size) ?_).trans (h.ch.block b hb ?_)
      · rintro (e' | ⟨e', _⟩)
        · exact e e'
        · omega
      · rintro (e' | e' | e' | e')
        · exact hX (.inl e')
        · exact hX (.inr (.inl e'))
        · exact hX (.inr (.inr e'))
        · exact e e'
theorem puts_key (l : List Ent) : ∀ e ∈ puts l, ∃ p ∈ l, p.1 = e.1 := by
  refine snoc_ind (P := fun l => ∀ e ∈ puts l, ∃ p ∈ l, p.1 = e.1) (by intro e he; cases he) (fun l p h => ?_) l
  intro e he
  rw [puts_snoc] at he
  rcases mem_put (puts_rise l) he with rfl | ⟨h1, h2⟩
  · exact ⟨p, by simp, rfl⟩
  · obtain ⟨r, hr, e⟩ := h e h1
    exact ⟨r, by simp [hr], e⟩
theorem TI.keep {V : World} {b8 b9 mb : Nat} {es : List Ent} {sv : Value} {lb N0 : Nat} {k : ByteArray} {n : Nat} {W : World} {q : Option Nat} {v8 v9 : Value} (h : TI V b8 b9 mb es sv lb N0 k n W) (hM : Mp V mb es sv q 0) (h8 : Bx V b8 v8 9) (h9 : Bx V b9 v9 3) (hlq : q = some lb ∨ (q = none ∧ V.heap.size + 2 ≤ lb)) {b : Nat} {u : Value} {t : TypeId} (hb : Bx V b u t) (h1 : t ≠ 9) (h2 : t ≠ 3) : Bx W b u t := by
  refine h.box hb ⟨bx_mpT hM hb, hb.ne h8 h1, hb.ne h9 h2, ?_⟩
  rintro rfl
  rcases hlq with e | ⟨_, e⟩
  · exact (hM.qbx e).ne hb h2.symm rfl
  · have := hb.lt; omega
theorem TI.bel {w V W : World} {b8 b9 mb : Nat} {es : List Ent} {sv : Value} {lb N0 : Nat} {k : ByteArray} {n : Nat} {q : Option Nat} (h : TI V b8 b9 mb es sv lb N0 k n W) (hB : Below w.heap.size w V) (h8 : w.heap.size ≤ b8) (h9 : w.heap.size ≤ b9) (hm : w.heap.size ≤ mb) (hq : ∀ b, q = some b → w.heap.size ≤ b) (hlq : q = some lb ∨ (q = none ∧ V.heap.size + 2 ≤ lb)) : Below w.heap.size w W := by
  have hz := hB.size
  refine hB.trans (h.ch.below hz ?_)
  rintro b hb (e | e | e | e)
  · omega
  · omega
  · omega
  · subst e
    rcases hlq with e | ⟨_, e⟩
    · have := hq b e; omega
    · omega
/-- the last key that was told -/
def lastKey (pre : List Ent) : ByteArray := (pre.getLast?.map (·.1)).getD ⟨#[]⟩
theorem lastKey_snoc (pre : List Ent) (x : Ent) : lastKey (pre ++ [x]) = x.1 := by simp [lastKey]
/-- what the range keeps from round to round -/
def Jt (V : World) (b8 b9 mb : Nat) (es : List Ent) (sv : Value) (q : Option Nat) (s : Nat × Nat) (pre : List Ent) (W : World) : Prop :=
  TI V b8 b9 mb es sv s.1 s.2 (lastKey pre) pre.length W ∧ (q = some s.1 ∨ (q = none ∧ V.heap.size + 2 ≤ s.1))
theorem Jt.kept {V : World} {b8 b9 mb : Nat} {es : List Ent} {sv : Value} {q : Option Nat} (s : Nat × Nat) : OwnFrom V.heap.size (Jt V b8 b9 mb es sv q s) := by
  rintro pre A B row ⟨h1, h2⟩ hg hr
  exact ⟨h1.kept hg hr, h2⟩
/-- what the range leaves -/
def Et (V : World) (b8 b9 mb : Nat) (es : List Ent) (sv : Value) (W : World) : Prop :=
  ∃ lb, Bx W b9 (.int .i64 (es.length : Int)) 3 ∧ Mp W mb es sv (some lb) 0 ∧ Ch (fun b => b = mb ∨ b = b8 ∨ b = b9) V W
theorem Et.kept {V : World} {b8 b9 mb : Nat} {es : List Ent} {sv : Value} : OwnFrom V.heap.size (fun (_ : Unit) W => Et V b8 b9 mb es sv W) := by
  rintro _ A B row ⟨lb, h1, h2, h3⟩ hg hr
  have hr' := fun r e => (hr r e).2
  exact ⟨lb, bx_kept h1 hg hr', mp_keptT h2 hg hr', h3.kept (Nat.le_refl _) hg hr⟩
theorem Jt.out {V A W2 : World} {b8 b9 mb : Nat} {es : List Ent} {sv : Value} {q : Option Nat} {s : Nat × Nat} (hM : Mp V mb es sv q 0) (h : Jt V b8 b9 mb es sv q s es A) (hb : Back (V.heap.size + 2) 0 s.1 A W2) : Et V b8 b9 mb es sv W2 :=
  ⟨s.1, TI.fin hM h.1 h.2 hb⟩
/-- what is told rises -/
theorem told_rise {es pre : List Ent} {x : Ent} (hr : Rise es) (h : pre ++ [x] <+: es) (hne : pre ≠ []) : lt (lastKey pre) x.1 = true := by
  have hp : Rise (pre ++ [x]) := List.Pairwise.sublist h.sublist hr
  have hx := (List.pairwise_append.1 hp).2.2 (pre.getLast hne) (List.getLast_mem hne) x (by simp)
  have e : lastKey pre = (pre.getLast hne).1 := by simp [lastKey, List.getLast?_eq_some_getLast hne]
  rw [e]; exact hx
theorem lastKey_size {es pre : List Ent} {x : Ent} (h : pre ++ [x] <+: es) (hs : ∀ e ∈ es, e.1.size ≤ 1048576) : (lastKey pre).size ≤ 1048576 := by
  by_cases hne : pre = []
  · subst hne; decide
  · have e : lastKey pre = (pre.getLast hne).1 := by simp [lastKey, List.getLast?_eq_some_getLast hne]
    rw [e]
    exact hs _ (h.subset (List.mem_append_left _ (List.getLast_mem hne)))
end Go.Proofs.Ytkohcdefhaokiaa.T

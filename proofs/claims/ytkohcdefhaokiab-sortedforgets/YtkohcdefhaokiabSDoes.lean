/-
  does: one act, on the map and on the document's.
-/
import Derived.Test.YtkohcdefhaokiabSRange2
namespace Go.Proofs.Ytkohcdefhaokiab
open Go.RowKit Go.Shelf Go.Lib Go.Sort

/-- what an act leaves -/
def act (kind : Int) (k : ByteArray) (v : Int) (es : List Ent) : List Ent := if kind = 1 then put es k v else if kind = 3 then del es k else es

theorem Mp.rf {w : World} {mb rb base c : Nat} {es es' : List Ent} {sv kv vv : Value} {q : Option Nat} (hM : Mp w mb es sv q c) (hR : Rf w rb base es' kv vv) : mb ≠ rb ∧ (∀ g, sv.ownBlock = some g → g ≠ rb) ∧ (∀ b, q = some b → b ≠ rb) := by
  refine ⟨?_, ?_, ?_⟩
  · rintro rfl
    have := hM.hd; rw [hR.hd] at this; injection this with x; injection x with _ x; cases x
  · rintro g hg rfl
    obtain ⟨_, cur, hx⟩ := row_obj hM.row hg
    rw [hR.hd] at hx; injection hx with x; injection x with _ x; cases x
  · rintro b rfl rfl
    rcases hM.lent with ⟨h0, _⟩ | ⟨b', e, hb⟩
    · cases h0
    · cases e
      rw [hR.hd] at hb; injection hb with x; injection x with _ x; cases x
theorem Rf.ch {w w' : World} {rb base : Nat} {es : List Ent} {kv vv : Value} {X : Nat → Prop} (h : Rf w rb base es kv vv) (hc : Ch X w w') (h1 : ¬ X rb) (h2 : ∀ g, kv.ownBlock = some g ∨ vv.ownBlock = some g → ¬ X g) : Rf w' rb base es kv vv :=
  ⟨hc.obj h.hd h1, h.al, hc.row h.kv.1 (fun g e => h2 g (.inl e)), hc.row h.kv.2 (fun g e => h2 g (.inr e))⟩
theorem Rf.turn {w w' : World} {mb rb base c : Nat} {es es' : List Ent} {sv kv vv : Value} {q : Option Nat} (hR : Rf w rb base es' kv vv) (hM : Mp w mb es sv q c) (hc : Ch (fun b => b = mb ∨ (c = 0 ∧ sv.ownBlock = some b)) w w') : Rf w' rb base es' kv vv := by
  obtain ⟨n1, n2, _⟩ := hM.rf hR
  refine hR.ch hc ?_ ?_
  · rintro (e | ⟨_, e⟩)
    · exact n1 e.symm
    · exact n2 _ e rfl
  · rintro g hg (e | ⟨_, e⟩)
    · rcases hg with hg | hg
      · obtain ⟨_, cur, hx⟩ := row_obj hR.kv.1 hg
        rw [e, hM.hd] at hx; injection hx with x; injection x with _ x; cases x
      · obtain ⟨_, cur, hx⟩ := row_obj hR.kv.2 hg
        rw [e, hM.hd] at hx; injection hx with x; injection x with _ x; cases x
    · rcases hg with hg | hg
      · exact row_ne hM.row hR.kv.1 (by decide) e hg rfl
      · exact row_ne hM.row hR.kv.2 (by decide) e hg rfl
theorem Mp.chr {w w' : World} {mb rb base c : Nat} {es es' : List Ent} {sv kv vv : Value} {q : Option Nat} (hM : Mp w mb es sv q c) (hR : Rf w rb base es' kv vv) (hc : Ch (fun b => b = rb) w w') : Mp w' mb es sv q c :=
  have h := hM.rf hR
  hM.ch hc h.1 h.2.1 h.2.2

/-- the count's block is not that of the values -/
def Dq (q : Option Nat) (vv : Value) : Prop := ∀ b, q = some b → vv.ownBlock ≠ some b
/-- what becomes of the map's cells and its count -/
def Tn (N : Nat) (sv : Value) (q : Option Nat) (c : Nat) (sv' : Value) (q' : Option Nat) (c' : Nat) : Prop :=
  (sv' = sv ∧ q' = q ∧ c' = c) ∨ (c' = 0 ∧ (∀ g, sv'.ownBlock = some g → (c = 0 ∧ sv.ownBlock = some g) ∨ N ≤ g) ∧ (∀ b, q' = some b → (c = 0 ∧ q = some b) ∨ N ≤ b))
theorem Tn.dq {N M : Nat} {sv sv' vv vv' : Value} {q q' : Option Nat} {c c' : Nat} (h : Tn N sv q c sv' q' c') (hv : ∀ g, vv.ownBlock = some g → g < N) (hF : vv' = vv ∨ ∀ g, vv'.ownBlock = some g → M ≤ g) (hM : ∀ b, q' = some b → b < M) (hd : Dq q vv) : Dq q' vv' := by
  intro b hb e
  rcases hF with rfl | hF
  · rcases h with ⟨_, rfl, _⟩ | ⟨_, _, h3⟩
    · exact hd b hb e
    · rcases h3 b hb with ⟨_, h4⟩ | h4
      · exact hd b h4 e
      · have := hv b e; omega
  · have := hF b e; have := hM b hb; omega
theorem Mp.q_lt {w : World} {mb : Nat} {es : List Ent} {sv : Value} {q : Option Nat} {c : Nat} (h : Mp w mb es sv q c) {b : Nat} (hb : q = some b) : b < w.heap.size := by
  rcases h.lent with ⟨h0, _⟩ | ⟨b', e, hx⟩
  · rw [h0] at hb; cases hb
  · rw [hb] at e; cases e; exact (Array.getElem?_eq_some_iff.1 hx).1
theorem Tn.low {N N' : Nat} {sv sv' : Value} {q q' : Option Nat} {c c' : Nat} (h : Tn N sv q c sv' q' c') (hN : N' ≤ N) : Tn N' sv q c sv' q' c' :=
  h.imp id (fun ⟨h1, h2, h3⟩ => ⟨h1, fun g e => (h2 g e).imp id (Nat.le_trans hN), fun b e => (h3 b e).imp id (Nat.le_trans hN)⟩)

/-- the map and the document's have the same -/
structure Jn (w : World) (mb rb base : Nat) (es : List Ent) (sv : Value) (q : Option Nat) (c : Nat) (kv vv : Value) : Prop where
  m : Mp w mb es sv q c
  r : Rf w rb base es kv vv
  sh : Short es

theorem Jn.below {w w' : World} {mb rb base : Nat} {es : List Ent} {sv : Value} {q : Option Nat} {c : Nat} {kv vv : Value} (h : Jn w mb rb base es sv q c kv vv) (hb : Below w.heap.size w w') : Jn w' mb rb base es sv q c kv vv := ⟨h.m.below hb, h.r.below hb, h.sh⟩

/-- what an act may change -/
def Xd (mb rb : Nat) (c : Nat) (sv : Value) (b : Nat) : Prop := b = rb ∨ b = mb ∨ (c = 0 ∧ sv.ownBlock = some b)

theorem Mp.own_lt {w : World} {mb : Nat} {es : List Ent} {sv : Value} {q : Option Nat} {c : Nat} (h : Mp w mb es sv q c) {g : Nat} (hg : sv.ownBlock = some g) : g < w.heap.size := by
  obtain ⟨_, cur, hx⟩ := row_obj h.row hg
  exact (Array.getElem?_eq_some_iff.1 hx).1

theorem act_none {kind : Int} (k : ByteArray) (v : Int) (es : List Ent) (h1 : kind ≠ 1) (h3 : kind ≠ 3) : act kind k v es = es := by unfold act; rw [if_neg h1, if_neg h3]

theorem new_act (w : World) (n : Nat) (x y z : Value) (t : TypeId) (hn : n = w.heap.size) : (w.alloc (.cells #[x, y, z] t)).cell? ⟨n, 0, none⟩ = some x ∧ (w.alloc (.cells #[x, y, z] t)).cell? ⟨n, 1, none⟩ = some y ∧ (w.alloc (.cells #[x, y, z] t)).cell? ⟨n, 2, none⟩ = some z := by
  subst hn
  have := heap_alloc_new w (.cells #[x, y, z] t)
  refine ⟨?_, ?_, ?_⟩ <;> (simp only [World.cell?, this]; rfl)

/-- how a call of does ends -/
def DEnd (w : World) (mb rb base : Nat) (es' : List Ent) (sv : Value) (q : Option Nat) (c : Nat) (kv vv : Value) (w' : World) : Prop :=
  ∃ sv' q' c' kv' vv', Jn w' mb rb base es' sv' q' c' kv' vv' ∧ Ch (Xd mb rb c sv) w w' ∧ Tn w.heap.size sv q c sv' q' c' ∧ Fr w.heap.size kv vv kv' vv' ∧ (Dq q vv → Dq q' vv')

theorem ch_alloc {X : Nat → Prop} {w w' : World} {o : Obj} (h : Ch X (w.alloc o) w') : Ch X w w' :=
  (Ch.of_below ((Below.refl _ w).alloc (Nat.le_refl _) o)).trans h

theorem pick_len (kind : Int) (k : ByteArray) (es : List Ent) : (pick kind k es).length ≤ es.length := by
  unfold pick under
  split
  · simp
  · split
    · simp
    · split
      · simp only [List.length_take, List.length_drop]; omega
      · exact Nat.le_refl _
theorem Ch.mono' {X Y : Nat → Prop} {a b : World} (h : Ch X a b) (hXY : ∀ k, X k → Y k) : Ch Y a b := h.mono (fun k _ e => hXY k e)
theorem Tn.of_ranged {w : World} {mb : Nat} {es : List Ent} {sv : Value} {q q' : Option Nat} {c N : Nat} (hM : Mp w mb es sv q c) (h : q' = q ∨ (q = none ∧ ∃ b, q' = some b ∧ w.heap.size ≤ b)) (hN : N ≤ w.heap.size) : Tn N sv q c sv q' c := by
  rcases h with rfl | ⟨rfl, b, rfl, hb⟩
  · exact .inl ⟨rfl, rfl, rfl⟩
  · have hc : c = 0 := by
      rcases hM.lent with ⟨_, h⟩ | ⟨b, e, _⟩
      · exact h
      · cases e
    exact .inr ⟨hc, fun g e => .inl ⟨hc, e⟩, fun b' e => by cases e; exact .inr (Nat.le_trans hN hb)⟩

set_option maxHeartbeats 4000000 in
theorem does_put {w : World} {mb rb base : Nat} {es : List Ent} {sv : Value} {q : Option Nat} {c : Nat} {kv vv : Value} (h : Jn w mb rb base es sv q c kv vv) (k : ByteArray) (v : Int) (hk : k.size < 4611686018427387904) (hn : (es.length + 1) * 24 ≤ 211106232528000) (hb0 : base ≤ w.heap.size) :
    Calls Try.prog 6 #[.pointer (some ⟨mb, 0, none⟩), .pointer (some ⟨rb, 0, none⟩), .agg #[.int .i64 1, .string k, .int .i64 v]] w fun e w' => e = .returned (.bool true) ∧ DEnd w mb rb base (put es k v) sv q c kv vv w' := by
  have hlt := h.m.lt
  have hB0 : Below w.heap.size w (w.alloc (.cells #[.int .i64 1, .string k, .int .i64 v] 33)) := (Below.refl _ w).alloc (Nat.le_refl _) _
  have H : Hid (Jn (w.alloc (.cells #[.int .i64 1, .string k, .int .i64 v] 33)) mb rb base es sv q c kv vv) := h.below hB0
  obtain ⟨z0, z1, z2⟩ := new_act w w.heap.size (.int .i64 1) (.string k) (.int .i64 v) 33 rfl
  have hz : Hid (∀ g, sv.ownBlock = some g → g < w.heap.size) := fun g e => h.m.own_lt e
  clear h hB0
  go_enter Try.func6, Try.ntmps6
  go_wp2_with fail
  refine (Put_any H.out.m k v hn).mono ?_
  rintro e w1 ⟨rfl, sv1, q1, hM1, hT1⟩
  have nX : ¬ (w.heap.size = mb ∨ (c = 0 ∧ sv.ownBlock = some w.heap.size)) := by
    rintro (e | ⟨_, e⟩)
    · omega
    · have := hz.out _ e; omega
  have y1 := hT1.1.cell z1 nX
  have y2 := hT1.1.cell z2 nX
  have hR1 := H.out.r.turn H.out.m hT1.1
  go_wp2_with fail
  refine (rPut_any hR1 H.out.m.rise H.out.sh k v hk hn (by have := hT1.1.size; simp at this; omega)).mono ?_
  rintro e w2 ⟨rfl, kv2, vv2, hR2, hC2, hF2⟩
  go_wp2_with fail
  go_ret
  refine ⟨by simp, sv1, q1, 0, kv2, vv2, ⟨hM1.chr hR1 hC2, hR2, put_short H.out.sh k v hk⟩, ?_, ?_, ?_, ?_⟩
  · exact ch_alloc ((hT1.1.mono (fun b _ e => .inr e)).trans (hC2.mono' (fun b e => .inl e)))
  · exact Tn.low hT1.2 (by simp)
  · exact hF2.low (by have := hT1.1.size; simp at this; omega)
  · exact Tn.dq hT1.2 (fun g e => (H.out.r.kv.2.lt g e).2) (hF2.imp (fun h => h.2) (fun h g e => h g (.inr e))) (fun b hb => hM1.q_lt hb)

set_option maxHeartbeats 4000000 in
theorem does_del {w : World} {mb rb base : Nat} {es : List Ent} {sv : Value} {q : Option Nat} {c : Nat} {kv vv : Value} (h : Jn w mb rb base es sv q c kv vv) (k : ByteArray) (v : Int) (hk : k.size < 4611686018427387904) (hn : (es.length + 1) * 24 ≤ 211106232528000) (hb0 : base ≤ w.heap.size) :
    Calls Try.prog 6 #[.pointer (some ⟨mb, 0, none⟩), .pointer (some ⟨rb, 0, none⟩), .agg #[.int .i64 3, .string k, .int .i64 v]] w fun e w' => e = .returned (.bool true) ∧ DEnd w mb rb base (del es k) sv q c kv vv w' := by
  have hlt := h.m.lt
  have hB0 : Below w.heap.size w (w.alloc (.cells #[.int .i64 3, .string k, .int .i64 v] 33)) := (Below.refl _ w).alloc (Nat.le_refl _) _
  have H : Hid (Jn (w.alloc (.cells #[.int .i64 3, .string k, .int .i64 v] 33)) mb rb base es sv q c kv vv) := h.below hB0
  obtain ⟨z0, z1, z2⟩ := new_act w w.heap.size (.int .i64 3) (.string k) (.int .i64 v) 33 rfl
  have hz : Hid (∀ g, sv.ownBlock = some g → g < w.heap.size) := fun g e => h.m.own_lt e
  clear h hB0
  go_enter Try.func6, Try.ntmps6
  go_wp2_with fail
  refine (Del_any H.out.m k (by omega)).mono ?_
  rintro e w1 ⟨rfl, sv1, q1, c1, hM1, hT1⟩
  have nX : ¬ (w.heap.size = mb ∨ (c = 0 ∧ sv.ownBlock = some w.heap.size)) := by
    rintro (e | ⟨_, e⟩)
    · omega
    · have := hz.out _ e; omega
  have y1 := hT1.1.cell z1 nX
  have hR1 := H.out.r.turn H.out.m hT1.1
  clear z2
  go_wp2_with fail
  refine (rDel_any hR1 H.out.m.rise H.out.sh k hk (by omega) (by have := hT1.1.size; simp at this; omega)).mono ?_
  rintro e w2 ⟨rfl, kv2, vv2, hR2, hC2, hF2⟩
  go_wp2_with fail
  go_ret
  refine ⟨by simp, sv1, q1, c1, kv2, vv2, ⟨hM1.chr hR1 hC2, hR2, del_short H.out.sh k⟩, ?_, ?_, ?_, ?_⟩
  · exact ch_alloc ((hT1.1.mono (fun b _ e => .inr e)).trans (hC2.mono' (fun b e => .inl e)))
  · exact Tn.low hT1.2 (by simp)
  · exact hF2.low (by have := hT1.1.size; simp at this; omega)
  · exact Tn.dq hT1.2 (fun g e => (H.out.r.kv.2.lt g e).2) (hF2.imp (fun h => h.2) (fun h g e => h g (.inr e))) (fun b hb => hM1.q_lt hb)

set_option maxHeartbeats 4000000 in
theorem does_get {w : World} {mb rb base : Nat} {es : List Ent} {sv : Value} {q : Option Nat} {c : Nat} {kv vv : Value} (h : Jn w mb rb base es sv q c kv vv) (k : ByteArray) (v : Int) (hk : k.size < 4611686018427387904) (hn : (es.length + 1) * 24 ≤ 211106232528000) (_hb0 : base ≤ w.heap.size) :
    Calls Try.prog 6 #[.pointer (some ⟨mb, 0, none⟩), .pointer (some ⟨rb, 0, none⟩), .agg #[.int .i64 2, .string k, .int .i64 v]] w fun e w' => e = .returned (.bool true) ∧ DEnd w mb rb base es sv q c kv vv w' := by
  have hlt := h.m.lt
  have hB0 : Below w.heap.size w (w.alloc (.cells #[.int .i64 2, .string k, .int .i64 v] 33)) := (Below.refl _ w).alloc (Nat.le_refl _) _
  have H : Hid (Jn (w.alloc (.cells #[.int .i64 2, .string k, .int .i64 v] 33)) mb rb base es sv q c kv vv) := h.below hB0
  obtain ⟨z0, z1, z2⟩ := new_act w w.heap.size (.int .i64 2) (.string k) (.int .i64 v) 33 rfl
  have hz : Hid (∀ g, sv.ownBlock = some g → g < w.heap.size) := fun g e => h.m.own_lt e
  clear h hB0
  go_enter Try.func6, Try.ntmps6
  go_wp2_with fail
  refine (Get_any H.out.m k (by omega)).mono ?_
  rintro e w1 ⟨rfl, hB1⟩
  have y1 := (hB1.cell (p := ⟨w.heap.size, 1, none⟩) (by simp)).trans z1
  have H1 := H.out.below hB1
  clear z2 hz hlt
  go_wp2_with fail
  refine (rGet_any H1.r H1.m.rise H1.sh k hk (by omega)).mono ?_
  rintro e w2 ⟨rfl, hB2⟩
  go_wp2_with fail
  go_ret
  exact ⟨by simp, sv, q, c, kv, vv, H1.below hB2, ch_alloc ((Ch.of_below hB1).trans (Ch.of_below hB2)), .inl ⟨rfl, rfl, rfl⟩, .inl ⟨rfl, rfl⟩, id⟩

set_option maxHeartbeats 4000000 in
theorem does_range {w : World} {mb rb base : Nat} {es : List Ent} {sv : Value} {q : Option Nat} {c : Nat} {kv vv : Value} (h : Jn w mb rb base es sv q c kv vv) (hc : c < 4611686018427387904) {kind : Int} (hkind : kind = 4 ∨ kind = 5 ∨ kind = 6 ∨ kind = 7) (k : ByteArray) (v : Int) (hk : k.size < 4611686018427387904) (hn : (es.length + 1) * 24 ≤ 211106232528000) (_hb0 : base ≤ w.heap.size) :
    Calls Try.prog 6 #[.pointer (some ⟨mb, 0, none⟩), .pointer (some ⟨rb, 0, none⟩), .agg #[.int .i64 kind, .string k, .int .i64 v]] w fun e w' => e = .returned (.bool true) ∧ DEnd w mb rb base es sv q c kv vv w' := by
  rcases hkind with rfl | rfl | rfl | rfl
  · have hlt := h.m.lt
    have hB0 : Below w.heap.size w (w.alloc (.cells #[.int .i64 4, .string k, .int .i64 v] 33)) := (Below.refl _ w).alloc (Nat.le_refl _) _
    have H : Hid (Jn (w.alloc (.cells #[.int .i64 4, .string k, .int .i64 v] 33)) mb rb base es sv q c kv vv) := h.below hB0
    obtain ⟨z0, z1, z2⟩ := new_act w w.heap.size (.int .i64 4) (.string k) (.int .i64 v) 33 rfl
    have hz : Hid (∀ g, sv.ownBlock = some g → g < w.heap.size) := fun g e => h.m.own_lt e
    clear h hB0
    go_enter Try.func6, Try.ntmps6
    go_wp2_with fail
    refine (ranged_any H.out.m hc (by omega) 4 k v).mono ?_
    rintro e w1 ⟨kv1, vv1, q1, rfl, hK1, hM1, hC1, hQ1⟩
    have nX : ¬ w.heap.size = mb := by omega
    have y0 := hC1.cell z0 nX
    have y1 := hC1.cell z1 nX
    have y2 := hC1.cell z2 nX
    have hR1 := H.out.r.turn H.out.m (hC1.mono (fun b _ e => .inl e))
    have hsz := hC1.size
    go_wp2_with fail
    refine (rRange_any hR1 H.out.m.rise H.out.sh 1 (by simp) k hk (by omega)).mono ?_
    rintro e w2 ⟨kv2, vv2, rfl, hK2, hB2⟩
    have x2 := (hB2.cell (p := ⟨w.heap.size, 2, none⟩) (by simp at hsz; show w.heap.size < _; omega)).trans y2
    go_wp2_with fail
    refine (alike_any (hK1.below hB2) hK2 rfl (Nat.lt_of_le_of_lt (pick_len _ k es) (by omega))).mono ?_
    rintro e w3 ⟨rfl, hB3⟩
    go_wp2_with fail
    go_ret
    refine ⟨rfl, sv, q1, c, kv, vv, ⟨(hM1.below hB2).below hB3, (hR1.below hB2).below hB3, H.out.sh⟩, ?_, ?_, .inl ⟨rfl, rfl⟩, fun hd => Tn.dq (sv := sv) (sv' := sv) (c := c) (c' := c) (M := w1.heap.size) (Tn.of_ranged H.out.m hQ1 (Nat.le_refl _)) (fun g e => (H.out.r.kv.2.lt g e).2) (.inl rfl) (fun b hb => hM1.q_lt hb) hd⟩
    · exact ch_alloc (((hC1.mono' (fun b e => .inr (.inl e))).trans (Ch.of_below hB2)).trans (Ch.of_below hB3))
    · exact Tn.of_ranged H.out.m hQ1 (by simp)
  · have hlt := h.m.lt
    have hB0 : Below w.heap.size w (w.alloc (.cells #[.int .i64 5, .string k, .int .i64 v] 33)) := (Below.refl _ w).alloc (Nat.le_refl _) _
    have H : Hid (Jn (w.alloc (.cells #[.int .i64 5, .string k, .int .i64 v] 33)) mb rb base es sv q c kv vv) := h.below hB0
    obtain ⟨z0, z1, z2⟩ := new_act w w.heap.size (.int .i64 5) (.string k) (.int .i64 v) 33 rfl
    have hz : Hid (∀ g, sv.ownBlock = some g → g < w.heap.size) := fun g e => h.m.own_lt e
    clear h hB0
    go_enter Try.func6, Try.ntmps6
    go_wp2_with fail
    refine (ranged_any H.out.m hc (by omega) 5 k v).mono ?_
    rintro e w1 ⟨kv1, vv1, q1, rfl, hK1, hM1, hC1, hQ1⟩
    have nX : ¬ w.heap.size = mb := by omega
    have y0 := hC1.cell z0 nX
    have y1 := hC1.cell z1 nX
    have y2 := hC1.cell z2 nX
    have hR1 := H.out.r.turn H.out.m (hC1.mono (fun b _ e => .inl e))
    have hsz := hC1.size
    go_wp2_with fail
    refine (rRange_any hR1 H.out.m.rise H.out.sh 2 (by simp) k hk (by omega)).mono ?_
    rintro e w2 ⟨kv2, vv2, rfl, hK2, hB2⟩
    have x2 := (hB2.cell (p := ⟨w.heap.size, 2, none⟩) (by simp at hsz; show w.heap.size < _; omega)).trans y2
    go_wp2_with fail
    refine (alike_any (hK1.below hB2) hK2 rfl (Nat.lt_of_le_of_lt (pick_len _ k es) (by omega))).mono ?_
    rintro e w3 ⟨rfl, hB3⟩
    go_wp2_with fail
    go_ret
    refine ⟨rfl, sv, q1, c, kv, vv, ⟨(hM1.below hB2).below hB3, (hR1.below hB2).below hB3, H.out.sh⟩, ?_, ?_, .inl ⟨rfl, rfl⟩, fun hd => Tn.dq (sv := sv) (sv' := sv) (c := c) (c' := c) (M := w1.heap.size) (Tn.of_ranged H.out.m hQ1 (Nat.le_refl _)) (fun g e => (H.out.r.kv.2.lt g e).2) (.inl rfl) (fun b hb => hM1.q_lt hb) hd⟩
    · exact ch_alloc (((hC1.mono' (fun b e => .inr (.inl e))).trans (Ch.of_below hB2)).trans (Ch.of_below hB3))
    · exact Tn.of_ranged H.out.m hQ1 (by simp)
  · have hlt := h.m.lt
    have hB0 : Below w.heap.size w (w.alloc (.cells #[.int .i64 6, .string k, .int .i64 v] 33)) := (Below.refl _ w).alloc (Nat.le_refl _) _
    have H : Hid (Jn (w.alloc (.cells #[.int .i64 6, .string k, .int .i64 v] 33)) mb rb base es sv q c kv vv) := h.below hB0
    obtain ⟨z0, z1, z2⟩ := new_act w w.heap.size (.int .i64 6) (.string k) (.int .i64 v) 33 rfl
    have hz : Hid (∀ g, sv.ownBlock = some g → g < w.heap.size) := fun g e => h.m.own_lt e
    clear h hB0
    go_enter Try.func6, Try.ntmps6
    go_wp2_with fail
    refine (ranged_any H.out.m hc (by omega) 6 k v).mono ?_
    rintro e w1 ⟨kv1, vv1, q1, rfl, hK1, hM1, hC1, hQ1⟩
    have nX : ¬ w.heap.size = mb := by omega
    have y0 := hC1.cell z0 nX
    have y1 := hC1.cell z1 nX
    have y2 := hC1.cell z2 nX
    have hR1 := H.out.r.turn H.out.m (hC1.mono (fun b _ e => .inl e))
    have hsz := hC1.size
    go_wp2_with fail
    refine (rRange_any hR1 H.out.m.rise H.out.sh 3 (by simp) k hk (by omega)).mono ?_
    rintro e w2 ⟨kv2, vv2, rfl, hK2, hB2⟩
    have x2 := (hB2.cell (p := ⟨w.heap.size, 2, none⟩) (by simp at hsz; show w.heap.size < _; omega)).trans y2
    go_wp2_with fail
    refine (alike_any (hK1.below hB2) hK2 rfl (Nat.lt_of_le_of_lt (pick_len _ k es) (by omega))).mono ?_
    rintro e w3 ⟨rfl, hB3⟩
    go_wp2_with fail
    go_ret
    refine ⟨rfl, sv, q1, c, kv, vv, ⟨(hM1.below hB2).below hB3, (hR1.below hB2).below hB3, H.out.sh⟩, ?_, ?_, .inl ⟨rfl, rfl⟩, fun hd => Tn.dq (sv := sv) (sv' := sv) (c := c) (c' := c) (M := w1.heap.size) (Tn.of_ranged H.out.m hQ1 (Nat.le_refl _)) (fun g e => (H.out.r.kv.2.lt g e).2) (.inl rfl) (fun b hb => hM1.q_lt hb) hd⟩
    · exact ch_alloc (((hC1.mono' (fun b e => .inr (.inl e))).trans (Ch.of_below hB2)).trans (Ch.of_below hB3))
    · exact Tn.of_ranged H.out.m hQ1 (by simp)
  · have hlt := h.m.lt
    have hB0 : Below w.heap.size w (w.alloc (.cells #[.int .i64 7, .string k, .int .i64 v] 33)) := (Below.refl _ w).alloc (Nat.le_refl _) _
    have H : Hid (Jn (w.alloc (.cells #[.int .i64 7, .string k, .int .i64 v] 33)) mb rb base es sv q c kv vv) := h.below hB0
    obtain ⟨z0, z1, z2⟩ := new_act w w.heap.size (.int .i64 7) (.string k) (.int .i64 v) 33 rfl
    have hz : Hid (∀ g, sv.ownBlock = some g → g < w.heap.size) := fun g e => h.m.own_lt e
    clear h hB0
    go_enter Try.func6, Try.ntmps6
    go_wp2_with fail
    refine (ranged_any H.out.m hc (by omega) 7 k v).mono ?_
    rintro e w1 ⟨kv1, vv1, q1, rfl, hK1, hM1, hC1, hQ1⟩
    have nX : ¬ w.heap.size = mb := by omega
    have y0 := hC1.cell z0 nX
    have y1 := hC1.cell z1 nX
    have y2 := hC1.cell z2 nX
    have hR1 := H.out.r.turn H.out.m (hC1.mono (fun b _ e => .inl e))
    have hsz := hC1.size
    go_wp2_with fail
    refine (rRange_any hR1 H.out.m.rise H.out.sh 4 (by simp) k hk (by omega)).mono ?_
    rintro e w2 ⟨kv2, vv2, rfl, hK2, hB2⟩
    have x2 := (hB2.cell (p := ⟨w.heap.size, 2, none⟩) (by simp at hsz; show w.heap.size < _; omega)).trans y2
    go_wp2_with fail
    refine (alike_any (hK1.below hB2) hK2 rfl (Nat.lt_of_le_of_lt (pick_len _ k es) (by omega))).mono ?_
    rintro e w3 ⟨rfl, hB3⟩
    go_wp2_with fail
    go_ret
    refine ⟨rfl, sv, q1, c, kv, vv, ⟨(hM1.below hB2).below hB3, (hR1.below hB2).below hB3, H.out.sh⟩, ?_, ?_, .inl ⟨rfl, rfl⟩, fun hd => Tn.dq (sv := sv) (sv' := sv) (c := c) (c' := c) (M := w1.heap.size) (Tn.of_ranged H.out.m hQ1 (Nat.le_refl _)) (fun g e => (H.out.r.kv.2.lt g e).2) (.inl rfl) (fun b hb => hM1.q_lt hb) hd⟩
    · exact ch_alloc (((hC1.mono' (fun b e => .inr (.inl e))).trans (Ch.of_below hB2)).trans (Ch.of_below hB3))
    · exact Tn.of_ranged H.out.m hQ1 (by simp)

set_option maxHeartbeats 4000000 in
theorem does_none {w : World} {mb rb base : Nat} {es : List Ent} {sv : Value} {q : Option Nat} {c : Nat} {kv vv : Value} (h : Jn w mb rb base es sv q c kv vv) {kind : Int} (hkind : ¬ (kind = 1 ∨ kind = 2 ∨ kind = 3 ∨ kind = 4 ∨ kind = 5 ∨ kind = 6 ∨ kind = 7)) (k : ByteArray) (v : Int) :
    Calls Try.prog 6 #[.pointer (some ⟨mb, 0, none⟩), .pointer (some ⟨rb, 0, none⟩), .agg #[.int .i64 kind, .string k, .int .i64 v]] w fun e w' => e = .returned (.bool true) ∧ DEnd w mb rb base es sv q c kv vv w' := by
  have hB0 : Below w.heap.size w (w.alloc (.cells #[.int .i64 kind, .string k, .int .i64 v] 33)) := (Below.refl _ w).alloc (Nat.le_refl _) _
  have H : Hid (Jn (w.alloc (.cells #[.int .i64 kind, .string k, .int .i64 v] 33)) mb rb base es sv q c kv vv) := h.below hB0
  have n1 : (kind == 1) = false := by simp; omega
  have n2 : (kind == 2) = false := by simp; omega
  have n3 : (kind == 3) = false := by simp; omega
  have n4 : (kind == 4) = false := by simp; omega
  have n5 : (kind == 5) = false := by simp; omega
  have n6 : (kind == 6) = false := by simp; omega
  have n7 : (kind == 7) = false := by simp; omega
  clear h hkind
  go_enter Try.func6, Try.ntmps6
  go_wp2_with fail
  go_ret
  exact ⟨rfl, sv, q, c, kv, vv, H.out, Ch.of_below hB0, .inl ⟨rfl, rfl, rfl⟩, .inl ⟨rfl, rfl⟩, id⟩

/-- one act is answered as the document says, and both maps have the same behind it -/
theorem does_any {w : World} {mb rb base : Nat} {es : List Ent} {sv : Value} {q : Option Nat} {c : Nat} {kv vv : Value} (h : Jn w mb rb base es sv q c kv vv) (hc : c < 4611686018427387904) (kind : Int) (k : ByteArray) (v : Int) (hk : k.size < 4611686018427387904) (hn : (es.length + 1) * 24 ≤ 211106232528000) (hb0 : base ≤ w.heap.size) :
    Calls Try.prog 6 #[.pointer (some ⟨mb, 0, none⟩), .pointer (some ⟨rb, 0, none⟩), .agg #[.int .i64 kind, .string k, .int .i64 v]] w fun e w' => e = .returned (.bool true) ∧ DEnd w mb rb base (act kind k v es) sv q c kv vv w' := by
  by_cases h1 : kind = 1
  · subst h1; exact does_put h k v hk hn hb0
  by_cases h3 : kind = 3
  · subst h3; exact does_del h k v hk hn hb0
  rw [act_none k v es h1 h3]
  by_cases h2 : kind = 2
  · subst h2; exact does_get h k v hk hn hb0
  by_cases h4 : kind = 4 ∨ kind = 5 ∨ kind = 6 ∨ kind = 7
  · exact does_range h hc h4 k v hk hn hb0
  · exact does_none h (by omega) k v
end Go.Proofs.Ytkohcdefhaokiab

/-
  What was put and taken away again leaves the entries as they were.
-/
import Derived.Test.YtkohcdefhaokiabSPlay
namespace Go.Proofs.Ytkohcdefhaokiab
open Go.RowKit Go.Shelf Go.Lib Go.Sort

theorem pos_app {k : ByteArray} {x : Ent} {B : List Ent} (hx : lt x.1 k = false) : ∀ (A : List Ent), (∀ e ∈ A, lt e.1 k = true) → pos (A ++ x :: B) k = A.length
  | [], _ => by simp [pos, hx]
  | e :: A, h => by
    rw [List.cons_append, pos, if_pos (h e (List.mem_cons_self ..)), pos_app hx A (fun y hy => h y (List.mem_cons_of_mem _ hy))]
    rfl
theorem put_form {es : List Ent} (hs : Rise es) (k : ByteArray) : ∃ A B : List Ent, del es k = A ++ B ∧ (∀ v, put es k v = A ++ (k, v) :: B) ∧ (∀ v, pos (A ++ (k, v) :: B) k = A.length) := by
  refine ⟨(del es k).take (pos (del es k) k), (del es k).drop (pos (del es k) k), (List.take_append_drop _ _).symm, fun v => put_del hs k v, fun v => ?_⟩
  refine pos_app (lt_irrefl k) _ ?_
  intro e he
  obtain ⟨i, hi, rfl⟩ := List.mem_iff_getElem.1 he
  have hp := pos_le (del es k) k
  rw [List.length_take] at hi
  rw [List.getElem_take]
  exact (pos_lt (del es k) k i (del_rise hs k) (by omega)).2 (by omega)
theorem has_put {es : List Ent} (hs : Rise es) (k : ByteArray) (v : Int) : has (put es k v) k = true ∧ val (put es k v) k = v ∧ del (put es k v) k = del es k := by
  obtain ⟨A, B, h1, h2, h3⟩ := put_form hs k
  have h4 := h3 v
  have hh : has (A ++ (k, v) :: B) k = true := by unfold has; rw [h4]; simp
  rw [h2 v]
  refine ⟨hh, ?_, ?_⟩
  · unfold val; rw [hh, h4]; simp
  · rw [h1]
    unfold del
    rw [hh, h4]
    simp
theorem has_del {es : List Ent} (hs : Rise es) (k : ByteArray) : has (del es k) k = false := by
  cases hh : has es k with
  | false => simp [del, hh]
  | true =>
    obtain ⟨hp, hk⟩ := has_lt hh
    have hpd := pos_del hs k
    have hd : del es k = es.take (pos es k) ++ es.drop (pos es k + 1) := by simp [del, hh]
    unfold has
    rw [hpd, hd, List.getElem?_append_right (by simp; omega)]
    simp only [List.length_take, List.getElem?_drop]
    have e : pos es k + 1 + (pos es k - min (pos es k) es.length) = pos es k + 1 := by omega
    rw [e]
    cases hq : es[pos es k + 1]? with
    | none => rfl
    | some x =>
      obtain ⟨hi, rfl⟩ := List.getElem?_eq_some_iff.1 hq
      have h1 := hs.get hp hi (by omega)
      rw [hk] at h1
      cases hb : (es[pos es k + 1].1.toList == k.toList) with
      | false => simp [hb]
      | true =>
        have : es[pos es k + 1].1 = k := by
          apply key_ext
          simpa [Lib.toList_data] using hb
        rw [this, lt_irrefl] at h1
        cases h1
theorem put_back {es : List Ent} (hs : Rise es) (k : ByteArray) (hh : has es k = true) : put (del es k) k (val es k) = es := by
  obtain ⟨hp, hk⟩ := has_lt hh
  have h1 : put (del es k) k (val es k) = put es k (val es k) := by
    rw [put_del hs]
    unfold put
    rw [has_del hs k]
    simp
  rw [h1]
  unfold put
  rw [hh, if_pos rfl, val_has hh hp]
  have : (k, es[pos es k].2) = es[pos es k] := Prod.ext hk.symm rfl
  rw [this, List.set_getElem_self]
theorem del_not {es : List Ent} {k : ByteArray} (h : has es k = false) : del es k = es := by simp [del, h]

/-- keys and values that were told stay -/
def KVk (w w' : World) : Prop := ∀ b kv vv l, KV w b kv vv l → KV w' b kv vv l

theorem KV.turn {w w' : World} {b mb : Nat} {kv vv : Value} {l es : List Ent} {sv : Value} {q : Option Nat} {c : Nat} (h : KV w b kv vv l) (hM : Mp w mb es sv q c) (hc : Ch (fun b => b = mb ∨ (c = 0 ∧ sv.ownBlock = some b)) w w') : KV w' b kv vv l := by
  refine ⟨hc.row h.1 ?_, hc.row h.2 ?_⟩
  · rintro g hg (rfl | ⟨_, e⟩)
    · obtain ⟨_, cur, hx⟩ := row_obj h.1 hg
      rw [hM.hd] at hx; injection hx with x; injection x with _ x; cases x
    · exact row_ne hM.row h.1 (by decide) e hg rfl
  · rintro g hg (rfl | ⟨_, e⟩)
    · obtain ⟨_, cur, hx⟩ := row_obj h.2 hg
      rw [hM.hd] at hx; injection hx with x; injection x with _ x; cases x
    · exact row_ne hM.row h.2 (by decide) e hg rfl

/-- one map; nothing that was there in w0 is touched -/
def Sg (w0 : World) (mb : Nat) (es : List Ent) (w : World) : Prop :=
  ∃ sv q, Mp w mb es sv q 0 ∧ Below w0.heap.size w0 w ∧ (∀ g, sv.ownBlock = some g → w0.heap.size ≤ g) ∧ w0.heap.size ≤ mb

theorem Pl.sg {w0 w : World} {mb rb : Nat} {es : List Ent} (h : Pl w0 mb rb es w) : Sg w0 mb es w := by
  obtain ⟨sv, q, kv, vv, hJ, hB, hsv, hm, _⟩ := h
  exact ⟨sv, q, hJ.m, hB, hsv, hm⟩
theorem Sg.b {w0 w : World} {mb : Nat} {es : List Ent} (h : Sg w0 mb es w) : Below w0.heap.size w0 w := by
  obtain ⟨sv, q, hM, hB, _⟩ := h
  exact hB
theorem Sg.rise {w0 w : World} {mb : Nat} {es : List Ent} (h : Sg w0 mb es w) : Rise es := by
  obtain ⟨sv, q, hM, _⟩ := h
  exact hM.rise
theorem Sg.below {w0 w w' : World} {mb : Nat} {es : List Ent} (h : Sg w0 mb es w) (hb : Below w.heap.size w w') : Sg w0 mb es w' := by
  obtain ⟨sv, q, hM, hB, hr⟩ := h
  exact ⟨sv, q, hM.below hb, hB.trans (hb.mono hB.size), hr⟩
theorem KVk.below {w w' : World} (hb : Below w.heap.size w w') : KVk w w' := fun _ _ _ _ h => h.below hb
theorem Sg.next {w0 w w' : World} {mb : Nat} {es es' : List Ent} {sv sv' : Value} {q q' : Option Nat} {c' : Nat} (hM : Mp w mb es sv q 0) (hB : Below w0.heap.size w0 w) (hsv : ∀ g, sv.ownBlock = some g → w0.heap.size ≤ g) (hm : w0.heap.size ≤ mb) (h : Mp w' mb es' sv' q' c') (hT : Turn mb w sv q 0 w' sv' q' c') : Sg w0 mb es' w' ∧ KVk w w' := by
  have hc : c' = 0 := by rcases hT.2 with ⟨_, _, h⟩ | ⟨h, _⟩ <;> exact h
  subst hc
  refine ⟨⟨sv', q', h, hB.trans (hT.1.below hB.size ?_), ?_, hm⟩, fun b kv vv l h => h.turn hM hT.1⟩
  · rintro k hk (rfl | ⟨_, e⟩)
    · omega
    · have := hsv k e; omega
  · intro g hg
    rcases hT.2 with ⟨rfl, _⟩ | ⟨_, h2, _⟩
    · exact hsv g hg
    · rcases h2 g hg with ⟨_, e⟩ | h
      · exact hsv g e
      · have := hB.size; omega
theorem put_sg {w0 w : World} {mb : Nat} {es : List Ent} (h : Sg w0 mb es w) (k : ByteArray) (v : Int) (hn : es.length ≤ 8796093021999) :
    Calls Try.prog 8 #[.pointer (some ⟨mb, 0, none⟩), .string k, .int .i64 v] w fun e w' => e = .returned (.tuple #[.int .i64 (val es k), .bool (has es k)]) ∧ Sg w0 mb (put es k v) w' ∧ KVk w w' := by
  obtain ⟨sv, q, hM, hB, hsv, hm⟩ := h
  refine (Put_any hM k v (by omega)).mono ?_
  rintro e w' ⟨rfl, sv', q', hM', hT⟩
  exact ⟨rfl, Sg.next hM hB hsv hm hM' hT⟩
theorem del_sg {w0 w : World} {mb : Nat} {es : List Ent} (h : Sg w0 mb es w) (k : ByteArray) (hn : es.length ≤ 8796093021999) :
    Calls Try.prog 9 #[.pointer (some ⟨mb, 0, none⟩), .string k] w fun e w' => e = .returned (.tuple #[.int .i64 (val es k), .bool (has es k)]) ∧ Sg w0 mb (del es k) w' ∧ KVk w w' := by
  obtain ⟨sv, q, hM, hB, hsv, hm⟩ := h
  refine (Del_any hM k (by omega)).mono ?_
  rintro e w' ⟨rfl, sv', q', c', hM', hT⟩
  exact ⟨rfl, Sg.next hM hB hsv hm hM' hT⟩
theorem get_sg {w0 w : World} {mb : Nat} {es : List Ent} (h : Sg w0 mb es w) (k : ByteArray) (hn : es.length ≤ 8796093021999) :
    Calls Try.prog 10 #[.pointer (some ⟨mb, 0, none⟩), .string k] w fun e w' => e = .returned (.tuple #[.int .i64 (val es k), .bool (has es k)]) ∧ Sg w0 mb es w' ∧ KVk w w' := by
  have h0 := h
  obtain ⟨sv, q, hM, hB, hsv, hm⟩ := h
  refine (Get_any hM k (by omega)).mono ?_
  rintro e w' ⟨rfl, hb⟩
  exact ⟨rfl, h0.below hb, KVk.below hb⟩
theorem ranged_sg {w0 w : World} {mb : Nat} {es : List Ent} (h : Sg w0 mb es w) (kind : Int) (k : ByteArray) (m : Int) (hn : es.length ≤ 8796093021999) :
    Calls Try.prog 7 #[.pointer (some ⟨mb, 0, none⟩), .int .i64 kind, .string k, .int .i64 m] w fun e w' => ∃ kv vv, e = .returned (.tuple #[kv, vv]) ∧ KV w' w0.heap.size kv vv (most m (pick kind k es)) ∧ Sg w0 mb es w' ∧ KVk w w' := by
  obtain ⟨sv, q, hM, hB, hsv, hm⟩ := h
  refine (ranged_any hM (by decide) (by omega) kind k m).mono ?_
  rintro e w' ⟨kv', vv', q', rfl, hK, hM', hC, hq⟩
  exact ⟨kv', vv', rfl, ⟨row_low hK.1 hB.size, row_low hK.2 hB.size⟩, ⟨sv, q', hM', hB.trans (hC.below hB.size (fun k hk e => by omega)), hsv, hm⟩, fun b kv vv l h => h.chm hM hC⟩
end Go.Proofs.Ytkohcdefhaokiab

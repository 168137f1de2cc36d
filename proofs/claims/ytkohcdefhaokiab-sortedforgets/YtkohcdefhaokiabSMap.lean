/-
  Contracts of package sorted's Map at ints: New, Len, find, own, Put, Get, Del, Clone: what is answered, what the map has then, and which blocks of memory may have changed.
-/
import Derived.Test.YtkohcdefhaokiabSDel
import Derived.BigQuiet
import Derived.Deep.QuietTactic
namespace Go.Proofs.Ytkohcdefhaokiab
open Go.RowKit Go.Shelf Go.Lib Go.Sort

/-- the map in block mb has these entries; its cells are sv's; q: the block of its count of ranges, which is c -/
structure Mp (w : World) (mb : Nat) (es : List (ByteArray × Int)) (sv : Value) (q : Option Nat) (c : Nat) : Prop where
  hd : w.heap[mb]? = some (.cells #[sv, .pointer (q.map fun b => ⟨b, 0, none⟩)] 45 (0, 0))
  row : w.ownsRow 0 54 2 sv es.length (flat es)
  rise : Rise es
  lent : (q = none ∧ c = 0) ∨ ∃ b, q = some b ∧ w.heap[b]? = some (.cells #[.int .i64 c] 3 (0, 0))

theorem flat_one (es : List (ByteArray × Int)) : ∀ v ∈ flat es, v.oneCell' = true := by
  intro v hv
  simp only [flat, List.mem_flatMap] at hv
  obtain ⟨e, _, he⟩ := hv
  simp at he
  rcases he with rfl | rfl <;> rfl

theorem Mp.cell0 {w : World} {mb : Nat} {es : List (ByteArray × Int)} {sv : Value} {q : Option Nat} {c : Nat} (h : Mp w mb es sv q c) : w.cell? ⟨mb, 0, none⟩ = some sv := by simp [World.cell?, h.hd]
theorem Mp.cell1 {w : World} {mb : Nat} {es : List (ByteArray × Int)} {sv : Value} {q : Option Nat} {c : Nat} (h : Mp w mb es sv q c) : w.cell? ⟨mb, 1, none⟩ = some (.pointer (q.map fun b => ⟨b, 0, none⟩)) := by simp [World.cell?, h.hd]
theorem Mp.fro {w : World} {mb : Nat} {es : List (ByteArray × Int)} {sv : Value} {q : Option Nat} {c : Nat} (h : Mp w mb es sv q c) (j : Nat) : w.frozen? ⟨mb, j, none⟩ = false := by simp [World.frozen?, h.hd]
theorem Mp.lt {w : World} {mb : Nat} {es : List (ByteArray × Int)} {sv : Value} {q : Option Nat} {c : Nat} (h : Mp w mb es sv q c) : mb < w.heap.size := (Array.getElem?_eq_some_iff.1 h.hd).1
/-- the cells' block is not the map's -/
theorem Mp.apart {w : World} {mb : Nat} {es : List (ByteArray × Int)} {sv : Value} {q : Option Nat} {c : Nat} (h : Mp w mb es sv q c) : sv.ownBlock ≠ some mb := by
  rcases h.row.2 with ⟨rfl, _⟩ | ⟨g, cap, cur, rfl, _, hg, _⟩
  · simp [Value.ownBlock]
  · intro e
    simp [Value.ownBlock] at e
    subst e
    rw [h.hd] at hg
    injection hg with e1
    injection e1 with e2 e3
    cases e3
theorem Mp.lentApart {w : World} {mb : Nat} {es : List (ByteArray × Int)} {sv : Value} {q : Option Nat} {c : Nat} (h : Mp w mb es sv q c) {b : Nat} (hq : q = some b) : b ≠ mb ∧ sv.ownBlock ≠ some b := by
  rcases h.lent with ⟨h0, _⟩ | ⟨b', e, hb⟩
  · rw [h0] at hq; cases hq
  · rw [hq] at e; cases e
    refine ⟨fun e => ?_, fun e => ?_⟩
    · subst e; rw [h.hd] at hb; injection hb with e1; injection e1 with e2 e3; cases e3
    · rcases h.row.2 with ⟨rfl, _⟩ | ⟨g, cap, cur, rfl, _, hg, _⟩
      · simp [Value.ownBlock] at e
      · simp [Value.ownBlock] at e
        subst e
        rw [hb] at hg
        injection hg with e1
        injection e1 with e2 e3
        cases e3
/-- what else changes does not matter -/
theorem Mp.ch {w w' : World} {mb : Nat} {es : List (ByteArray × Int)} {sv : Value} {q : Option Nat} {c : Nat} {X : Nat → Prop} (h : Mp w mb es sv q c) (hc : Ch X w w') (h1 : ¬ X mb) (h2 : ∀ g, sv.ownBlock = some g → ¬ X g) (h3 : ∀ b, q = some b → ¬ X b) : Mp w' mb es sv q c :=
  ⟨hc.obj h.hd h1, hc.row h.row h2, h.rise, h.lent.imp id (fun ⟨b, e, hb⟩ => ⟨b, e, hc.obj hb (h3 b e)⟩)⟩
theorem Mp.below {w w' : World} {mb : Nat} {es : List (ByteArray × Int)} {sv : Value} {q : Option Nat} {c : Nat} (h : Mp w mb es sv q c) (hb : Below w.heap.size w w') : Mp w' mb es sv q c :=
  h.ch (X := fun _ => False) (Ch.of_below hb) id (fun _ _ => id) (fun _ _ => id)

/-- what a call may have done to the map's memory -/
def Turn (mb : Nat) (w : World) (sv : Value) (q : Option Nat) (c : Nat) (w' : World) (sv' : Value) (q' : Option Nat) (c' : Nat) : Prop :=
  Ch (fun b => b = mb ∨ (c = 0 ∧ sv.ownBlock = some b)) w w' ∧
  ((sv' = sv ∧ q' = q ∧ c' = c) ∨ (c' = 0 ∧ (∀ g, sv'.ownBlock = some g → (c = 0 ∧ sv.ownBlock = some g) ∨ w.heap.size ≤ g) ∧ (∀ b, q' = some b → (c = 0 ∧ q = some b) ∨ w.heap.size ≤ b)))

theorem Turn.refl (mb : Nat) (w : World) (sv : Value) (q : Option Nat) (c : Nat) : Turn mb w sv q c w sv q c := ⟨Ch.refl _ _, .inl ⟨rfl, rfl, rfl⟩⟩
theorem Turn.of_below {mb : Nat} {w w' : World} {sv : Value} {q : Option Nat} {c : Nat} (h : Below w.heap.size w w') : Turn mb w sv q c w' sv q c := ⟨Ch.of_below h, .inl ⟨rfl, rfl, rfl⟩⟩
theorem Turn.trans {mb : Nat} {w w' w'' : World} {sv sv' sv'' : Value} {q q' q'' : Option Nat} {c c' c'' : Nat} (h : Turn mb w sv q c w' sv' q' c') (k : Turn mb w' sv' q' c' w'' sv'' q'' c'') : Turn mb w sv q c w'' sv'' q'' c'' := by
  obtain ⟨h1, h2⟩ := h
  obtain ⟨k1, k2⟩ := k
  have hs := h1.size
  refine ⟨⟨k1.os.trans h1.os, k1.tape.trans h1.tape, k1.output.trans h1.output, Nat.le_trans h1.size k1.size, fun b hb hX => ?_⟩, ?_⟩
  · refine (k1.block b (by omega) (fun hX' => ?_)).trans (h1.block b hb hX)
    rcases hX' with e | ⟨h0, e⟩
    · exact hX (.inl e)
    · rcases h2 with ⟨rfl, rfl, rfl⟩ | ⟨_, h3, _⟩
      · exact hX (.inr ⟨h0, e⟩)
      · rcases h3 b e with h4 | h4
        · exact hX (.inr h4)
        · omega
  · rcases k2 with ⟨rfl, rfl, rfl⟩ | ⟨k0, k3, k4⟩
    · exact h2
    · refine .inr ⟨k0, fun g hg => ?_, fun b hb => ?_⟩
      · rcases k3 g hg with ⟨h0, e⟩ | h5
        · rcases h2 with ⟨rfl, rfl, rfl⟩ | ⟨_, h3, _⟩
          · exact .inl ⟨h0, e⟩
          · exact h3 g e
        · exact .inr (by omega)
      · rcases k4 b hb with ⟨h0, e⟩ | h5
        · rcases h2 with ⟨rfl, rfl, rfl⟩ | ⟨_, _, h3⟩
          · exact .inl ⟨h0, e⟩
          · exact h3 b e
        · exact .inr (by omega)

theorem two0 {w : World} {b : Nat} {x y : Value} {t : TypeId} (h : w.heap[b]? = some (.cells #[x, y] t (0, 0))) (v : Value) : (w.setCell ⟨b, 0, none⟩ v).heap[b]? = some (.cells #[v, y] t (0, 0)) := heap_setCell_same w b 0 _ t v h
theorem two1 {w : World} {b : Nat} {x y : Value} {t : TypeId} (h : w.heap[b]? = some (.cells #[x, y] t (0, 0))) (v : Value) : (w.setCell ⟨b, 1, none⟩ v).heap[b]? = some (.cells #[x, v] t (0, 0)) := heap_setCell_same w b 1 _ t v h

set_option maxHeartbeats 400000 in
theorem nothing_any (w : World) : Calls Try.prog 21 #[] w fun e w' => e = .returned (.tuple #[.int .i64 0, .bool false]) ∧ w' = w := by
  go_enter Try.func21, Try.ntmps21
  go_wp2
  go_ret2
  exact ⟨rfl, rfl⟩

set_option maxHeartbeats 400000 in
theorem New_any (w : World) : Calls Try.prog 5 #[] w fun e w' => e = .returned (.pointer (some ⟨w.heap.size, 0, none⟩)) ∧ Mp w' w.heap.size [] (.slice none 0 0) none 0 ∧ Below w.heap.size w w' := by
  go_enter Try.func5, Try.ntmps5
  go_wp2
  go_ret
  exact ⟨rfl, ⟨heap_alloc_new w _, World.ownsRow_nil _ _ _ _, List.Pairwise.nil, .inl ⟨rfl, rfl⟩⟩, (Below.refl _ w).alloc (Nat.le_refl _) _⟩

set_option maxHeartbeats 400000 in
theorem Len_any {w : World} {mb : Nat} {es : List (ByteArray × Int)} {sv : Value} {q : Option Nat} {c : Nat} (h : Mp w mb es sv q c) :
    Calls Try.prog 12 #[.pointer (some ⟨mb, 0, none⟩)] w fun e w' => e = .returned (.int .i64 es.length) ∧ w' = w := by
  have h0 := h.cell0
  obtain ⟨a, cc, rfl, _⟩ := row_slice h.row
  clear h
  go_enter Try.func12, Try.ntmps12
  go_wp2
  go_ret
  exact ⟨rfl, rfl⟩

set_option maxHeartbeats 1000000 in
theorem find_any {w : World} {mb : Nat} {es : List (ByteArray × Int)} {sv : Value} {q : Option Nat} {c : Nat} (h : Mp w mb es sv q c) (k : ByteArray) (hn : es.length * 24 ≤ 211106232528000) :
    Calls Try.prog 22 #[.pointer (some ⟨mb, 0, none⟩), .string k] w fun e w' => e = .returned (.tuple #[.int .i64 (pos es k : Nat), .bool (has es k)]) ∧ Below w.heap.size w w' := by
  have h0 := h.cell0
  have hp := place_any k h.row h.rise (by omega)
  have hle := pos_le es k
  have hrow := h.row
  have hlt := h.lt
  clear h
  rcases hrow.2 with ⟨rfl, hl0⟩ | ⟨g, cap, cur, rfl, -, hg, -⟩
  · have hes : es = [] := List.eq_nil_of_length_eq_zero hl0
    subst hes
    clear hrow hl0 hle
    have hpos : pos ([] : List (ByteArray × Int)) k = 0 := rfl
    have hhas : has ([] : List (ByteArray × Int)) k = false := rfl
    rw [hpos] at hp ⊢
    rw [hhas]
    clear hpos hhas
    go_enter Try.func22, Try.ntmps22
    go_wp2_with (go_at_call 32; refine hp.mono ?_; rintro e w' ⟨rfl, hb⟩; have h0' := (hb.cell (p := ⟨mb, 0, none⟩) hlt).trans h0)
    go_region
    all_goals go_wp2
    all_goals go_ret2
    all_goals exact ⟨rfl, hb.drew⟩
  · have hgl : g < w.heap.size := (Array.getElem?_eq_some_iff.1 hg).1
    by_cases hr : pos es k < es.length
    · have hc := row_cell hrow (flat_key es (pos es k) hr)
      have hhas : has es k = (es[pos es k].1.toList == k.toList) := by simp [has, hr]
      rw [hhas]
      generalize es[pos es k].1 = y at hc ⊢
      clear hhas hrow hg
      generalize es.length = n at *
      generalize pos es k = r at *
      have hri : (r : Int) < (n : Int) := by omega
      go_enter Try.func22, Try.ntmps22
      go_wp2_with (go_at_call 32; refine hp.mono ?_; rintro e w' ⟨rfl, hb⟩; have h0' := (hb.cell (p := ⟨mb, 0, none⟩) hlt).trans h0; have hc' := (hb.cell (p := ⟨g, r * 2, none⟩) hgl).trans hc)
      go_region
      all_goals go_wp2
      all_goals go_ret2
      all_goals exact ⟨rfl, hb.drew⟩
    · have hhas : has es k = false := by simp [has, hr]
      rw [hhas]
      obtain hre : pos es k = es.length := by omega
      rw [hre] at hp ⊢
      clear hhas hrow hg hr hle hre
      generalize es.length = n at *
      go_enter Try.func22, Try.ntmps22
      go_wp2_with (go_at_call 32; refine hp.mono ?_; rintro e w' ⟨rfl, hb⟩; have h0' := (hb.cell (p := ⟨mb, 0, none⟩) hlt).trans h0)
      go_region
      all_goals go_wp2
      all_goals go_ret2
      all_goals exact ⟨rfl, hb.drew⟩

set_option maxHeartbeats 1000000 in
/-- own: no range goes over the cells then -/
theorem own_any {w : World} {mb : Nat} {es : List (ByteArray × Int)} {sv : Value} {q : Option Nat} {c : Nat} (h : Mp w mb es sv q c) (hn : es.length * 24 ≤ 211106232528000) :
    Calls Try.prog 23 #[.pointer (some ⟨mb, 0, none⟩)] w fun e w' => e = .returned (.tuple #[]) ∧ ∃ sv' q', Mp w' mb es sv' q' 0 ∧ Turn mb w sv q c w' sv' q' 0 := by
  have h0 := h.cell0
  have h1 := h.cell1
  rcases h.lent with ⟨rfl, rfl⟩ | ⟨b, rfl, hb⟩
  · have M : Hid (Mp w mb es sv none 0) := h
    clear h
    go_enter Try.func23, Try.ntmps23
    go_wp2
    go_end0
    exact ⟨rfl, _, _, M.out, Turn.refl _ _ _ _ _⟩
  · have hc : w.cell? ⟨b, 0, none⟩ = some (.int .i64 c) := by simp [World.cell?, hb]
    have M : Hid (Mp w mb es sv (some b) c) := h
    by_cases hz : c = 0
    · subst hz
      clear h hb
      go_enter Try.func23, Try.ntmps23
      go_wp2
      go_end0
      exact ⟨rfl, _, _, M.out, Turn.refl _ _ _ _ _⟩
    · have hf0 := h.fro 0
      have hf1 := h.fro 1
      have hcl := clone_any h.row (flat_one es) hn
      have hcp : (0 : Int) < (c : Int) := by omega
      have hcp' : 0 < c := by omega
      have hlt := h.lt
      clear h hb
      go_enter Try.func23, Try.ntmps23
      go_wp2_with (go_at_call 36; refine hcl.mono ?_; rintro e w' ⟨v', rfl, hrow', hbl, hfr⟩; have h0' := (hbl.cell (p := ⟨mb, 0, none⟩) hlt).trans h0; have h1' := (hbl.cell (p := ⟨mb, 1, none⟩) hlt).trans h1; have hf0' := (hbl.frozen (p := ⟨mb, 0, none⟩) hlt).trans hf0; have hf1' := (hbl.frozen (p := ⟨mb, 1, none⟩) hlt).trans hf1; have RR : Hid (w'.ownsRow 0 54 2 v' es.length (flat es)) := hrow'; obtain ⟨a', c', rfl, -⟩ := row_slice hrow'; clear hrow')
      go_end0
      have hd' := (hbl.block mb hlt).trans M.out.hd
      have hd2 := two1 (two0 hd' (Value.slice a' es.length c')) (.pointer none)
      have hch : Ch (fun k => k = mb) w' ((w'.setCell ⟨mb, 0, none⟩ (Value.slice a' es.length c')).setCell ⟨mb, 1, none⟩ (.pointer none)) := ((Ch.refl (fun k => k = mb) w').setCell ⟨mb, 0, none⟩ _ (fun _ => rfl)).setCell ⟨mb, 1, none⟩ _ (fun _ => rfl)
      have hna : ∀ g, (Value.slice a' es.length c').ownBlock = some g → ¬ g = mb := fun g hg e => by have := hfr g hg; omega
      refine ⟨rfl, _, none, ⟨hd2, hch.row RR.out hna, M.out.rise, .inl ⟨rfl, rfl⟩⟩, ?_, .inr ⟨rfl, fun g hg => .inr (hfr g hg), fun b e => by cases e⟩⟩
      exact (Ch.of_below hbl).trans (hch.mono (fun k _ e => .inl e))

/-- what the map has behind Put -/
def put {V : Type} (es : List (ByteArray × V)) (k : ByteArray) (v : V) : List (ByteArray × V) :=
  if has es k then es.set (pos es k) (k, v) else es.take (pos es k) ++ (k, v) :: es.drop (pos es k)
/-- what the map has behind Del -/
def del {V : Type} (es : List (ByteArray × V)) (k : ByteArray) : List (ByteArray × V) :=
  if has es k then es.take (pos es k) ++ es.drop (pos es k + 1) else es
/-- the key's value -/
def val (es : List (ByteArray × Int)) (k : ByteArray) : Int := if has es k then (es[pos es k]?.map (·.2)).getD 0 else 0

theorem has_lt {V : Type} {es : List (ByteArray × V)} {k : ByteArray} (h : has es k = true) : ∃ hp : pos es k < es.length, es[pos es k].1 = k := by
  by_cases hp : pos es k < es.length
  · refine ⟨hp, ?_⟩
    simp [has, hp] at h
    apply key_ext
    simpa [Lib.toList_data] using h
  · simp [has, hp] at h
theorem has_not {V : Type} {es : List (ByteArray × V)} {k : ByteArray} (h : has es k = false) (hp : pos es k < es.length) : es[pos es k].1 ≠ k := by
  intro e
  simp [has, hp, e] at h
theorem val_has {es : List (ByteArray × Int)} {k : ByteArray} (h : has es k = true) (hp : pos es k < es.length) : val es k = es[pos es k].2 := by simp [val, h, hp]
theorem Rise.get {V : Type} {es : List (ByteArray × V)} (h : Rise es) {i j : Nat} (hi : i < es.length) (hj : j < es.length) (hij : i < j) : lt es[i].1 es[j].1 = true := List.pairwise_iff_getElem.1 h i j hi hj hij

theorem put_rise {V : Type} {es : List (ByteArray × V)} (h : Rise es) (k : ByteArray) (v : V) : Rise (put es k v) := by
  unfold put
  split
  · rename_i hh
    obtain ⟨hp, hk⟩ := has_lt hh
    refine List.pairwise_iff_getElem.2 fun i j hi hj hij => ?_
    have hi' : i < es.length := by simpa using hi
    have hj' : j < es.length := by simpa using hj
    have hg := h.get hi' hj' hij
    simp only [List.getElem_set]
    split <;> split
    · omega
    · rename_i e1 e2; subst e1; rw [hk] at hg; exact hg
    · rename_i e1 e2; subst e2; rw [hk] at hg; exact hg
    · exact hg
  · rename_i hh
    have hh' : has es k = false := by simpa using hh
    refine List.pairwise_append.2 ⟨h.sublist (List.take_sublist _ _), List.pairwise_cons.2 ⟨?_, h.sublist (List.drop_sublist _ _)⟩, ?_⟩
    · intro y hy
      obtain ⟨j, hj, rfl⟩ := List.mem_iff_getElem.1 hy
      simp only [List.getElem_drop]
      have hlen : pos es k + j < es.length := by simp at hj; omega
      have hn : lt es[pos es k + j].1 k = false := by rw [← Bool.not_eq_true, pos_lt es k _ h hlen]; omega
      by_cases hl : lt k es[pos es k + j].1 = true
      · exact hl
      · have he := lt_total hn (by simpa using hl)
        exfalso
        have hp0 : pos es k < es.length := by omega
        by_cases hj0 : j = 0
        · subst hj0; exact has_not hh' hp0 (by simpa using he)
        · have h1 := h.get hp0 hlen (by omega)
          rw [he] at h1
          rw [pos_lt es k _ h hp0] at h1
          omega
    · intro a ha y hy
      obtain ⟨i, hi, rfl⟩ := List.mem_iff_getElem.1 ha
      have hi' : i < pos es k ∧ i < es.length := by simp at hi; omega
      have hlk : lt es[i].1 k = true := (pos_lt es k i h hi'.2).2 hi'.1
      simp only [List.getElem_take]
      rcases List.mem_cons.1 hy with rfl | hy
      · exact hlk
      · obtain ⟨j, hj, rfl⟩ := List.mem_iff_getElem.1 hy
        simp only [List.getElem_drop]
        exact h.get hi'.2 (by simp at hj; omega) (by omega)
theorem del_rise {V : Type} {es : List (ByteArray × V)} (h : Rise es) (k : ByteArray) : Rise (del es k) := by
  unfold del
  split
  · rw [← List.eraseIdx_eq_take_drop_succ]
    exact h.sublist (List.eraseIdx_sublist _ _)
  · exact h
theorem flat_set (es : List (ByteArray × Int)) (j : Nat) (k : ByteArray) (v : Int) (h : j < es.length) (hk : es[j].1 = k) : flat (es.set j (k, v)) = (flat es).set (j * 2 + 1) (.int .i64 v) := by
  induction es generalizing j with
  | nil => simp at h
  | cons e r ih =>
    cases j with
    | zero => simp at hk; subst hk; simp [flat]
    | succ j =>
      have := ih j (by simpa using h) (by simpa using hk)
      rw [show (j + 1) * 2 + 1 = (j * 2 + 1) + 1 + 1 by omega]
      simp only [flat, List.set_cons_succ, List.flatMap_cons, List.cons_append, List.nil_append] at *
      rw [this]
theorem put_len {V : Type} (es : List (ByteArray × V)) (k : ByteArray) (v : V) : (put es k v).length = if has es k then es.length else es.length + 1 := by
  have := pos_le es k
  unfold put
  split
  · simp
  · simp; omega
theorem del_len {V : Type} (es : List (ByteArray × V)) (k : ByteArray) : (del es k).length = if has es k then es.length - 1 else es.length := by
  unfold del
  split
  · rename_i h
    obtain ⟨hp, _⟩ := has_lt h
    simp; omega
  · rfl
end Go.Proofs.Ytkohcdefhaokiab

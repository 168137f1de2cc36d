/-
  Contracts of Put, Get, Del and Clone of package sorted's Map at ints.
-/
import Derived.Test.YtkohcdefhaokiabSMap
namespace Go.Proofs.Ytkohcdefhaokiab
open Go.RowKit Go.Shelf Go.Lib Go.Sort

set_option maxHeartbeats 1000000 in
theorem Get_any {w : World} {mb : Nat} {es : List (ByteArray × Int)} {sv : Value} {q : Option Nat} {c : Nat} (h : Mp w mb es sv q c) (k : ByteArray) (hn : es.length * 24 ≤ 211106232528000) :
    Calls Try.prog 10 #[.pointer (some ⟨mb, 0, none⟩), .string k] w fun e w' => e = .returned (.tuple #[.int .i64 (val es k), .bool (has es k)]) ∧ Below w.heap.size w w' := by
  have hf := find_any h k hn
  have h0 := h.cell0
  have hlt := h.lt
  have hrow := h.row
  clear h
  cases hh : has es k with
  | false =>
    have hv : val es k = 0 := by simp [val, hh]
    rw [hh] at hf
    rw [hv]
    clear hh hv hrow h0
    generalize pos es k = r at *
    go_enter Try.func10, Try.ntmps10
    go_wp2_with (first | (go_at_call 22; refine hf.mono ?_; rintro e w' ⟨rfl, hb⟩) | (go_at_call 21; refine (nothing_any _).mono ?_; rintro e w' ⟨rfl, rfl⟩))
    go_ret2
    exact ⟨rfl, hb⟩
  | true =>
    obtain ⟨hp, hk⟩ := has_lt hh
    rcases hrow.2 with ⟨rfl, hl0⟩ | ⟨g, cap, cur, rfl, -, hg, -⟩
    · omega
    · have hgl : g < w.heap.size := (Array.getElem?_eq_some_iff.1 hg).1
      have hc := row_cell hrow (flat_val es (pos es k) hp)
      rw [val_has hh hp]
      rw [hh] at hf
      generalize es[pos es k].2 = y at hc ⊢
      clear hrow hg hk hh
      generalize es.length = n at *
      generalize pos es k = r at *
      have hri : (r : Int) < (n : Int) := by omega
      go_enter Try.func10, Try.ntmps10
      go_wp2_with (go_at_call 22; refine hf.mono ?_; rintro e w' ⟨rfl, hb⟩; have h0' := (hb.cell (p := ⟨mb, 0, none⟩) hlt).trans h0; have hc' := (hb.cell (p := ⟨g, r * 2 + 1, none⟩) hgl).trans hc)
      go_ret2
      exact ⟨rfl, hb⟩

set_option maxHeartbeats 2000000 in
theorem Put_any {w : World} {mb : Nat} {es : List (ByteArray × Int)} {sv : Value} {q : Option Nat} {c : Nat} (h : Mp w mb es sv q c) (k : ByteArray) (v : Int) (hn : (es.length + 1) * 24 ≤ 211106232528000) :
    Calls Try.prog 8 #[.pointer (some ⟨mb, 0, none⟩), .string k, .int .i64 v] w fun e w' => e = .returned (.tuple #[.int .i64 (val es k), .bool (has es k)]) ∧ ∃ sv' q', Mp w' mb (put es k v) sv' q' 0 ∧ Turn mb w sv q c w' sv' q' 0 := by
  have hf := find_any h k (by omega)
  have hlt := h.lt
  cases hh : has es k with
  | false =>
    have hv : val es k = 0 := by simp [val, hh]
    have hpl := pos_le es k
    have P : Hid (flat (put es k v) = (flat es).take (pos es k * 2) ++ [.string k, .int .i64 v] ++ (flat es).drop (pos es k * 2) ∧ (put es k v).length = es.length + 1 ∧ Rise (put es k v)) := by
      refine ⟨?_, by rw [put_len, hh]; rfl, put_rise h.rise k v⟩
      rw [put, hh, ← flat_take, ← flat_drop]
      simp only [Bool.false_eq_true, if_false, flat_append]
      simp [flat]
    rw [hh] at hf
    rw [hv]
    have M : Hid (Mp w mb es sv q c) := h
    clear hh hv h
    generalize put es k v = es' at *
    generalize pos es k = r at *
    go_enter Try.func8, Try.ntmps8
    go_wp2_with fail
    refine hf.mono ?_
    rintro e w1 ⟨rfl, hb1⟩
    go_wp2_with fail
    refine (own_any (M.out.below hb1) (by omega)).mono ?_
    rintro e w2 ⟨rfl, sv2, q2, hM2, hT2⟩
    have h0 := hM2.cell0
    have M2 : Hid (Mp w2 mb es sv2 q2 0 ∧ Turn mb w sv q c w2 sv2 q2 0) := ⟨hM2, (Turn.of_below hb1).trans hT2⟩
    clear hM2 hT2
    go_wp2_with fail
    refine (insert_any (M2.out.1.row.alloc _) (heap_alloc_new w2 _) rfl rfl (flat_one es) (fun e => by have := (M2.out.1.row.lt _ e).2; omega) hpl hn).mono ?_
    rintro e w3 ⟨g, cap, rfl, hrow3, hgrow, hwh⟩
    obtain ⟨hM2, hT2⟩ := M2.out
    have hmb2 := hM2.lt
    have hb3 : w3.heap[mb]? = some (.cells #[sv2, .pointer (q2.map fun b => ⟨b, 0, none⟩)] 45 (0, 0)) := by
      rw [hgrow.block mb (by simp; omega) (fun e => hM2.apart e.symm), Below.heap_alloc w2 _ mb hmb2]
      exact hM2.hd
    have h03 : w3.cell? ⟨mb, 0, none⟩ = some sv2 := by simp [World.cell?, hb3]
    have hf3 : w3.frozen? ⟨mb, 0, none⟩ = false := by simp [World.frozen?, hb3]
    have hch : Ch (fun b => b = mb ∨ ((0 : Nat) = 0 ∧ sv2.ownBlock = some b)) w2 w3 := by
      have := hgrow
      refine ⟨this.os, this.tape, this.output, by have := this.size; simp at this; omega, fun k hk hX => ?_⟩
      rw [this.block k (by simp; omega) (fun e => hX (.inr ⟨rfl, e.symm⟩)), Below.heap_alloc w2 _ k hk]
    have hgm : g ≠ mb := by
      rintro rfl
      rcases hwh with e | e
      · exact hM2.apart e
      · simp at e; omega
    have E : Hid (∀ w4, w4 = w3.setCell ⟨mb, 0, none⟩ (.slice (some ⟨g, 0, none⟩) (es.length + 1) cap) → ∃ sv' q', Mp w4 mb es' sv' q' 0 ∧ Turn mb w sv q c w4 sv' q' 0) := by
      rintro w4 rfl
      obtain ⟨p1, p2, p3⟩ := P.out
      have hch4 : Ch (fun b => b = mb) w3 (w3.setCell ⟨mb, 0, none⟩ (.slice (some ⟨g, 0, none⟩) (es.length + 1) cap)) := (Ch.refl (fun b => b = mb) w3).setCell ⟨mb, 0, none⟩ _ (fun _ => rfl)
      refine ⟨.slice (some ⟨g, 0, none⟩) (es.length + 1) cap, q2, ⟨two0 hb3 _, ?_, p3, ?_⟩, hT2.trans ⟨?_, .inr ⟨rfl, ?_, ?_⟩⟩⟩
      · rw [p1, p2]
        exact hch4.row hrow3 (fun k hk => by simp [Value.ownBlock] at hk; subst hk; exact hgm)
      · rcases hM2.lent with hl | ⟨b, e, hb⟩
        · exact .inl hl
        · obtain ⟨a1, a2⟩ := hM2.lentApart e
          exact .inr ⟨b, e, hch4.obj (hch.obj hb (fun hX => hX.elim a1 (fun h => a2 h.2))) a1⟩
      · exact hch.trans (hch4.mono (fun k _ e => .inl e))
      · intro k hk
        simp [Value.ownBlock] at hk
        subst hk
        exact hwh.imp (fun e => ⟨rfl, e⟩) (fun e => by simp at e; omega)
      · exact fun b e => .inl ⟨rfl, e⟩
    clear hrow3 hgrow hwh hM2 hT2 hb3 hch hgm h0
    go_wp2_with (go_at_call 21; refine (nothing_any _).mono ?_; rintro e w' ⟨rfl, rfl⟩)
    go_ret2
    exact ⟨rfl, E.out _ rfl⟩
  | true =>
    obtain ⟨hp, hk⟩ := has_lt hh
    have P : Hid (flat (put es k v) = (flat es).set (pos es k * 2 + 1) (.int .i64 v) ∧ (put es k v).length = es.length ∧ Rise (put es k v)) := by
      refine ⟨?_, by rw [put_len, hh]; rfl, put_rise h.rise k v⟩
      rw [put, hh]
      exact flat_set es _ k v hp hk
    rw [val_has hh hp]
    have hfv := flat_val es (pos es k) hp
    rw [hh] at hf
    generalize es[pos es k].2 = y at hfv ⊢
    have M : Hid (Mp w mb es sv q c) := h
    clear hh hk h
    generalize put es k v = es' at *
    generalize pos es k = r at *
    have hri : (r : Int) < (es.length : Int) := by omega
    go_enter Try.func8, Try.ntmps8
    go_wp2_with fail
    refine hf.mono ?_
    rintro e w1 ⟨rfl, hb1⟩
    go_wp2_with fail
    refine (own_any (M.out.below hb1) (by omega)).mono ?_
    rintro e w2 ⟨rfl, sv2, q2, hM2, hT2⟩
    have h0 := hM2.cell0
    have T2 := (Turn.of_below hb1).trans hT2
    clear hT2
    rcases hM2.row.2 with ⟨rfl, hl0⟩ | ⟨g, cap, cur, rfl, -, hg, -⟩
    · omega
    have hc := row_cell hM2.row hfv
    have hcf : w2.frozen? ⟨g, r * 2 + 1, none⟩ = false := hM2.row.frozenAt _
    have E : Hid (∃ sv' q', Mp (w2.setCell ⟨g, r * 2 + 1, none⟩ (.int .i64 v)) mb es' sv' q' 0 ∧ Turn mb w sv q c (w2.setCell ⟨g, r * 2 + 1, none⟩ (.int .i64 v)) sv' q' 0) := by
      obtain ⟨p1, p2, p3⟩ := P.out
      have hst := hM2.row.stored (r * 2 + 1) (.int .i64 v)
      have hch : Ch (fun b => b = g) w2 (w2.setCell ⟨g, r * 2 + 1, none⟩ (.int .i64 v)) := (Ch.refl (fun b => b = g) w2).setCell ⟨g, r * 2 + 1, none⟩ _ (fun _ => rfl)
      refine ⟨_, q2, ⟨hch.obj hM2.hd (fun e => hM2.apart (by simp [Value.ownBlock, e])), by rw [p1, p2]; exact hst.1, p3, ?_⟩, T2.trans ⟨?_, .inr ⟨rfl, fun k hk => .inl ⟨rfl, hk⟩, fun b e => .inl ⟨rfl, e⟩⟩⟩⟩
      · rcases hM2.lent with hl | ⟨b, e, hb⟩
        · exact .inl hl
        · exact .inr ⟨b, e, hch.obj hb (fun e' => (hM2.lentApart e).2 (by simp [Value.ownBlock, e']))⟩
      · exact hch.mono (fun k _ e => .inr ⟨rfl, by simp [Value.ownBlock, e]⟩)
    clear hM2 T2 hg P hfv M
    go_wp2
    go_ret2
    exact ⟨rfl, E.out⟩

set_option maxHeartbeats 2000000 in
theorem Del_any {w : World} {mb : Nat} {es : List (ByteArray × Int)} {sv : Value} {q : Option Nat} {c : Nat} (h : Mp w mb es sv q c) (k : ByteArray) (hn : es.length * 24 ≤ 211106232528000) :
    Calls Try.prog 9 #[.pointer (some ⟨mb, 0, none⟩), .string k] w fun e w' => e = .returned (.tuple #[.int .i64 (val es k), .bool (has es k)]) ∧ ∃ sv' q' c', Mp w' mb (del es k) sv' q' c' ∧ Turn mb w sv q c w' sv' q' c' := by
  have hf := find_any h k (by omega)
  cases hh : has es k with
  | false =>
    have hv : val es k = 0 := by simp [val, hh]
    have hd : del es k = es := by simp [del, hh]
    rw [hh] at hf
    rw [hv, hd]
    have M : Hid (Mp w mb es sv q c) := h
    clear hh hv h hd
    generalize pos es k = r at *
    go_enter Try.func9, Try.ntmps9
    go_wp2_with (first | (go_at_call 22; refine hf.mono ?_; rintro e w' ⟨rfl, hb⟩) | (go_at_call 21; refine (nothing_any _).mono ?_; rintro e w' ⟨rfl, rfl⟩))
    go_ret2
    exact ⟨rfl, _, _, _, M.out.below hb, Turn.of_below hb⟩
  | true =>
    obtain ⟨hp, hk⟩ := has_lt hh
    have P : Hid (flat (del es k) = (flat es).take (pos es k * 2) ++ (flat es).drop ((pos es k + 1) * 2) ∧ (del es k).length = es.length - 1 ∧ Rise (del es k)) := by
      refine ⟨?_, by rw [del_len, hh]; rfl, del_rise h.rise k⟩
      rw [del, hh, ← flat_take, ← flat_drop]
      simp only [if_true, flat_append]
    rw [val_has hh hp]
    have hfv := flat_val es (pos es k) hp
    rw [hh] at hf
    generalize es[pos es k].2 = y at hfv ⊢
    have M : Hid (Mp w mb es sv q c) := h
    clear hh hk h
    generalize del es k = es' at *
    generalize pos es k = r at *
    obtain ⟨m, hm⟩ : ∃ m, es.length = m + 1 := ⟨es.length - 1, by omega⟩
    have hri : (r : Int) < (m : Int) + 1 := by omega
    have hri' : r < m + 1 := by omega
    have hw1 : IntKind.i64.wrap ((r : Int) + 1) = (r : Int) + 1 := by rw [IntKind.wrap_i64]; omega
    go_enter Try.func9, Try.ntmps9
    go_wp2_with fail
    refine hf.mono ?_
    rintro e w1 ⟨rfl, hb1⟩
    go_wp2_with fail
    refine (own_any (M.out.below hb1) (by omega)).mono ?_
    rintro e w2 ⟨rfl, sv2, q2, hM2, hT2⟩
    have h0 := hM2.cell0
    have T2 := (Turn.of_below hb1).trans hT2
    clear hT2
    have hrow2 := hM2.row
    rw [hm] at hrow2
    rcases hrow2.2 with ⟨rfl, hl0⟩ | ⟨g, cap, cur, rfl, -, hg, -⟩
    · omega
    have hc := row_cell hrow2 hfv
    have M2 : Hid (Mp w2 mb es (.slice (some ⟨g, 0, none⟩) (m + 1) cap) q2 0 ∧ Turn mb w sv q c w2 (.slice (some ⟨g, 0, none⟩) (m + 1) cap) q2 0) := ⟨hM2, T2⟩
    have R2 : Hid (w2.ownsRow 0 54 2 (.slice (some ⟨g, 0, none⟩) (m + 1) cap) (m + 1) (flat es)) := hrow2
    clear hM2 T2 hg hfv M hrow2
    go_wp2_with fail
    refine (delete_any R2.out (flat_one es) (by omega)).mono ?_
    rintro e w3 ⟨rfl, hrow3, hgrow⟩
    obtain ⟨hM2, hT2⟩ := M2.out
    have hch : Ch (fun b => b = mb ∨ ((0 : Nat) = 0 ∧ (Value.slice (some ⟨g, 0, none⟩) (m + 1) cap).ownBlock = some b)) w2 w3 := Ch.of_grown hgrow (fun k e _ => by cases e; exact .inr ⟨rfl, rfl⟩)
    have hgm : g ≠ mb := fun e => hM2.apart (by simp [Value.ownBlock, e])
    have hb3 : w3.heap[mb]? = some (.cells #[.slice (some ⟨g, 0, none⟩) (m + 1) cap, .pointer (q2.map fun b => ⟨b, 0, none⟩)] 45 (0, 0)) := by
      rw [hgrow.block mb hM2.lt (fun e => by cases e; exact hgm rfl)]
      exact hM2.hd
    have h03 : w3.cell? ⟨mb, 0, none⟩ = some (.slice (some ⟨g, 0, none⟩) (m + 1) cap) := by simp [World.cell?, hb3]
    have hf3 : w3.frozen? ⟨mb, 0, none⟩ = false := by simp [World.frozen?, hb3]
    have E : Hid (∀ w4, w4 = w3.setCell ⟨mb, 0, none⟩ (.slice (some ⟨g, 0, none⟩) m cap) → ∃ sv' q' c', Mp w4 mb es' sv' q' c' ∧ Turn mb w sv q c w4 sv' q' c') := by
      rintro w4 rfl
      obtain ⟨p1, p2, p3⟩ := P.out
      have hch4 : Ch (fun b => b = mb) w3 (w3.setCell ⟨mb, 0, none⟩ (.slice (some ⟨g, 0, none⟩) m cap)) := (Ch.refl (fun b => b = mb) w3).setCell ⟨mb, 0, none⟩ _ (fun _ => rfl)
      refine ⟨.slice (some ⟨g, 0, none⟩) m cap, q2, 0, ⟨two0 hb3 _, ?_, p3, ?_⟩, hT2.trans ⟨?_, .inr ⟨rfl, ?_, ?_⟩⟩⟩
      · rw [p1, p2, hm]
        exact hch4.row hrow3 (fun k hk => by simp [Value.ownBlock] at hk; subst hk; exact hgm)
      · rcases hM2.lent with hl | ⟨b, e, hb⟩
        · exact .inl hl
        · obtain ⟨a1, a2⟩ := hM2.lentApart e
          exact .inr ⟨b, e, hch4.obj (hch.obj hb (fun hX => hX.elim a1 (fun h => a2 h.2))) a1⟩
      · exact hch.trans (hch4.mono (fun k _ e => .inl e))
      · intro k hk
        exact .inl ⟨rfl, hk⟩
      · exact fun b e => .inl ⟨rfl, e⟩
    clear hrow3 hgrow hM2 hT2 hb3 hch hgm h0
    go_wp2
    go_ret2
    exact ⟨rfl, E.out _ rfl⟩

end Go.Proofs.Ytkohcdefhaokiab

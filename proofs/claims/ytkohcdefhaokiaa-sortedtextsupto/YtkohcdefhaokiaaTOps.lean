/-
  The map of texts: Put.
-/
import Derived.Test.YtkohcdefhaokiaaTMap
namespace Go.Proofs.Ytkohcdefhaokiaa.T
open Go.RowKit Go.Shelf Go.Lib Go.Sort

set_option maxHeartbeats 2000000 in
theorem Put_any {w : World} {mb : Nat} {es : List (ByteArray × ByteArray)} {sv : Value} {q : Option Nat} {c : Nat} (h : Mp w mb es sv q c) (k : ByteArray) (v : ByteArray) (hn : (es.length + 1) * 32 ≤ 211106232528000) :
    Calls Try.prog 21 #[.pointer (some ⟨mb, 0, none⟩), .string k, .string v] w fun e w' => e = .returned (.tuple #[.string (val es k), .bool (has es k)]) ∧ ∃ sv' q', Mp w' mb (put es k v) sv' q' 0 ∧ Turn mb w sv q c w' sv' q' 0 := by
  have hf := find_any h k (by omega)
  have hlt := h.lt
  cases hh : has es k with
  | false =>
    have hv : val es k = ⟨#[]⟩ := by simp [val, hh]
    have hpl := pos_le es k
    have P : Hid (flat (put es k v) = (flat es).take (pos es k * 2) ++ [.string k, .string v] ++ (flat es).drop (pos es k * 2) ∧ (put es k v).length = es.length + 1 ∧ Rise (put es k v)) := by
      refine ⟨?_, by rw [put_len, hh]; rfl, put_rise h.rise k v⟩
      rw [put, hh, ← flat_take, ← flat_drop]
      simp only [Bool.false_eq_true, if_false, flat_append]
      simp [flat]
    rw [hh] at hf
    rw [hv]
    have M : Hid (Mp w mb es sv q c) := h
    clear hh hv h
    generalize put es k v = es' at *
    generalize pos es k = r at *
    go_enter Try.func21, Try.ntmps21
    go_wp2_with fail
    refine hf.mono ?_
    rintro e w1 ⟨rfl, hb1⟩
    go_wp2_with fail
    refine (own_any (M.out.below hb1) (by omega)).mono ?_
    rintro e w2 ⟨rfl, sv2, q2, hM2, hT2⟩
    have h0 := hM2.cell0
    have M2 : Hid (Mp w2 mb es sv2 q2 0 ∧ Turn mb w sv q c w2 sv2 q2 0) := ⟨hM2, (Turn.of_below hb1).trans hT2⟩
    clear hM2 hT2
    go_wp2_with fail
    refine (insert_any (M2.out.1.row.alloc _) (heap_alloc_new w2 _) rfl rfl (flat_one es) (fun e => by have := (M2.out.1.row.lt _ e).2; omega) hpl hn).mono ?_
    rintro e w3 ⟨g, cap, rfl, hrow3, hgrow, hwh⟩
    obtain ⟨hM2, hT2⟩ := M2.out
    have hmb2 := hM2.lt
    have hb3 : w3.heap[mb]? = some (.cells #[sv2, .pointer (q2.map fun b => ⟨b, 0, none⟩)] 77 (0, 0)) := by
      rw [hgrow.block mb (by simp; omega) (fun e => hM2.apart e.symm), Below.heap_alloc w2 _ mb hmb2]
      exact hM2.hd
    have h03 : w3.cell? ⟨mb, 0, none⟩ = some sv2 := by simp [World.cell?, hb3]
    have hf3 : w3.frozen? ⟨mb, 0, none⟩ = false := by simp [World.frozen?, hb3]
    have hch : Ch (fun b => b = mb ∨ ((0 : Nat) = 0 ∧ sv2.ownBlock = some b)) w2 w3 := by
      have := hgrow
      refine ⟨this.os, this.tape, this.output, by have := this.size; simp at this; omega, fun k hk hX => ?_⟩
      rw [this.block k (by simp; omega) (fun e => hX (.inr ⟨rfl, e.symm⟩)), Below.heap_alloc w2 _ k hk]
    have hgm : g ≠ mb := by
      rintro rfl
      rcases hwh with e | e
      · exact hM2.apart e
      · simp at e; omega
    have E : Hid (∀ w4, w4 = w3.setCell ⟨mb, 0, none⟩ (.slice (some ⟨g, 0, none⟩) (es.length + 1) cap) → ∃ sv' q', Mp w4 mb es' sv' q' 0 ∧ Turn mb w sv q c w4 sv' q' 0) := by
      rintro w4 rfl
      obtain ⟨p1, p2, p3⟩ := P.out
      have hch4 : Ch (fun b => b = mb) w3 (w3.setCell ⟨mb, 0, none⟩ (.slice (some ⟨g, 0, none⟩) (es.length + 1) cap)) := (Ch.refl (fun b => b = mb) w3).setCell ⟨mb, 0, none⟩ _ (fun _ => rfl)
      refine ⟨.slice (some ⟨g, 0, none⟩) (es.length + 1) cap, q2, ⟨two0 hb3 _, ?_, p3, ?_⟩, hT2.trans ⟨?_, .inr ⟨rfl, ?_, ?_⟩⟩⟩
      · rw [p1, p2]
        exact hch4.row hrow3 (fun k hk => by simp [Value.ownBlock] at hk; subst hk; exact hgm)
      · rcases hM2.lent with hl | ⟨b, e, hb⟩
        · exact .inl hl
        · obtain ⟨a1, a2⟩ := hM2.lentApart e
          exact .inr ⟨b, e, hch4.obj (hch.obj hb (fun hX => hX.elim a1 (fun h => a2 h.2))) a1⟩
      · exact hch.trans (hch4.mono (fun k _ e => .inl e))
      · intro k hk
        simp [Value.ownBlock] at hk
        subst hk
        exact hwh.imp (fun e => ⟨rfl, e⟩) (fun e => by simp at e; omega)
      · exact fun b e => .inl ⟨rfl, e⟩
    clear hrow3 hgrow hwh hM2 hT2 hb3 hch hgm h0
    go_wp2_with (go_at_call 43; refine (nothing_any _).mono ?_; rintro e w' ⟨rfl, rfl⟩)
    go_ret2
    exact ⟨rfl, E.out _ rfl⟩
  | true =>
    obtain ⟨hp, hk⟩ := has_lt hh
    have P : Hid (flat (put es k v) = (flat es).set (pos es k * 2 + 1) (.string v) ∧ (put es k v).length = es.length ∧ Rise (put es k v)) := by
      refine ⟨?_, by rw [put_len, hh]; rfl, put_rise h.rise k v⟩
      rw [put, hh]
      exact flat_set es _ k v hp hk
    rw [val_has hh hp]
    have hfv := flat_val es (pos es k) hp
    rw [hh] at hf
    generalize es[pos es k].2 = y at hfv ⊢
    have M : Hid (Mp w mb es sv q c) := h
    clear hh hk h
    generalize put es k v = es' at *
    generalize pos es k = r at *
    have hri : (r : Int) < (es.length : Int) := by omega
    go_enter Try.func21, Try.ntmps21
    go_wp2_with fail
    refine hf.mono ?_
    rintro e w1 ⟨rfl, hb1⟩
    go_wp2_with fail
    refine (own_any (M.out.below hb1) (by omega)).mono ?_
    rintro e w2 ⟨rfl, sv2, q2, hM2, hT2⟩
    have h0 := hM2.cell0
    have T2 := (Turn.of_below hb1).trans hT2
    clear hT2
    rcases hM2.row.2 with ⟨rfl, hl0⟩ | ⟨g, cap, cur, rfl, -, hg, -⟩
    · omega
    have hc := row_cell hM2.row hfv
    have hcf : w2.frozen? ⟨g, r * 2 + 1, none⟩ = false := hM2.row.frozenAt _
    have E : Hid (∃ sv' q', Mp (w2.setCell ⟨g, r * 2 + 1, none⟩ (.string v)) mb es' sv' q' 0 ∧ Turn mb w sv q c (w2.setCell ⟨g, r * 2 + 1, none⟩ (.string v)) sv' q' 0) := by
      obtain ⟨p1, p2, p3⟩ := P.out
      have hst := hM2.row.stored (r * 2 + 1) (.string v)
      have hch : Ch (fun b => b = g) w2 (w2.setCell ⟨g, r * 2 + 1, none⟩ (.string v)) := (Ch.refl (fun b => b = g) w2).setCell ⟨g, r * 2 + 1, none⟩ _ (fun _ => rfl)
      refine ⟨_, q2, ⟨hch.obj hM2.hd (fun e => hM2.apart (by simp [Value.ownBlock, e])), by rw [p1, p2]; exact hst.1, p3, ?_⟩, T2.trans ⟨?_, .inr ⟨rfl, fun k hk => .inl ⟨rfl, hk⟩, fun b e => .inl ⟨rfl, e⟩⟩⟩⟩
      · rcases hM2.lent with hl | ⟨b, e, hb⟩
        · exact .inl hl
        · exact .inr ⟨b, e, hch.obj hb (fun e' => (hM2.lentApart e).2 (by simp [Value.ownBlock, e']))⟩
      · exact hch.mono (fun k _ e => .inr ⟨rfl, by simp [Value.ownBlock, e]⟩)
    clear hM2 T2 hg P hfv M
    go_wp2
    go_ret2
    exact ⟨rfl, E.out⟩
end Go.Proofs.Ytkohcdefhaokiaa.T

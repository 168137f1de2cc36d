/-
  Those of a range that are above each one ahead of them (merge's rising).
-/
import Derived.Test.YtlhijbgdccejbaaM3Join
import Derived.Test.YtlhijbgdccejbaaM3Ord
namespace Go.Proofs.Ytlhijbgdccejbaa
open Go.RowKit Go.Shelf Go.Sort
open Go.Lib hiding intOf

attribute [local go_sem] Oper.semAt_some

/-- what rising has laid so far -/
structure Cl (w : World) (s : Nat) (out : List Ent) (v : Value) (W : World) : Prop where
  o : Bx W w.heap.size v 51
  r : W.ownsRow s 54 2 v out.length (flat out)
  b : Below w.heap.size w W
  s : w.heap.size + 1 ≤ s ∧ s ≤ W.heap.size
theorem Cl.sb {w : World} {s n : Nat} {out : List Ent} {v : Value} {W W' : World} (h : Cl w s out v W) (hs : Sb n s W W') (hn : w.heap.size + 1 ≤ n) : Cl w s out v W' :=
  ⟨hs.bx h.o (.inl (by omega)), hs.row h.r (Nat.le_refl _), hs.below h.b (Nat.le_refl _) (by omega), ⟨h.s.1, Nat.le_trans h.s.2 hs.size⟩⟩
theorem Cl.step {w : World} {s : Nat} {out : List Ent} {a : Option Addr} {c : Nat} {v1 : Value} {W w1 : World} {o : Obj} {x : Ent} (h : Cl w s out (.slice a out.length c) W) (hown : w1.ownsRow s 54 2 v1 (out.length + 1) (flat out ++ [.string x.1, .int .i64 x.2])) (hg : (W.alloc o).grownBy w1 (Value.ownBlock (.slice a out.length c))) (X : Nat → Prop) (hX : ∀ k, X k → k < w.heap.size ∨ (w.heap.size + 1 ≤ k ∧ k < s)) (B : Nat) :
    Cl w s (out ++ [x]) v1 (w1.setCell ⟨w.heap.size, 0, none⟩ v1) ∧ KeepsFrom B W (w1.setCell ⟨w.heap.size, 0, none⟩ v1) ∧ Kq X W (w1.setCell ⟨w.heap.size, 0, none⟩ v1) ∧ Bx w1 w.heap.size (.slice a out.length c) 51 := by
  obtain ⟨hs1, hs2⟩ := h.s
  have hrb : ∀ k, Value.ownBlock (.slice a out.length c) = some k → s ≤ k ∧ ∃ cur, W.heap[k]? = some (.cells cur 54 (0, 0)) := fun k hk => row_obj h.r hk
  have hc1 : Ch (fun k => Value.ownBlock (.slice a out.length c) = some k) W w1 := ((Ch.refl _ W).alloc o).trans (Ch.of_grown hg (fun k e _ => e))
  have ho1 : Bx w1 w.heap.size (.slice a out.length c) 51 := h.o.ch hc1 (fun e => by have := (hrb _ e).1; omega)
  have hc2 : Ch (fun k => k = w.heap.size ∨ Value.ownBlock (.slice a out.length c) = some k) W (w1.setCell ⟨w.heap.size, 0, none⟩ v1) := (hc1.mono (fun k _ e => .inr e)).setCell _ _ (fun _ => .inl rfl)
  have hc3 : Ch (fun k => k = w.heap.size) w1 (w1.setCell ⟨w.heap.size, 0, none⟩ v1) := (Ch.refl _ w1).setCell _ _ (fun _ => rfl)
  refine ⟨⟨one0 ho1 _, ?_, h.b.trans (hc2.below h.b.size ?_), ⟨hs1, Nat.le_trans hs2 hc2.size⟩⟩, KeepsFrom.of_ch hc2 ?_, Kq.of_ch hc2 ?_, ho1⟩
  · have e1 : flat (out ++ [x]) = flat out ++ [.string x.1, .int .i64 x.2] := by rw [flat_append]; rfl
    rw [e1, List.length_append]
    exact hc3.row hown (fun k hk e => by have := (row_obj hown hk).1; omega)
  · rintro k hk (e | e)
    · omega
    · have := (hrb _ e).1; omega
  · rintro k (e | e)
    · subst e; exact ⟨_, h.o, rfl⟩
    · obtain ⟨_, cur, hx⟩ := hrb _ e; exact ⟨_, hx, rfl⟩
  · rintro k hk (e | e)
    · have := hX k hk; omega
    · have h1 := (hrb _ e).1; have := hX k hk; omega

theorem eq_not {a b : ByteArray} (h : a ≠ b) : (a.toList == b.toList) = false := by
  rw [← Bool.not_eq_true, beq_iff_eq, Lib.toList_data, Lib.toList_data]
  exact fun e => h (key_ext e)
theorem gt_not {a b : ByteArray} (h : lt b a = false) : (Op.bytesLess a.toList b.toList || a.toList == b.toList) = true := by
  cases h1 : lt a b with
  | true => rw [show Op.bytesLess a.toList b.toList = true from h1]; rfl
  | false => rw [lt_total h h1]; simp
theorem gtr_str (a b : ByteArray) (w : World) : (binOp .gtr 9 (.string a) (.string b)).run Try.prog w = .ok (.bool (lt b a)) w := by
  have h0 : (!(Op.bytesLess a.toList b.toList || a.toList == b.toList)) = lt b a := by
    cases h : lt b a with
    | true =>
      have h1 : Op.bytesLess a.toList b.toList = false := lt_asymm h
      rw [h1, eq_not (fun e => by rw [e, lt_irrefl] at h; cases h)]; rfl
    | false => rw [gt_not h]; rfl
  rw [← h0]
  simp only [binOp]
  rfl
theorem risen_at (pre : List Ent) (x : Ent) : (risen pre = [] → risen (pre ++ [x]) = [x]) ∧ ∀ (i : Nat) (h : i < (risen pre).length), i = (risen pre).length - 1 → risen (pre ++ [x]) = if lt ((risen pre)[i]'h).1 x.1 then risen pre ++ [x] else risen pre := by
  constructor
  · intro h; rw [risen_snoc, h]; simp [above]
  · rintro i h rfl
    have hne : risen pre ≠ [] := fun e => by rw [e] at h; simp at h
    rw [risen_snoc, above_last (risen_rise pre) hne, List.getLast_eq_getElem]

set_option maxRecDepth 100000 in
set_option maxHeartbeats 4000000 in
theorem mrising_any {w : World} {sv : Value} {l : List Ent} {X : Nat → Prop} (hS : Sn w sv l X) (hn : l.length * 24 ≤ 140737488355328) :
    Calls Try.prog 31 #[sv] w fun e w' => ∃ v, e = .returned v ∧ w'.ownsRow w.heap.size 54 2 v (risen l).length (flat (risen l)) ∧ Below w.heap.size w w' := by
  have HX : Hid (∀ k, X k → k < w.heap.size) := hS.1
  obtain ⟨W2, hW2⟩ : ∃ W2, W2 = w.alloc (.cells #[.slice none 0 0] 51) := ⟨_, rfl⟩
  have hs2 : W2.heap.size = w.heap.size + 1 := by rw [hW2]; simp
  have hB2 : Below w.heap.size w W2 := by rw [hW2]; exact (Below.refl _ w).alloc (Nat.le_refl _) _
  have bo2 : Bx W2 w.heap.size (.slice none 0 0) 51 := by rw [hW2]; exact Bx.new w _ _
  have HS : Hid (Sn W2 sv l X) := hS.below hB2
  have hform := hS.form
  refine (callsIn_wide (n := 9)).1 ?_
  refine callsIn_of_wp_marks Try.func31 rfl trivial ?_ rfl
  simp only [Try.ntmps31, List.size_toArray, List.length_cons, List.length_nil, Nat.reduceAdd, Nat.reduceSub, Array.replicate_succ, Array.replicate_zero, List.push_toArray, List.append_toArray, List.nil_append, List.cons_append]
  clear hS
  rcases hform with rfl | ⟨sf, sb, rfl⟩
  all_goals
    gi_wp2_with (first
      | (refine ⟨trivial, ?_⟩; gi_at_call 25; rw [← hW2]; refine (callsIn_wide.2 (orderly_any HS.out)).mono ?_; rintro e w3 ⟨f, rfl, hSf, hB3⟩; have HSf : Hid _ := hSf; obtain ⟨gf, lb, rfl, -⟩ := hSf))
    clear hW2
    have hs3 := hB3.size
    have bo3 := bo2.below hB3 (by omega)
    have hBw : Below w.heap.size w w3 := hB2.trans (hB3.mono (by omega))
    refine range_sq (r1 := 4) (r2 := 5) rfl HSf.out
      (fun s pre W => ∃ v, Cl w s (risen pre) v W ∧ w3.heap.size + 2 ≤ s)
      (fun _ _ _ _ => False)
      ?hI ?hIx ?start ?assign ?body ?done ?stop
    case hI =>
      rintro s pre A B ⟨v, h1, h2⟩ hs
      exact ⟨v, h1.sb hs (by omega), h2⟩
    case hIx => exact fun _ _ _ _ _ h _ => h
    case start =>
      intro W0 hB h0
      exact ⟨.slice none 0 0, ⟨bo3.below hB bo3.lt, World.ownsRow_nil _ _ _ _, hBw.trans (hB.mono hBw.size), by omega⟩, h0⟩
    case assign =>
      intro mm l' x W K hK
      gi_wp2
      exact hK
    case body =>
      rintro mm l' s pre x W ⟨v, hT, hN⟩ hnx
      obtain ⟨i0, hi0, hz0, hz1, hz2⟩ := info_parts infoMCell
      have hple : pre.length + 1 ≤ l.length := by have := hnx.length_le; simpa using this
      have hrl := (risen_all pre).1
      have HA : Hid _ := risen_at pre x
      have HS2 : Hid _ := hs2
      clear hs2
      generalize hro : risen pre = out at *
      clear hro
      obtain ⟨ka, kc, rfl, -⟩ := row_slice hT.r
      have c1 := hT.o.cell
      have T0 : Hid (Cl w s out (.slice ka out.length kc) W) := hT
      have hsw := hT.s
      have hKX : Hid (∀ k, ((X k ∨ k = W2.heap.size) ∨ (w3.heap.size + 2 ≤ k ∧ k < s)) → k < w.heap.size ∨ (w.heap.size + 1 ≤ k ∧ k < s)) := fun k hk => by
        rcases hk with (h | h) | h
        · exact .inl (HX.out k h)
        · exact .inr (by have := HS2.out; omega)
        · exact .inr (by have := HS2.out; omega)
      clear hT hnx
      simp only [List.setIfInBounds_toArray, List.set_cons_succ, List.set_cons_zero]
      have bnd : out.length + 1 ≤ maxLen ∧ (out.length + 1) * 24 ≤ 140737488355328 := by unfold maxLen; omega
      by_cases h0 : out = []
      · have he := HA.out.1 h0
        have HE : Hid _ := he
        clear he
        have HA2 : Hid _ := h0
        have hl0 : out.length = 0 := by rw [h0]; rfl
        clear h0
        rw [hl0] at c1
        have T1 : Hid (Cl w s out (.slice ka 0 kc) W) := by have := T0.out; rw [hl0] at this; exact this
        gi_wp2_with (first
          | (gi_at_builtin; refine wpListIn_append_own _ rfl _ _ 51 rfl s 54 i0 _ 2 24 Try.underlying51 hi0 hz0 hz1 hz2 rfl (by decide) _ 0 [] rfl (by { have := T0.out.r.alloc (.cells #[.string x.1, .int .i64 x.2] 54); rw [HA2.out] at this; exact this }) ⟨W.heap.size, 0, none⟩ 1 1 [.string x.1, .int .i64 x.2] rfl rfl (fun j u hj => by rw [Addr.add_lit]; exact two_cells (heap_alloc_new W _) j u hj) (by simp [Value.oneCell']) (by unfold maxLen; omega) (by omega) (by simp; omega) ?_; intro v1 w1 hown1 hgrow1 _; obtain ⟨a1, k1, rfl, -⟩ := row_slice hown1; have S := T0.out.step (x := x) (v1 := .slice a1 (0 + 1) k1) (by rw [HA2.out]; exact hown1) (by rw [hl0]; exact hgrow1) _ hKX.out w3.heap.size; rw [hl0] at S; have c2 := S.2.2.2.cell; have c3 := S.2.2.2.fro; have SS : Hid _ := S; clear S hown1 hgrow1))
        refine ⟨SS.out.2.1, SS.out.2.2.1, .slice a1 (0 + 1) k1, ?_, hN⟩
        have := SS.out.1
        rw [HA2.out, List.nil_append] at this
        rw [HE.out]
        exact this
      · have hpos : 0 < out.length := Nat.pos_of_ne_zero (fun e => h0 (List.eq_nil_of_length_eq_zero e))
        have hk1 : out.length - 1 < out.length := by omega
        obtain ⟨g, hg⟩ : ∃ g, ka = some ⟨g, 0, none⟩ := by
          rcases T0.out.r.2 with ⟨e, h0⟩ | ⟨g, cap', cur, e, -⟩
          · omega
          · cases e; exact ⟨g, rfl⟩
        subst hg
        have m0 := row_cell T0.out.r (flat_key out (out.length - 1) hk1)
        have he := HA.out.2 _ hk1 rfl
        have HE : Hid _ := he
        clear he HA
        have hw1 : IntKind.i64.wrap ((out.length : Int) - 1) = (out.length : Int) - 1 := by rw [IntKind.wrap_i64]; omega
        have hne0 : ((out.length : Int) == 0) = false := by simp; omega
        have hge : (0 : Int) ≤ (out.length : Int) - 1 := by omega
        have hle : (out.length : Int) - 1 < (out.length : Int) := by omega
        have htn : ((out.length : Int) - 1).toNat = out.length - 1 := by omega
        generalize out[out.length - 1].1 = key at *
        cases hb : lt key x.1 with
        | true =>
          have hgt := gtr_str x.1 key
          rw [hb] at hgt
          rw [hb, if_pos rfl] at HE
          gi_wp2_with (first
            | (gi_at_builtin; refine wpListIn_append_own _ rfl _ _ 51 rfl s 54 i0 _ 2 24 Try.underlying51 hi0 hz0 hz1 hz2 rfl (by decide) _ out.length (flat out) rfl (T0.out.r.alloc _) ⟨W.heap.size, 0, none⟩ 1 1 [.string x.1, .int .i64 x.2] rfl rfl (fun j u hj => by rw [Addr.add_lit]; exact two_cells (heap_alloc_new W _) j u hj) (by simp [Value.oneCell']) bnd.1 bnd.2 (by simp; omega) ?_; intro v1 w1 hown1 hgrow1 _; obtain ⟨a1, k1, rfl, -⟩ := row_slice hown1; have S := T0.out.step hown1 hgrow1 _ hKX.out w3.heap.size; have c2 := S.2.2.2.cell; have c3 := S.2.2.2.fro; have SS : Hid _ := S; clear S hown1 hgrow1))
          exact ⟨SS.out.2.1, SS.out.2.2.1, _, by rw [HE.out]; exact SS.out.1, hN⟩
        | false =>
          have hgt := gtr_str x.1 key
          rw [hb] at hgt
          rw [hb] at HE
          gi_wp2
          refine ⟨KeepsFrom.refl _ _, Kq.refl _ _, .slice (some ⟨g, 0, none⟩) out.length kc, ?_, hN⟩
          have := HE.out
          simp only [Bool.false_eq_true, if_false] at this
          rw [this]
          exact T0.out
    case done =>
      rintro s W ⟨v, h1, h2⟩ hD
      have c1 := h1.o.cell
      obtain ⟨ka, kc, rfl, -⟩ := row_slice h1.r
      have HT : Hid _ := h1
      clear h1
      gi_wp2
      refine ⟨by simp, .inl ⟨_, _, rfl, takes hD, ?_⟩⟩
      have hput : W.grownBy (W.putObj w3.heap.size (.deferred none)) (some w3.heap.size) := grownBy_putObj' W _ _
      have hrow : ∀ r : Nat, some w3.heap.size = some r → ∃ o : Obj, W.heap[r]? = some o ∧ o.isCells = false := fun r e => by cases e; exact ⟨_, hD, rfl⟩
      exact ⟨_, results_tmp rfl _ _ _, _, rfl, row_low (row_kept HT.out.r hput hrow) (by have := HT.out.s; omega), below_take HT.out.b (Nat.le_refl _) (by omega) _⟩
    case stop => exact fun _ _ _ _ h _ => h.elim
end Go.Proofs.Ytlhijbgdccejbaa

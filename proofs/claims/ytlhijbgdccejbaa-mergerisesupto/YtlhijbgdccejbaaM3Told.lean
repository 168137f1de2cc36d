/-
  What a range tells, at most so many (the law's told).
-/
import Derived.Test.YtlhijbgdccejbaaM3Ord
import Derived.Test.YtlhijbgdccejbaaM3Same
namespace Go.Proofs.Ytlhijbgdccejbaa
open Go.RowKit Go.Shelf Go.Sort
open Go.Lib hiding intOf

attribute [local go_sem] Oper.semAt_some

theorem infoLRow : (Try.prog.info? 32).map (fun i => (i.zero, i.size, i.bytes)) = some (some (.agg #[.string ⟨#[]⟩, .int .i64 0]), 2, 24) := by kernel_rfl
/-- at most so many (below 0: all) -/
def most (m : Int) (l : List Ent) : List Ent := if m < 0 then l else l.take m.toNat

/-- what told has laid: how many, what was told so far -/
structure Tl (w : World) (m : Int) (s : Nat) (pre : List Ent) (v : Value) (W : World) : Prop where
  m : Bx W w.heap.size (.int .i64 m) 3
  o : Bx W (w.heap.size + 1) v 29
  r : W.ownsRow s 32 2 v pre.length (flat pre)
  b : Below w.heap.size w W
  s : w.heap.size + 2 ≤ s ∧ s ≤ W.heap.size
theorem Tl.sb {w : World} {m : Int} {s n : Nat} {pre : List Ent} {v : Value} {W W' : World} (h : Tl w m s pre v W) (hs : Sb n s W W') (hn : w.heap.size + 2 ≤ n) : Tl w m s pre v W' :=
  ⟨hs.bx h.m (.inl (by omega)), hs.bx h.o (.inl (by omega)), hs.row h.r (Nat.le_refl _), hs.below h.b (Nat.le_refl _) (by omega), ⟨h.s.1, Nat.le_trans h.s.2 hs.size⟩⟩
/-- one more is told -/
theorem Tl.step {w : World} {m : Int} {s : Nat} {pre : List Ent} {a : Option Addr} {c : Nat} {v1 : Value} {W w1 : World} {o : Obj} {x : Ent} (h : Tl w m s pre (.slice a pre.length c) W) (hown : w1.ownsRow s 32 2 v1 (pre.length + 1) (flat pre ++ [.string x.1, .int .i64 x.2])) (hg : (W.alloc o).grownBy w1 (Value.ownBlock (.slice a pre.length c))) (X : Nat → Prop) (hX : ∀ k, X k → k < w.heap.size ∨ (w.heap.size + 2 ≤ k ∧ k < s)) (B : Nat) :
    Tl w m s (pre ++ [x]) v1 (w1.setCell ⟨w.heap.size + 1, 0, none⟩ v1) ∧ KeepsFrom B W (w1.setCell ⟨w.heap.size + 1, 0, none⟩ v1) ∧ Kq X W (w1.setCell ⟨w.heap.size + 1, 0, none⟩ v1) ∧ Bx w1 (w.heap.size + 1) (.slice a pre.length c) 29 := by
  obtain ⟨hs1, hs2⟩ := h.s
  have hrb : ∀ k, Value.ownBlock (.slice a pre.length c) = some k → s ≤ k ∧ ∃ cur, W.heap[k]? = some (.cells cur 32 (0, 0)) := fun k hk => row_obj h.r hk
  have hc1 : Ch (fun k => Value.ownBlock (.slice a pre.length c) = some k) W w1 := ((Ch.refl _ W).alloc o).trans (Ch.of_grown hg (fun k e _ => e))
  have ho1 : Bx w1 (w.heap.size + 1) (.slice a pre.length c) 29 := h.o.ch hc1 (fun e => by have := (hrb _ e).1; omega)
  have hc2 : Ch (fun k => k = w.heap.size + 1 ∨ Value.ownBlock (.slice a pre.length c) = some k) W (w1.setCell ⟨w.heap.size + 1, 0, none⟩ v1) := (hc1.mono (fun k _ e => .inr e)).setCell _ _ (fun _ => .inl rfl)
  have hc3 : Ch (fun k => k = w.heap.size + 1) w1 (w1.setCell ⟨w.heap.size + 1, 0, none⟩ v1) := (Ch.refl _ w1).setCell _ _ (fun _ => rfl)
  refine ⟨⟨h.m.ch hc2 ?_, one0 ho1 _, ?_, h.b.trans (hc2.below h.b.size ?_), ⟨hs1, Nat.le_trans hs2 hc2.size⟩⟩, KeepsFrom.of_ch hc2 ?_, Kq.of_ch hc2 ?_, ho1⟩
  · rintro (e | e)
    · omega
    · have := (hrb _ e).1; omega
  · have e1 : flat (pre ++ [x]) = flat pre ++ [.string x.1, .int .i64 x.2] := by rw [flat_append]; rfl
    rw [e1, List.length_append]
    exact hc3.row hown (fun k hk e => by have := (row_obj hown hk).1; omega)
  · rintro k hk (e | e)
    · omega
    · have := (hrb _ e).1; omega
  · rintro k (e | e)
    · subst e; exact ⟨_, h.o, rfl⟩
    · obtain ⟨_, cur, hx⟩ := hrb _ e; exact ⟨_, hx, rfl⟩
  · rintro k hk (e | e)
    · have := hX k hk; omega
    · have h1 := (hrb _ e).1; have := hX k hk; omega

set_option maxRecDepth 100000 in
set_option maxHeartbeats 4000000 in
theorem told_sq {w : World} {f : Value} {l : List Ent} {X : Nat → Prop} (hS : Sq w f l X) (m : Int) (hm : m ≠ 0) (hn : l.length * 24 ≤ 140737488355328) :
    Calls Try.prog 13 #[f, .int .i64 m] w fun e w' => ∃ v, e = .returned v ∧ w'.ownsRow w.heap.size 32 2 v (most m l).length (flat (most m l)) ∧ Below w.heap.size w w' := by
  have hnf := fn_seq
  have HS : Hid (Sq w f l X) := hS
  have HX : Hid (∀ k, X k → k < w.heap.size) := hS.sn.1
  obtain ⟨gf, lb, rfl, -⟩ := hS
  have hbm : (m == 0) = false := by simpa using hm
  refine (callsIn_wide (n := 9)).1 ?_
  refine callsIn_of_wp_marks Try.func13 rfl trivial ?_ rfl
  simp only [Try.ntmps13, List.size_toArray, List.length_cons, List.length_nil, Nat.reduceAdd, Nat.reduceSub, Array.replicate_succ, Array.replicate_zero, List.push_toArray, List.append_toArray, List.nil_append, List.cons_append]
  obtain ⟨W2, hW2⟩ : ∃ W2, W2 = (w.alloc (.cells #[.int .i64 m] 3)).alloc (.cells #[.slice none 0 0] 29) := ⟨_, rfl⟩
  have hs2 : W2.heap.size = w.heap.size + 1 + 1 := by rw [hW2]; simp
  have hB2 : Below w.heap.size w W2 := by rw [hW2]; exact ((Below.refl _ w).alloc (Nat.le_refl _) _).alloc (by simp) _
  have bm2 : Bx W2 w.heap.size (.int .i64 m) 3 := by rw [hW2]; exact (Bx.new w _ _).alloc _
  have bo2 : Bx W2 (w.heap.size + 1) (.slice none 0 0) 29 := by
    rw [hW2]
    have := Bx.new (w.alloc (.cells #[.int .i64 m] 3)) (.slice none 0 0) 29
    rwa [World.size_alloc] at this
  have hSW := HS.out.below hB2
  gi_wp2
  rw [← hW2]
  clear hW2
  refine range_sq (r1 := 6) (r2 := 7) rfl hSW
    (fun s pre W => ∃ v, Tl w m s pre v W ∧ W2.heap.size + 2 ≤ s ∧ (0 ≤ m → (pre.length : Int) < m))
    (fun s c pre W => c = .exit 0 ∧ ∃ v, Tl w m s pre v W ∧ (pre.length : Int) = m ∧ pre <+: l)
    ?hI ?hIx ?start ?assign ?body ?done ?stop
  case hI =>
    rintro s pre A B ⟨v, h1, h2, h3⟩ hs
    exact ⟨v, h1.sb hs (by omega), h2, h3⟩
  case hIx =>
    rintro s c pre A B ⟨h0, v, h1, h2, h3⟩ hs
    exact ⟨h0, v, h1.sb hs (by omega), h2, h3⟩
  case start =>
    intro W0 hB h0
    refine ⟨.slice none 0 0, ⟨bm2.below hB bm2.lt, bo2.below hB bo2.lt, World.ownsRow_nil _ _ _ _, hB2.trans (hB.mono (by omega)), by omega⟩, h0, fun h => by simp; omega⟩
  case assign =>
    intro mm l' x W K hK
    gi_wp2
    exact hK
  case body =>
    rintro mm l' s pre x W ⟨v, hT, hN, hlen⟩ hnx
    obtain ⟨i0, hi0, hz0, hz1, hz2⟩ := info_parts infoLRow
    have hple : pre.length + 1 ≤ l.length := by have := hnx.length_le; simpa using this
    obtain ⟨ka, kc, rfl, -⟩ := row_slice hT.r
    have c1 := hT.o.cell
    have T0 : Hid _ := hT
    have HN : Hid (pre ++ [x] <+: l) := hnx
    have hsw := hT.s
    have hKX : Hid (∀ k, (X k ∨ (W2.heap.size + 2 ≤ k ∧ k < s)) → k < w.heap.size ∨ (w.heap.size + 2 ≤ k ∧ k < s)) := fun k hk => hk.elim (fun h => .inl (HX.out k h)) (fun h => .inr ⟨by omega, h.2⟩)
    clear hT hnx
    simp only [List.setIfInBounds_toArray, List.set_cons_succ, List.set_cons_zero]
    have bnd : pre.length + 1 ≤ maxLen ∧ (pre.length + 1) * 24 ≤ 140737488355328 := by unfold maxLen; omega
    gi_wp2_with (first
      | (gi_at_builtin; refine wpListIn_append_own _ rfl _ _ 29 rfl s 32 i0 _ 2 24 Try.underlying29 hi0 hz0 hz1 hz2 rfl (by decide) _ pre.length (flat pre) rfl (T0.out.r.alloc _) ⟨W.heap.size, 0, none⟩ 1 1 [.string x.1, .int .i64 x.2] rfl rfl (fun j u hj => by rw [Addr.add_lit]; exact two_cells (heap_alloc_new W _) j u hj) (by simp [Value.oneCell']) bnd.1 bnd.2 (by simp; omega) ?_; intro v1 w1 hown1 hgrow1 _; obtain ⟨a1, k1, rfl, -⟩ := row_slice hown1; have S := T0.out.step hown1 hgrow1 _ hKX.out W2.heap.size; have c2 := S.2.2.2.cell; have c3 := S.2.2.2.fro; have c4 := S.1.o.cell; have c5 := S.1.m.cell; have SS : Hid _ := S; clear S hown1 hgrow1))
    · rename_i he
      have he' : (pre.length : Int) + 1 = m := by simpa using he
      exact ⟨SS.out.2.1, SS.out.2.2.1, rfl, _, SS.out.1, by simp; omega, HN.out⟩
    · rename_i he
      have he' : ¬ (pre.length : Int) + 1 = m := by simpa using he
      exact ⟨SS.out.2.1, SS.out.2.2.1, _, SS.out.1, hN, fun h => by have := hlen h; simp; omega⟩
  case done =>
    rintro s W ⟨v, h1, h2, h3⟩ hD
    have e : most m l = l := by
      unfold most
      split
      · rfl
      · have h4' : (l.length : Int) < m := h3 (by omega)
        exact List.take_of_length_le (by omega)
    have HE : Hid _ := e
    clear e
    have c1 := h1.o.cell
    obtain ⟨ka, kc, rfl, -⟩ := row_slice h1.r
    have HT : Hid _ := h1
    clear h1
    gi_wp2
    refine ⟨by simp, .inl ⟨_, _, rfl, takes hD, ?_⟩⟩
    have hput : W.grownBy (W.putObj W2.heap.size (.deferred none)) (some W2.heap.size) := grownBy_putObj' W _ _
    have hrow : ∀ r : Nat, some W2.heap.size = some r → ∃ o : Obj, W.heap[r]? = some o ∧ o.isCells = false := fun r e => by cases e; exact ⟨_, hD, rfl⟩
    exact ⟨_, results_tmp rfl _ _ _, _, rfl, by rw [HE.out]; exact row_low (row_kept HT.out.r hput hrow) (by have := HT.out.s; omega), below_take HT.out.b (Nat.le_refl _) (by omega) _⟩
  case stop =>
    rintro s c pre W ⟨rfl, v, h1, h2, h3⟩ hD
    have e : most m l = pre := by
      unfold most
      rw [if_neg (by omega), ← h2]
      exact (List.prefix_iff_eq_take.1 h3).symm
    have HE : Hid _ := e
    clear e
    have c1 := h1.o.cell
    obtain ⟨ka, kc, rfl, -⟩ := row_slice h1.r
    have HT : Hid _ := h1
    clear h1
    gi_wp2
    refine ⟨by simp, .inl ⟨_, _, rfl, takes hD, ?_⟩⟩
    have hput : W.grownBy (W.putObj W2.heap.size (.deferred none)) (some W2.heap.size) := grownBy_putObj' W _ _
    have hrow : ∀ r : Nat, some W2.heap.size = some r → ∃ o : Obj, W.heap[r]? = some o ∧ o.isCells = false := fun r e => by cases e; exact ⟨_, hD, rfl⟩
    exact ⟨_, results_tmp rfl _ _ _, _, rfl, by rw [HE.out]; exact row_low (row_kept HT.out.r hput hrow) (by have := HT.out.s; omega), below_take HT.out.b (Nat.le_refl _) (by omega) _⟩

set_option maxRecDepth 100000 in
set_option maxHeartbeats 1000000 in
theorem told_zero {w : World} {f : Value} {l : List Ent} {X : Nat → Prop} (hS : Sn w f l X) :
    Calls Try.prog 13 #[f, .int .i64 0] w fun e w' => ∃ v, e = .returned v ∧ w'.ownsRow w.heap.size 32 2 v (most 0 l).length (flat (most 0 l)) ∧ Below w.heap.size w w' := by
  have hm0 : most 0 l = [] := by simp [most]
  rw [hm0]
  have HB : Hid (Below w.heap.size w ((w.alloc (.cells #[.int .i64 0] 3)).alloc (.cells #[.slice none 0 0] 29))) := ((Below.refl _ w).alloc (Nat.le_refl _) _).alloc (by simp) _
  refine (callsIn_wide (n := 9)).1 ?_
  refine callsIn_of_wp_marks Try.func13 rfl trivial ?_ rfl
  simp only [Try.ntmps13, List.size_toArray, List.length_cons, List.length_nil, Nat.reduceAdd, Nat.reduceSub, Array.replicate_succ, Array.replicate_zero, List.push_toArray, List.append_toArray, List.nil_append, List.cons_append]
  rcases hS.form with rfl | ⟨gf, lb, rfl⟩
  · gi_wp2
    exact ⟨_, results_tmp rfl _ _ _, _, rfl, World.ownsRow_nil _ _ _ _, HB.out⟩
  · gi_wp2
    exact ⟨_, results_tmp rfl _ _ _, _, rfl, World.ownsRow_nil _ _ _ _, HB.out⟩

set_option maxRecDepth 100000 in
set_option maxHeartbeats 1000000 in
theorem told_nil {w : World} (m : Int) (hm : m ≠ 0) :
    Calls Try.prog 13 #[.nilFunc, .int .i64 m] w fun e w' => ∃ v, e = .returned v ∧ w'.ownsRow w.heap.size 32 2 v (most m []).length (flat (most m [])) ∧ Below w.heap.size w w' := by
  have hm0 : most m [] = [] := by simp [most]
  rw [hm0]
  have hnf := nil_seq
  have hbm : (m == 0) = false := by simpa using hm
  have HB : Hid (Below w.heap.size w ((w.alloc (.cells #[.int .i64 m] 3)).alloc (.cells #[.slice none 0 0] 29))) := ((Below.refl _ w).alloc (Nat.le_refl _) _).alloc (by simp) _
  refine (callsIn_wide (n := 9)).1 ?_
  refine callsIn_of_wp_marks Try.func13 rfl trivial ?_ rfl
  simp only [Try.ntmps13, List.size_toArray, List.length_cons, List.length_nil, Nat.reduceAdd, Nat.reduceSub, Array.replicate_succ, Array.replicate_zero, List.push_toArray, List.append_toArray, List.nil_append, List.cons_append]
  gi_wp2
  exact ⟨_, results_tmp rfl _ _ _, _, rfl, World.ownsRow_nil _ _ _ _, HB.out⟩

/-- whatever the range, whatever the most -/
theorem told_any {w : World} {f : Value} {l : List Ent} {X : Nat → Prop} (hS : Sn w f l X) (m : Int) (hn : l.length * 24 ≤ 140737488355328) :
    Calls Try.prog 13 #[f, .int .i64 m] w fun e w' => ∃ v, e = .returned v ∧ w'.ownsRow w.heap.size 32 2 v (most m l).length (flat (most m l)) ∧ Below w.heap.size w w' := by
  by_cases hm : m = 0
  · subst hm; exact told_zero hS
  · rcases hS.2 with ⟨rfl, rfl⟩ | hS
    · exact told_nil m hm
    · exact told_sq hS m hm hn
end Go.Proofs.Ytlhijbgdccejbaa

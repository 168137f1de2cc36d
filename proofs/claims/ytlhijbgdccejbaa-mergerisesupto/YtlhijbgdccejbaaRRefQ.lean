/-
  The document's map: Put.
-/
import Derived.Test.YtlhijbgdccejbaaRRefP
namespace Go.Proofs.Ytlhijbgdccejbaa
open Go.RowKit Go.Shelf Go.Sort
open Go.Lib hiding intOf

theorem del_short {es : List Ent} (h : Short es) (k : ByteArray) : Short (del es k) := by
  unfold del
  split
  · intro e he
    rcases List.mem_append.1 he with h1 | h1
    · exact h e (List.mem_of_mem_take h1)
    · exact h e (List.mem_of_mem_drop h1)
  · exact h

theorem put_short {es : List Ent} (h : Short es) (k : ByteArray) (v : Int) (hk : k.size < 4611686018427387904) : Short (put es k v) := by
  unfold put
  split
  · intro e he
    rcases List.mem_or_eq_of_mem_set he with h1 | rfl
    · exact h e h1
    · exact hk
  · intro e he
    rcases List.mem_append.1 he with h1 | h1
    · exact h e (List.mem_of_mem_take h1)
    · rcases List.mem_cons.1 h1 with rfl | h1
      · exact hk
      · exact h e (List.mem_of_mem_drop h1)

theorem pos_del {es : List Ent} (hs : Rise es) (k : ByteArray) : pos (del es k) k = pos es k := by
  unfold del
  split
  · rename_i hh
    obtain ⟨hp, hk⟩ := has_lt hh
    have hle : pos es k ≤ (es.take (pos es k) ++ es.drop (pos es k + 1)).length := by simp; omega
    have hr : Rise (es.take (pos es k) ++ es.drop (pos es k + 1)) := by have := del_rise hs k; simpa [del, hh] using this
    apply Nat.le_antisymm
    · by_cases h : pos (es.take (pos es k) ++ es.drop (pos es k + 1)) k ≤ pos es k
      · exact h
      · exfalso
        have h1 : pos es k < (es.take (pos es k) ++ es.drop (pos es k + 1)).length := by have := pos_le (es.take (pos es k) ++ es.drop (pos es k + 1)) k; omega
        have h2 := (pos_lt _ k (pos es k) hr h1).2 (by omega)
        have hl : pos es k + 1 < es.length := by simp at h1; omega
        rw [List.getElem_append_right (by simp; omega)] at h2
        simp only [List.length_take, List.getElem_drop] at h2
        have e : pos es k + 1 + (pos es k - min (pos es k) es.length) = pos es k + 1 := by omega
        simp only [e] at h2
        rw [pos_lt es k _ hs hl] at h2
        omega
    · by_cases h : pos es k ≤ pos (es.take (pos es k) ++ es.drop (pos es k + 1)) k
      · exact h
      · exfalso
        have hlt : pos (es.take (pos es k) ++ es.drop (pos es k + 1)) k < pos es k := by omega
        have h1 : pos (es.take (pos es k) ++ es.drop (pos es k + 1)) k < (es.take (pos es k) ++ es.drop (pos es k + 1)).length := by omega
        have h2 : ¬ lt ((es.take (pos es k) ++ es.drop (pos es k + 1))[pos (es.take (pos es k) ++ es.drop (pos es k + 1)) k]).1 k = true := by rw [pos_lt _ k _ hr h1]; omega
        rw [List.getElem_append_left (by simp; omega)] at h2
        simp only [List.getElem_take] at h2
        exact h2 ((pos_lt es k _ hs (by omega)).2 hlt)
  · rfl

theorem put_del {es : List Ent} (hs : Rise es) (k : ByteArray) (v : Int) : put es k v = (del es k).take (pos (del es k) k) ++ (k, v) :: (del es k).drop (pos (del es k) k) := by
  rw [pos_del hs]
  unfold put del
  split
  · rename_i hh
    obtain ⟨hp, hk⟩ := has_lt hh
    rw [List.take_append_of_le_length (by simp; omega), List.take_take, Nat.min_self, List.drop_append_of_le_length (by simp; omega)]
    have : (es.take (pos es k)).drop (pos es k) = [] := List.drop_eq_nil_of_le (by simp; omega)
    rw [this, List.nil_append, List.set_eq_take_append_cons_drop, if_pos hp]
  · rfl

theorem del_le (es : List Ent) (k : ByteArray) : (del es k).length ≤ es.length := by
  rw [del_len]; split <;> omega

/-- the list with one more at i -/
def putAt (es : List Ent) (i : Nat) (x : Ent) : List Ent := es.take i ++ x :: es.drop i

set_option maxHeartbeats 4000000 in
set_option maxRecDepth 100000 in
theorem rPut_any {w : World} {rb base : Nat} {es : List Ent} {kv vv : Value} (h : Rf w rb base es kv vv) (hs : Rise es) (hsh : Short es) (k : ByteArray) (v : Int) (hk : k.size < 4611686018427387904) (hn : (es.length + 1) * 24 ≤ 211106232528000) (hb0 : base ≤ w.heap.size) :
    Calls Try.prog 24 #[.pointer (some ⟨rb, 0, none⟩), .string k, .int .i64 v] w fun e w' => e = .returned (.tuple #[.int .i64 (val es k), .bool (has es k)]) ∧ ∃ kv' vv', Rf w' rb base (put es k v) kv' vv' ∧ Ch (fun b => b = rb) w w' ∧ Fr w.heap.size kv vv kv' vv' := by
  have hD := rDel_any h hs hsh k hk (by omega) hb0
  have hs1 := del_rise hs k
  have hsh1 := del_short hsh k
  have hl1 := del_le es k
  rw [put_del hs k v]
  have hlt0 := h.lt
  generalize val es k = y at *
  generalize has es k = z at *
  generalize del es k = d at *
  have hle := pos_le d k
  obtain ⟨i, hi⟩ : ∃ i, i = pos d k := ⟨_, rfl⟩
  have HI : Hid (i = pos d k ∧ Rise d ∧ Short d) := ⟨hi, hs1, hsh1⟩
  rw [← hi] at hle ⊢
  clear h hs hsh hs1 hsh1 hi
  obtain ⟨i0, hi0, hz0, hz1, hz2⟩ := info_parts infoStr
  obtain ⟨j0, hj0, hy0, hy1, hy2⟩ := info_parts infoInt
  go_enter Try.func24, Try.ntmps24
  go_wp2_with fail
  refine hD.mono ?_
  rintro e w1 ⟨rfl, kv1, vv1, hR1, hCh, -⟩
  go_wp2_with fail
  refine (rfind_any hR1 HI.out.2.1 HI.out.2.2 k hk (by omega)).mono ?_
  rintro e w2 ⟨rfl, hB⟩
  rw [← HI.out.1]
  have hlt := hR1.lt
  have f0 := (hB.cell (p := ⟨rb, 0, none⟩) hlt).trans hR1.cell0
  have f1 := (hB.cell (p := ⟨rb, 1, none⟩) hlt).trans hR1.cell1
  have hsz := hB.size
  have hCs := hCh.size
  have n2 : ¬ rb = w2.heap.size := by omega
  have hr2 : rb < w2.heap.size := by omega
  have ff : Hid (w2.frozen? ⟨rb, 0, none⟩ = false ∧ w2.frozen? ⟨rb, 1, none⟩ = false) := ⟨(hB.frozen (p := ⟨rb, 0, none⟩) hlt).trans (hR1.fro 0), (hB.frozen (p := ⟨rb, 1, none⟩) hlt).trans (hR1.fro 1)⟩
  have N1 : Hid (Nw w2 (.slice (some ⟨w2.heap.size, 0, none⟩) 0 0) (.slice none 0 0) [] [] (w2.alloc (.cells #[] 9))) := (Nw.start w2).litK
  have fin : ∀ k8 v8 (w9 : World) old, St w2 rb k8 v8 old ((kcells d).take i ++ [.string k] ++ (kcells d).drop i) ((vcells d).take i ++ [.int .i64 v] ++ (vcells d).drop i) w9 → k8.ownBlock.isSome = true → v8.ownBlock.isSome = true → Rf (w9.setCell ⟨rb, 1, none⟩ v8) rb base (d.take i ++ (k, v) :: d.drop i) k8 v8 ∧ Ch (fun b => b = rb) w (w9.setCell ⟨rb, 1, none⟩ v8) ∧ Fr w.heap.size kv vv k8 v8 := by
    intro k8 v8 w9 old S7 s1 s2
    rw [← kcells_take, ← kcells_drop, ← vcells_take, ← vcells_drop] at S7
    have e1 : kcells (d.take i) ++ [.string k] ++ kcells (d.drop i) = kcells (d.take i ++ (k, v) :: d.drop i) := by simp [kcells]
    have e2 : vcells (d.take i) ++ [.int .i64 v] ++ vcells (d.drop i) = vcells (d.take i ++ (k, v) :: d.drop i) := by simp [vcells]
    rw [e1, e2] at S7
    obtain ⟨z1, z2, z3⟩ := S7.fin (w := w1) hB (by omega : base ≤ w1.heap.size) hr2 (by rw [s1, s2])
    exact ⟨z1, hCh.trans z2, .inr (fun g e => Nat.le_trans hCs (z3 g e))⟩
  have FIN : Hid _ := fin
  clear fin
  have L : Hid ((kcells d).length = d.length ∧ (vcells d).length = d.length) := by constructor <;> simp [kcells, vcells]
  have KO : Hid ((∀ v ∈ kcells d, v.oneCell' = true) ∧ (∀ v ∈ vcells d, v.oneCell' = true)) := ⟨kcells_one d, vcells_one d⟩
  have HV : Hid (((kcells d).take i).length = i ∧ ((vcells d).take i).length = i ∧ ((kcells d).drop i).length = d.length - i ∧ ((vcells d).drop i).length = d.length - i) := by
    have := L.out
    refine ⟨?_, ?_, ?_, ?_⟩
    · rw [List.length_take]; omega
    · rw [List.length_take]; omega
    · rw [List.length_drop]; omega
    · rw [List.length_drop]; omega
  have HW : Hid (((kcells d).take i ++ [Value.string k]).length = i + 1 ∧ ((vcells d).take i ++ [Value.int .i64 v]).length = i + 1) := by
    refine ⟨?_, ?_⟩
    · rw [List.length_append, HV.out.1]; rfl
    · rw [List.length_append, HV.out.2.1]; rfl
  rcases hR1.kv.1.2 with ⟨rfl, h00⟩ | ⟨g, cap, cur, rfl, hbg, hg, hgc, hgm, -⟩
  · rcases hR1.kv.2.2 with ⟨rfl, h01⟩ | ⟨g', cap', cur', rfl, hbg', hg', hgc', hgm', -⟩
    · have hd0 : d = [] := List.eq_nil_of_length_eq_zero h00
      subst hd0
      obtain rfl : i = 0 := by simpa using hle
      have hhd : Hid (w1.heap[rb]? = some (.cells #[.slice none 0 0, .slice none 0 0] 57 (0, 0))) := hR1.hd
      have nK := fun (W : World) (v : Value) (n : Nat) (xs : List Value) (h : W.ownsRow w2.heap.size 9 1 v n xs) => run_append_owned_none (P := Try.prog) W w2.heap.size 45 45 9 i0 1 Try.underlying45 hi0 v n xs h
      have nV := fun (W : World) (v : Value) (n : Nat) (xs : List Value) (h : W.ownsRow w2.heap.size 3 1 v n xs) => run_append_owned_none (P := Try.prog) W w2.heap.size 46 46 3 j0 1 Try.underlying46 hj0 v n xs h
      have N2 : Hid (Nw w2 (.slice (some ⟨w2.heap.size, 0, none⟩) 0 0) (.slice (some ⟨w2.heap.size + 1, 0, none⟩) 0 0) [] [] ((w2.alloc (.cells #[] 9)).alloc (.cells #[] 3))) := by
        have := N1.out.litV
        rwa [World.size_alloc] at this
      have N3a : Hid (Nw w2 (.slice (some ⟨w2.heap.size, 0, none⟩) 0 0) (.slice (some ⟨w2.heap.size + 1, 0, none⟩) 0 0) [] [] (((w2.alloc (.cells #[] 9)).alloc (.cells #[] 3)).alloc (.cells #[.string k] 9))) := N2.out.alloc _
      have N3b := N3a.out.b
      have HF : Hid _ := nK
      have HG : Hid _ := nV
      clear hR1 hD nK nV
      go_wp2_with (first
        | (at_builtin; refine Lib.wpList_append_run _ rfl _ _ _ _ rfl _ _ rfl rfl _ _ (HF.out _ _ _ _ N1.out.k) ?_; clear N1)
        | (at_builtin; refine Lib.wpList_append_run _ rfl _ _ _ _ rfl _ _ rfl rfl _ _ (HG.out _ _ _ _ N2.out.v) ?_; clear N2)
        | (at_builtin; refine wpList_append_own _ rfl _ _ 45 rfl w2.heap.size 9 i0 _ 1 16 Try.underlying45 hi0 hz0 hz1 hz2 rfl (by decide) _ 0 [] rfl N3a.out.k ⟨w2.heap.size + 1 + 1, 0, none⟩ 1 1 [.string k] rfl rfl (new_one _ _ (by simp) _ _) (by simp [Value.oneCell']) (by unfold maxLen; omega) (by omega) N3b.size ?_; intro v5 w5 ho5 hg5 hn5; have sm5 : Hid (v5.ownBlock.isSome = true) := row_some ho5 (fun e => by have := (hn5.1 e).1; cases this); clear hn5; have ho5' := ho5; rw [Nat.zero_add] at ho5'; obtain ⟨a5, c5, rfl, -⟩ := row_slice ho5'; have N4 : Hid (Nw w2 (.slice a5 1 c5) (.slice (some ⟨w2.heap.size + 1, 0, none⟩) 0 0) [.string k] [] (w5.alloc (.cells #[.int .i64 v] 3))) := (N3a.out.appK (n := 1) ho5 hg5 rfl).alloc _; have N4b := N4.out.b; clear ho5 hg5 ho5' N3a)
        | (at_builtin; refine wpList_append_own _ rfl _ _ 46 rfl w2.heap.size 3 j0 _ 1 8 Try.underlying46 hj0 hy0 hy1 hy2 rfl (by decide) _ 0 [] rfl N4.out.v ⟨w5.heap.size, 0, none⟩ 1 1 [.int .i64 v] rfl rfl (new_one _ _ rfl _ _) (by simp [Value.oneCell']) (by unfold maxLen; omega) (by omega) N4b.size ?_; intro v6 w6 ho6 hg6 hn6; have sm6 : Hid (v6.ownBlock.isSome = true) := row_some ho6 (fun e => by have := (hn6.1 e).1; cases this); clear hn6; have ho6' := ho6; rw [Nat.zero_add] at ho6'; obtain ⟨a6, c6, rfl, -⟩ := row_slice ho6'; have N5 : Hid (Nw w2 (.slice a5 1 c5) (.slice a6 1 c6) [.string k] [.int .i64 v] w6) := N4.out.appV (n := 1) ho6 hg6 rfl; have N5b := N5.out.b; clear ho6 hg6 ho6'; have q0 := (N5b.cell (p := ⟨rb, 0, none⟩) hr2).trans f0; have q1 := (N5b.cell (p := ⟨rb, 1, none⟩) hr2).trans f1; have r2 := (N5b.frozen (p := ⟨rb, 0, none⟩) hr2).trans ff.out.1; have S5 := N5.out.store ((hB.block rb hlt).trans hhd.out); have S5' : Hid _ := S5; have t0 := cell_two1 S5.hd; have t1 : (w6.setCell ⟨rb, 0, none⟩ (.slice a5 1 c5)).frozen? ⟨rb, 1, none⟩ = false := fro_two S5.hd; clear S5 N4)
        | (at_builtin; refine Lib.wpList_append_run _ rfl _ _ _ _ rfl _ _ rfl rfl _ _ (HF.out _ _ _ _ N5.out.k) ?_; clear HF)
        | (at_builtin; refine Lib.wpList_append_run _ rfl _ _ _ _ rfl _ _ rfl rfl _ _ (HG.out _ _ _ _ S5'.out.v) ?_))
      all_goals go_ret2
      all_goals exact ⟨rfl, _, _, FIN.out _ _ _ _ S5'.out sm5.out sm6.out⟩
    · have := hR1.al; cases this
  rcases hR1.kv.2.2 with ⟨rfl, h00⟩ | ⟨g', cap', cur', rfl, hbg', hg', hgc', hgm', -⟩
  · have := hR1.al; cases this
  have hhd : Hid (w1.heap[rb]? = some (.cells #[.slice (some ⟨g, 0, none⟩) d.length cap, .slice (some ⟨g', 0, none⟩) d.length cap'] 57 (0, 0))) := hR1.hd
  have hgl : g < w1.heap.size := (Array.getElem?_eq_some_iff.1 hg).1
  have hgl' : g' < w1.heap.size := (Array.getElem?_eq_some_iff.1 hg').1
  obtain ⟨A, hA, hAb, hAc⟩ := rest_at hR1.kv.1 hgc i
  obtain ⟨A', hA', hAb', hAc'⟩ := rest_at hR1.kv.2 hgc' i
  have hS1 := start_at hR1.kv.1 i
  have hS2 := start_at hR1.kv.2 i
  have hgr' : g' ≠ rb := by rintro rfl; rw [hR1.hd] at hg'; injection hg' with x; injection x with _ x; cases x
  have hcm : cap ≤ 9223372036854775807 := by unfold maxLen at hgm; omega
  have hcm' : cap' ≤ 9223372036854775807 := by unfold maxLen at hgm'; omega
  have C1 : Hid (∀ W, Below w2.heap.size w2 W → (∀ t u, ((kcells d).take i)[t]? = some u → W.cell? ((⟨g, 0, none⟩ : Addr).add t) = some u) ∧ (∀ t u, ((vcells d).take i)[t]? = some u → W.cell? ((⟨g', 0, none⟩ : Addr).add t) = some u) ∧ (∀ t u, ((kcells d).drop i)[t]? = some u → W.cell? (A.add t) = some u) ∧ (∀ t u, ((vcells d).drop i)[t]? = some u → W.cell? (A'.add t) = some u)) := by
    intro W hW
    have q1 : ∀ j, W.cell? ⟨g, j, none⟩ = w1.cell? ⟨g, j, none⟩ := fun j => (hW.cell (p := ⟨g, j, none⟩) (by show g < _; omega)).trans (hB.cell (p := ⟨g, j, none⟩) hgl)
    have q2 : ∀ j, W.cell? ⟨g', j, none⟩ = w1.cell? ⟨g', j, none⟩ := fun j => (hW.cell (p := ⟨g', j, none⟩) (by show g' < _; omega)).trans (hB.cell (p := ⟨g', j, none⟩) hgl')
    exact ⟨hS1 W q1, hS2 W q2, hAc W q1, hAc' W q2⟩
  have hic : (i : Int) ≤ (cap : Int) := by omega
  have hic' : (i : Int) ≤ (cap' : Int) := by omega
  have hin : (i : Int) ≤ (d.length : Int) := by omega
  clear hR1 hg hg' hAc hAc' hS1 hS2 hD
  go_wp2_with (first
    | (at_builtin; refine wpList_append_own _ rfl _ _ 45 rfl w2.heap.size 9 i0 _ 1 16 Try.underlying45 hi0 hz0 hz1 hz2 rfl (by decide) _ 0 [] rfl N1.out.k ⟨g, 0, none⟩ i cap ((kcells d).take i) rfl (by rw [HV.out.1, Nat.mul_one]) (C1.out _ N1.out.b).1 (fun u hu => KO.out.1 u (List.mem_of_mem_take hu)) (by unfold maxLen; omega) (by omega) (by simp) ?_; intro v3 w3 ho3 hg3 hn3; have sm3 : Hid (v3.ownBlock.isSome = true) := row_some ho3 (fun e => by have := (hn3.1 e).1; cases this); clear hn3; have ho3' := ho3; rw [Nat.zero_add] at ho3'; obtain ⟨a3, c3, rfl, -⟩ := row_slice ho3'; have N2 : Hid (Nw w2 (.slice a3 i c3) (.slice (some ⟨w3.heap.size, 0, none⟩) 0 0) ((kcells d).take i) [] (w3.alloc (.cells #[] 3))) := by { have := (N1.out.appK (n := i) ho3 hg3 HV.out.1).litV; rw [List.nil_append] at this; exact this }; have N2b := N2.out.b; clear ho3 hg3 ho3'; have p0 := (N2b.cell (p := ⟨rb, 0, none⟩) hr2).trans f0; have p1 := (N2b.cell (p := ⟨rb, 1, none⟩) hr2).trans f1)
    | (at_builtin; refine wpList_append_own _ rfl _ _ 46 rfl w2.heap.size 3 j0 _ 1 8 Try.underlying46 hj0 hy0 hy1 hy2 rfl (by decide) _ 0 [] rfl N2.out.v ⟨g', 0, none⟩ i cap' ((vcells d).take i) rfl (by rw [HV.out.2.1, Nat.mul_one]) (C1.out _ N2.out.b).2.1 (fun u hu => KO.out.2 u (List.mem_of_mem_take hu)) (by unfold maxLen; omega) (by omega) N2b.size ?_; intro v4 w4 ho4 hg4 hn4; have sm4 : Hid (v4.ownBlock.isSome = true) := row_some ho4 (fun e => by have := (hn4.1 e).1; cases this); clear hn4; have ho4' := ho4; rw [Nat.zero_add] at ho4'; obtain ⟨a4, c4, rfl, -⟩ := row_slice ho4'; have N3 : Hid (Nw w2 (.slice a3 i c3) (.slice a4 i c4) ((kcells d).take i) ((vcells d).take i) w4) := by { have := (N2.out.appV (n := i) ho4 hg4 HV.out.2.1); rw [List.nil_append] at this; exact this }; have N3a : Hid (Nw w2 (.slice a3 i c3) (.slice a4 i c4) ((kcells d).take i) ((vcells d).take i) (w4.alloc (.cells #[.string k] 9))) := N3.out.alloc _; have N3b := N3a.out.b; clear ho4 hg4 ho4')
    | (at_builtin; refine wpList_append_own _ rfl _ _ 45 rfl w2.heap.size 9 i0 _ 1 16 Try.underlying45 hi0 hz0 hz1 hz2 rfl (by decide) _ _ ((kcells d).take i) rfl N3a.out.k ⟨w4.heap.size, 0, none⟩ 1 1 [.string k] rfl rfl (new_one _ _ rfl _ _) (by simp [Value.oneCell']) (by rw [HV.out.1]; unfold maxLen; omega) (by rw [HV.out.1]; omega) N3b.size ?_; intro v5 w5 ho5 hg5 hn5; have sm5 : Hid (v5.ownBlock.isSome = true) := row_some ho5 (fun e => some_row sm3.out (hn5.1 e).1); clear hn5; have ho5' := ho5; rw [HV.out.1] at ho5'; obtain ⟨a5, c5, rfl, -⟩ := row_slice ho5'; have N4 : Hid (Nw w2 (.slice a5 (i + 1) c5) (.slice a4 i c4) ((kcells d).take i ++ [.string k]) ((vcells d).take i) (w5.alloc (.cells #[.int .i64 v] 3))) := (N3a.out.appK (n := 1) ho5 hg5 rfl).alloc _; have N4b := N4.out.b; clear ho5 hg5 ho5')
    | (at_builtin; refine wpList_append_own _ rfl _ _ 46 rfl w2.heap.size 3 j0 _ 1 8 Try.underlying46 hj0 hy0 hy1 hy2 rfl (by decide) _ _ ((vcells d).take i) rfl N4.out.v ⟨w5.heap.size, 0, none⟩ 1 1 [.int .i64 v] rfl rfl (new_one _ _ rfl _ _) (by simp [Value.oneCell']) (by rw [HV.out.2.1]; unfold maxLen; omega) (by rw [HV.out.2.1]; omega) N4b.size ?_; intro v6 w6 ho6 hg6 hn6; have sm6 : Hid (v6.ownBlock.isSome = true) := row_some ho6 (fun e => some_row sm4.out (hn6.1 e).1); clear hn6; have ho6' := ho6; rw [HV.out.2.1] at ho6'; obtain ⟨a6, c6, rfl, -⟩ := row_slice ho6'; have N5 : Hid (Nw w2 (.slice a5 (i + 1) c5) (.slice a6 (i + 1) c6) ((kcells d).take i ++ [.string k]) ((vcells d).take i ++ [.int .i64 v]) w6) := N4.out.appV (n := 1) ho6 hg6 rfl; have N5b := N5.out.b; clear ho6 hg6 ho6'; have q0 := (N5b.cell (p := ⟨rb, 0, none⟩) hr2).trans f0; have q1 := (N5b.cell (p := ⟨rb, 1, none⟩) hr2).trans f1)
    | (at_builtin; refine wpList_append_own _ rfl _ _ 45 rfl w2.heap.size 9 i0 _ 1 16 Try.underlying45 hi0 hz0 hz1 hz2 rfl (by decide) _ _ _ rfl N5.out.k A (d.length - i) (cap - i) ((kcells d).drop i) rfl (by rw [HV.out.2.2.1, Nat.mul_one]) (C1.out _ N5.out.b).2.2.1 (fun u hu => KO.out.1 u (List.mem_of_mem_drop hu)) (by rw [HW.out.1]; unfold maxLen; omega) (by rw [HW.out.1]; omega) N5b.size ?_; intro v7 w7 ho7 hg7 hn7; have sm7 : Hid (v7.ownBlock.isSome = true) := row_some ho7 (fun e => some_row sm5.out (hn7.1 e).1); clear hn7; have N6 := N5.out.appK (n := d.length - i) ho7 hg7 HV.out.2.2.1; have ho7' := ho7; rw [HW.out.1] at ho7'; obtain ⟨a7, c7, rfl, -⟩ := row_slice ho7'; have r0 := (N6.b.cell (p := ⟨rb, 0, none⟩) hr2).trans f0; have r1 := (N6.b.cell (p := ⟨rb, 1, none⟩) hr2).trans f1; have r2 := (N6.b.frozen (p := ⟨rb, 0, none⟩) hr2).trans ff.out.1; have S5 := N6.store ((hB.block rb hlt).trans hhd.out); have S5' : Hid _ := S5; have cA : Hid (∀ t u, ((vcells d).drop i)[t]? = some u → (w7.setCell ⟨rb, 0, none⟩ (.slice a7 (i + 1 + (d.length - i)) c7)).cell? (A'.add t) = some u) := (fun t u hu => by { have := (C1.out _ N6.b).2.2.2 t u hu; rw [World.cell?_setCell_other _ _ _ _ (by intro e; have := congrArg Addr.block e; rw [Addr.add_lit' A' t] at this; exact hgr' (by rw [← hAb']; exact this.symm))]; exact this }); have s5z := S5.c.size; clear ho7 hg7 N6 S5 ho7')
    | (at_builtin; refine wpList_append_own _ rfl _ _ 46 rfl w2.heap.size 3 j0 _ 1 8 Try.underlying46 hj0 hy0 hy1 hy2 rfl (by decide) _ _ _ rfl S5'.out.v A' (d.length - i) (cap' - i) ((vcells d).drop i) rfl (by rw [HV.out.2.2.2, Nat.mul_one]) cA.out (fun u hu => KO.out.2 u (List.mem_of_mem_drop hu)) (by rw [HW.out.2]; unfold maxLen; omega) (by rw [HW.out.2]; omega) s5z ?_; intro v8 w8 ho8 hg8 hn8; have sm8 : Hid (v8.ownBlock.isSome = true) := row_some ho8 (fun e => some_row sm6.out (hn8.1 e).1); clear hn8; have S7 := S5'.out.appV (n := d.length - i) ho8 hg8 HV.out.2.2.2 hr2; have ho8' := ho8; rw [HW.out.2] at ho8'; obtain ⟨a8, c8, rfl, -⟩ := row_slice ho8'; have S7' : Hid _ := S7; have t0 := cell_two1 S7.hd; have t1 : w8.frozen? ⟨rb, 1, none⟩ = false := fro_two S7.hd; clear ho8 hg8 S7 ho8'))
  all_goals go_ret2
  all_goals exact ⟨rfl, _, _, FIN.out _ _ _ _ S7'.out sm7.out sm8.out⟩

theorem KV.below {w w' : World} {b : Nat} {kv vv : Value} {l : List Ent} (h : KV w b kv vv l) (hb : Below w.heap.size w w') : KV w' b kv vv l :=
  have hc : Ch (fun _ => False) w w' := Ch.of_below hb
  ⟨hc.row h.1 (fun _ _ => id), hc.row h.2 (fun _ _ => id)⟩
end Go.Proofs.Ytlhijbgdccejbaa

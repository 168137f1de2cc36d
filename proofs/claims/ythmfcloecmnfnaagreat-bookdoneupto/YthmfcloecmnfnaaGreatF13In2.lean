/-
  slices.Insert of one element, whatever road it goes.
-/
import Derived.Test.YthmfcloecmnfnaaGreatF13Rows
namespace Go.Proofs.YthmfcloecmnfnaaGreat.f13
open Go.RowKit Go.Shelf Go.Lib Go.Sort
theorem fitsTk (n : Nat) (h : n * 56 ≤ 211106232528000) : (n + n / 4 + 192) * 56 ≤ 281474976710656 := by omega
theorem cellsTk {w : World} {vb : Nat} {y0 y1 y2 y3 y4 y5 : Value} {t : TypeId} (hv : w.heap[vb]? = some (.cells #[y0, y1, y2, y3, y4, y5] t (0, 0))) : ∀ j u, ([y0, y1, y2, y3, y4, y5] : List Value)[j]? = some u → w.cell? ⟨vb, 0 + j, none⟩ = some u := by
  intro j u hj
  match j, hj with
  | 0, hj => simp at hj; subst hj; simp [World.cell?, hv]
  | 1, hj => simp at hj; subst hj; simp [World.cell?, hv]
  | 2, hj => simp at hj; subst hj; simp [World.cell?, hv]
  | 3, hj => simp at hj; subst hj; simp [World.cell?, hv]
  | 4, hj => simp at hj; subst hj; simp [World.cell?, hv]
  | 5, hj => simp at hj; subst hj; simp [World.cell?, hv]

/-- what slices.Insert of one element hands back -/
def InsertedTk (w : World) (sv : Value) (n : Nat) (zs : List Value) (e : Ending) (w' : World) : Prop :=
  ∃ g cap, e = .returned (.slice (some ⟨g, 0, none⟩) (n + 1) cap) ∧ w'.ownsRow 0 66 6 (.slice (some ⟨g, 0, none⟩) (n + 1) cap) (n + 1) zs ∧ w.grownBy w' sv.ownBlock ∧ (sv.ownBlock = some g ∨ w.heap.size ≤ g)

set_option maxHeartbeats 4000000 in
set_option maxRecDepth 100000 in
/-- slices.Insert behind the last one -/
theorem insert_endTk {w : World} {sv : Value} {n vb : Nat} {cs : List Value} {y0 y1 y2 y3 y4 y5 : Value} (hrow : w.ownsRow 0 66 6 sv n cs) (hv : w.heap[vb]? = some (.cells #[y0, y1, y2, y3, y4, y5] 66 (0, 0))) (o0 : y0.oneCell' = true) (o1 : y1.oneCell' = true) (o2 : y2.oneCell' = true) (o3 : y3.oneCell' = true) (o4 : y4.oneCell' = true) (o5 : y5.oneCell' = true) (hbig : (n + 1) * 56 ≤ 211106232528000) :
    Calls Tryz.prog 145 #[sv, .int .i64 n, .slice (some ⟨vb, 0, none⟩) 1 1] w fun e w' => InsertedTk w sv n (cs ++ [y0, y1, y2, y3, y4, y5]) e w' := by
  obtain ⟨i0, hi, hz0, hz1, hz2⟩ := info_parts infoTk
  obtain ⟨a, c, rfl, ha, hnc, hcm⟩ := row_slice hrow
  obtain ⟨g, cap, w1, hrun, hown', hgrow, hw, _⟩ := run_append_where (P := Tryz.prog) w 25 25 66 i0 _ 6 56 Tryz.underlying25 hi hz0 hz1 hz2 rfl (by decide) _ n cs hrow ⟨vb, 0, none⟩ 1 1 [y0, y1, y2, y3, y4, y5] rfl
    (fun j u hj => by rw [Addr.add_lit]; exact cellsTk hv j u hj) (by intro u hu; simp at hu; rcases hu with rfl | rfl | rfl | rfl | rfl | rfl <;> assumption) (by decide) (by unfold maxLen; omega) (fitsTk _ hbig)
  have G : Hid (w1.ownsRow 0 66 6 (.slice (some ⟨g, 0, none⟩) (n + 1) cap) (n + 1) (cs ++ [y0, y1, y2, y3, y4, y5]) ∧ w.grownBy w1 (Value.slice a n c).ownBlock ∧ ((Value.slice a n c).ownBlock = some g ∨ w.heap.size ≤ g)) := ⟨hown', hgrow, hw.imp id (fun h => by omega)⟩
  clear hown' hgrow hw hrow hv hi hz0 hz1 hz2
  by_cases hcn : c = n
  · subst hcn
    go_enter Tryz.func145, Tryz.ntmps145
    go_wp2_with (at_builtin; refine Lib.wpList_append_run _ rfl _ _ _ _ rfl _ _ rfl rfl _ _ hrun ?_)
    go_ret
    exact ⟨_, _, rfl, G.out⟩
  · go_enter Tryz.func145, Tryz.ntmps145
    go_wp2_with (at_builtin; refine Lib.wpList_append_run _ rfl _ _ _ _ rfl _ _ rfl rfl _ _ hrun ?_)
    go_ret
    exact ⟨_, _, rfl, G.out⟩

set_option maxHeartbeats 4000000 in
set_option maxRecDepth 100000 in
/-- slices.Insert ahead of another one, in place -/
theorem insert_shiftTk {w : World} {b n c i vb : Nat} {cs : List Value} {y0 y1 y2 y3 y4 y5 : Value} (hrow : w.ownsRow 0 66 6 (.slice (some ⟨b, 0, none⟩) n c) n cs) (hv : w.heap[vb]? = some (.cells #[y0, y1, y2, y3, y4, y5] 66 (0, 0))) (o0 : y0.oneCell' = true) (o1 : y1.oneCell' = true) (o2 : y2.oneCell' = true) (o3 : y3.oneCell' = true) (o4 : y4.oneCell' = true) (o5 : y5.oneCell' = true) (h1c : ∀ v ∈ cs, v.oneCell' = true) (hvb : vb ≠ b) (hi : i < n) (hroom : n + 1 ≤ c) :
    Calls Tryz.prog 145 #[.slice (some ⟨b, 0, none⟩) n c, .int .i64 i, .slice (some ⟨vb, 0, none⟩) 1 1] w fun e w' => InsertedTk w (.slice (some ⟨b, 0, none⟩) n c) n (cs.take (i * 6) ++ [y0, y1, y2, y3, y4, y5] ++ cs.drop (i * 6)) e w' := by
  obtain ⟨i0, hi0, hz0, hz1, hz2⟩ := info_parts infoTk
  have hsz : (Tryz.prog.info? 66).map (·.size) = some 6 := by rw [hi0]; simp [hz1]
  have hlen := hrow.1
  obtain ⟨cur, hb, hnc, hcm, hcs, htake⟩ : ∃ cur, w.heap[b]? = some (.cells cur 66 (0, 0)) ∧ n ≤ c ∧ c ≤ maxLen ∧ cur.size = c * 6 ∧ cur.toList.take (n * 6) = cs := by
    rcases hrow.2 with ⟨h', _⟩ | ⟨g', cap', cur, h', _, hg, h1, h2, h3, h4⟩
    · cases h'
    · cases h'; exact ⟨cur, hg, h1, h2, h3, h4⟩
  have hcm' : c ≤ 9223372036854775807 := by unfold maxLen at hcm; omega
  have hov : ∀ lb cb, (callFunc 189 #[.slice (some ⟨vb, 0, none⟩) 1 1, .slice (some ⟨b, (i + 1) * 6, none⟩) lb cb]).run Tryz.prog w = .ok (.value (.bool false)) w := fun lb cb => by
    rw [run_callFunc_extern Tryz.func189 (by kernel_rfl) (by kernel_rfl) (by kernel_rfl) (e := Extern.SlicesOverlaps.overlaps #[25, 25] #[4]) (by kernel_rfl),
      Lib.run_overlaps_apart w 25 4 66 Tryz.underlying25 6 Tryz.sizeOf66 ⟨vb, 0, none⟩ ⟨b, (i + 1) * 6, none⟩ 1 1 lb cb hvb 66 66 6 (c * 6) (by simp [World.shape?, hv]) (by simp [World.shape?, hb, hcs]) (by omega) (by simp [World.frozen?, hv]) (by simp [World.frozen?, hv])]
    rfl
  have hcell : ∀ j, j < c * 6 → (w.cell? ⟨b, j, none⟩).isSome = true := fun j hj => by simp [World.cell?, hb, hcs, hj]
  have hfz : ∀ j, w.frozen? ⟨b, j, none⟩ = false := fun j => by simp [World.frozen?, hb]
  have hdl : (cs.drop (i * 6)).length = (n - i) * 6 := by rw [List.length_drop, hlen]; omega
  have hcp1 : ∀ ty dc sc, (Builtin.copy_ #[25, 25] ty #[.slice (some ⟨b, (i + 1) * 6, none⟩) (n - i) dc, .slice (some ⟨b, i * 6, none⟩) (n + 1 - i) sc]).run Tryz.prog w.drew = .ok (goInt ((n - i : Nat) : Int)) (w.drew.setCells b ((i + 1) * 6) (cs.drop (i * 6))) := fun ty dc sc => by
    have hmin : Nat.min (n + 1 - i) (n - i) = n - i := by simp only [Nat.min_def]; split <;> omega
    have h := run_copyN (P := Tryz.prog) w.drew 25 25 ty 66 b ((i + 1) * 6) (n - i) dc ⟨b, i * 6, none⟩ (n + 1 - i) sc 6 (cs.drop (i * 6)) Tryz.underlying25 hsz (by rw [hdl, hmin])
      (fun j v hj => by rw [Addr.add_lit]; exact row_cell hrow (by rwa [List.getElem?_drop] at hj))
      (fun j hj => hcell _ (by omega)) (fun j hj => hfz _) (fun v hv => h1c v (List.mem_of_mem_drop hv))
    rw [hmin] at h
    exact h
  obtain ⟨cur1, hb1, hs1, ht1⟩ := setCells_same b 66 (cs.drop (i * 6)) ((i + 1) * 6) w.drew cur hb (by rw [hdl, hcs]; omega)
  obtain ⟨W1, hW1⟩ : ∃ W1, W1 = w.drew.setCells b ((i + 1) * 6) (cs.drop (i * 6)) := ⟨_, rfl⟩
  rw [← hW1] at hcp1 hb1
  have hv1 : W1.heap[vb]? = some (.cells #[y0, y1, y2, y3, y4, y5] 66 (0, 0)) := by rw [hW1, setCells_other b _ _ _ _ hvb]; exact hv
  have hcp2 : ∀ ty dc, (Builtin.copy_ #[25, 25] ty #[.slice (some ⟨b, i * 6, none⟩) (n + 1 - i) dc, .slice (some ⟨vb, 0, none⟩) 1 1]).run Tryz.prog W1 = .ok (goInt 1) (W1.setCells b (i * 6) [y0, y1, y2, y3, y4, y5]) := fun ty dc => by
    have hmin : Nat.min 1 (n + 1 - i) = 1 := by simp only [Nat.min_def]; split <;> omega
    have h := run_copyN (P := Tryz.prog) W1 25 25 ty 66 b (i * 6) (n + 1 - i) dc ⟨vb, 0, none⟩ 1 1 6 [y0, y1, y2, y3, y4, y5] Tryz.underlying25 hsz (by rw [hmin]; rfl)
      (fun j v hj => by rw [Addr.add_lit]; exact cellsTk hv1 j v hj)
      (fun j hj => by simp at hj; simp [World.cell?, hb1, hs1, hcs]; omega) (fun j hj => by simp [World.frozen?, hb1]) (by intro u hu; simp at hu; rcases hu with rfl | rfl | rfl | rfl | rfl | rfl <;> assumption)
    rw [hmin] at h
    exact h
  obtain ⟨cur2, hb2, hs2, ht2⟩ := setCells_same b 66 [y0, y1, y2, y3, y4, y5] (i * 6) W1 cur1 hb1 (by rw [hs1, hcs]; simp; omega)
  have hend : (W1.setCells b (i * 6) [y0, y1, y2, y3, y4, y5]).ownsRow 0 66 6 (.slice (some ⟨b, 0, none⟩) (n + 1) c) (n + 1) (cs.take (i * 6) ++ [y0, y1, y2, y3, y4, y5] ++ cs.drop (i * 6)) ∧ w.grownBy (W1.setCells b (i * 6) [y0, y1, y2, y3, y4, y5]) (some b) := by
    refine ⟨⟨by simp [hlen]; omega, .inr ⟨b, c, cur2, rfl, Nat.zero_le _, hb2, hroom, hcm, by rw [hs2, hs1, hcs], ?_⟩⟩, ?_⟩
    · rw [ht2, ht1]
      have e1 : (cur.toList.take ((i + 1) * 6) ++ cs.drop (i * 6) ++ cur.toList.drop ((i + 1) * 6 + (cs.drop (i * 6)).length)).take (i * 6) = cs.take (i * 6) := by
        rw [List.append_assoc, List.take_append_of_le_length (by simp; omega), List.take_take, ← htake, List.take_take, Nat.min_eq_left (by omega), Nat.min_eq_left (by omega)]
      have e2 : (cur.toList.take ((i + 1) * 6) ++ cs.drop (i * 6) ++ cur.toList.drop ((i + 1) * 6 + (cs.drop (i * 6)).length)).drop (i * 6 + 6) = cs.drop (i * 6) ++ cur.toList.drop ((i + 1) * 6 + (cs.drop (i * 6)).length) := by
        rw [List.append_assoc, List.drop_append_of_le_length (by simp; omega), List.drop_take]
        have : (i + 1) * 6 - (i * 6 + 6) = 0 := by omega
        simp [this]
      simp only [List.length_cons, List.length_nil, Nat.zero_add, Nat.reduceAdd]
      rw [e1, e2, ← List.append_assoc, List.take_append_of_le_length (by simp [hlen]; omega), List.take_of_length_le (by simp [hlen]; omega)]
    · have hCh : Ch (fun k => k = b) w (W1.setCells b (i * 6) [y0, y1, y2, y3, y4, y5]) := by
        rw [hW1]
        exact ch_setCells (ch_setCells (Ch.refl (fun k => k = b) w).drew b _ _ (fun _ => rfl)) b _ _ (fun _ => rfl)
      refine ⟨hCh.os, hCh.tape, hCh.output, ?_, fun k hk hne => ?_⟩
      · rw [setCells_size, hW1, setCells_size]; exact Nat.le_refl _
      · have hkb : k ≠ b := fun e => hne (by rw [e])
        rw [setCells_other b _ _ _ _ hkb, hW1, setCells_other b _ _ _ _ hkb]; rfl
  have E : Hid ((W1.setCells b (i * 6) [y0, y1, y2, y3, y4, y5]).ownsRow 0 66 6 (.slice (some ⟨b, 0, none⟩) (n + 1) c) (n + 1) (cs.take (i * 6) ++ [y0, y1, y2, y3, y4, y5] ++ cs.drop (i * 6)) ∧ w.grownBy (W1.setCells b (i * 6) [y0, y1, y2, y3, y4, y5]) (some b)) := hend
  have hz2 : ¬ ((i : Int) = (n : Int)) := by omega
  have hw1 : IntKind.i64.wrap ((i : Int) + 1) = (i : Int) + 1 := by rw [IntKind.wrap_i64]; omega
  have hw2 : IntKind.i64.wrap ((n : Int) + 1) = (n : Int) + 1 := by rw [IntKind.wrap_i64]; omega
  have hb1' : (0 : Int) ≤ (i : Int) + 1 := by omega
  have hin : i ≤ n := by omega
  have htn : ((i : Int) + 1).toNat = i + 1 := by omega
  have htn2 : ((n : Int) + 1).toNat = n + 1 := by omega
  have hb2' : ¬ (c = i + 1) := by omega
  have hb3 : (i : Int) ≤ (n : Int) + 1 := by omega
  have hb4 : ¬ (c = i) := by omega
  have hb5 : (n : Int) + 1 ≤ (c : Int) := by omega
  have mixed : Tryz.prog.follows .mixedOrders = true := by kernel_rfl
  clear hend hrow hb hv hcs htake hlen hb1 hs1 ht1 hv1 hb2 hs2 ht2 hcell hfz hdl h1c hW1 hsz hi0 hz0 hz1
  go_enter Tryz.func145, Tryz.ntmps145
  go_wp2_with (simp only [hov])
  go_region_law_o (refine step_copyR rfl _ _ 25 25 rfl _ _ (by simp [Act.eval, Act.put]) (by simp [Act.eval, Act.put]) (hcp1 _ _ _) ?_)
  go_wp2_with (at_builtin; refine wpList_copyR _ rfl _ _ 25 25 rfl _ _ rfl rfl (hcp2 _ _) ?_)
  go_ret
  exact ⟨_, _, rfl, E.out.1, E.out.2, .inl rfl⟩

set_option maxHeartbeats 4000000 in
set_option maxRecDepth 100000 in
/-- slices.Insert ahead of another one, without room -/
theorem insert_growTk {w : World} {b n c i vb : Nat} {cs : List Value} {y0 y1 y2 y3 y4 y5 : Value} (hrow : w.ownsRow 0 66 6 (.slice (some ⟨b, 0, none⟩) n c) n cs) (hv : w.heap[vb]? = some (.cells #[y0, y1, y2, y3, y4, y5] 66 (0, 0))) (o0 : y0.oneCell' = true) (o1 : y1.oneCell' = true) (o2 : y2.oneCell' = true) (o3 : y3.oneCell' = true) (o4 : y4.oneCell' = true) (o5 : y5.oneCell' = true) (h1c : ∀ v ∈ cs, v.oneCell' = true) (hi : i < n) (hroom : c < n + 1) (hbig : (n + 1) * 56 ≤ 211106232528000) :
    Calls Tryz.prog 145 #[.slice (some ⟨b, 0, none⟩) n c, .int .i64 i, .slice (some ⟨vb, 0, none⟩) 1 1] w fun e w' => InsertedTk w (.slice (some ⟨b, 0, none⟩) n c) n (cs.take (i * 6) ++ [y0, y1, y2, y3, y4, y5] ++ cs.drop (i * 6)) e w' := by
  obtain ⟨i0, hi0, hz0, hzs, hzb⟩ := info_parts infoTk
  have hsz : (Tryz.prog.info? 66).map (·.size) = some 6 := by rw [hi0]; simp [hzs]
  have hlen := hrow.1
  obtain ⟨cur, hb, hnc, hcm, hcs, htake⟩ : ∃ cur, w.heap[b]? = some (.cells cur 66 (0, 0)) ∧ n ≤ c ∧ c ≤ maxLen ∧ cur.size = c * 6 ∧ cur.toList.take (n * 6) = cs := by
    rcases hrow.2 with ⟨h', _⟩ | ⟨g', cap', cur, h', _, hg, h1, h2, h3, h4⟩
    · cases h'
    · cases h'; exact ⟨cur, hg, h1, h2, h3, h4⟩
  obtain rfl : c = n := by omega
  have hbw : b < w.heap.size := (Array.getElem?_eq_some_iff.1 hb).1
  have hvw : vb < w.heap.size := (Array.getElem?_eq_some_iff.1 hv).1
  have hik : i + (c + 1 - i) = c + 1 := by omega
  have hold : (Builtin.firstCells i0.size i (.slice (some ⟨b, 0, none⟩) i c)).run Tryz.prog w.drew = .ok (cs.take (i * 6)).toArray w.drew := by
    rw [hzs]
    exact run_firstCells_some w.drew 6 i ⟨b, 0, none⟩ i c (cs.take (i * 6)) (by rw [List.length_take]; omega) (fun j v hj => by
      rw [Addr.add_lit]
      rw [List.getElem?_take] at hj
      split at hj
      · rw [Nat.zero_add]; exact row_cell hrow hj
      · cases hj)
  obtain ⟨G, hG⟩ : ∃ G, G = grownCap w (c + 1) c 66 := ⟨_, rfl⟩
  obtain ⟨z, hz⟩ : ∃ z : Value, z = .agg #[.int .u64 0, .int .u64 0, .int .u64 0, .int .i64 0, .int .i64 0, .string ⟨#[]⟩] := ⟨_, rfl⟩
  have hzc : z.cells.size = 6 := by rw [hz]; rfl
  rw [← hz] at hz0
  obtain ⟨ROW, hROW⟩ : ∃ ROW : Array Value, ROW = (cs.take (i * 6)).toArray ++ Builtin.zeroCells z.cells (c + 1 - i) ++ Builtin.zeroCells z.cells (G - (c + 1)) := ⟨_, rfl⟩
  obtain ⟨W1, hW1⟩ : ∃ W1, W1 = w.drew.alloc (.cells ROW 66) := ⟨_, rfl⟩
  have hkk : (c : Int) + 1 - (i : Int) = ((c + 1 - i : Nat) : Int) := by omega
  have hrz : ∀ ty, (Builtin.append_ #[25, 3] ty #[.slice (some ⟨b, 0, none⟩) i c, .int .i64 ((c : Int) + 1 - (i : Int))]).run Tryz.prog w = .ok (.slice (some ⟨w.heap.size, 0, none⟩) (c + 1) G) W1 := fun ty => by
    have h := Lib.run_append_grow_zeros w 25 3 ty 66 i0 _ .i64 .i64 Tryz.underlying25 Tryz.underlying3 hi0 hz0 (some ⟨b, 0, none⟩) i c (cs.take (i * 6)) hold (c + 1 - i) (by omega) (by omega) (by omega) (by omega) (by rw [hzb]; omega) (by rw [hzb, hik]; exact growslice_fits_wide (by omega) (fitsTk _ hbig))
    rw [hik] at h
    rw [hkk, hW1, hROW, hG]
    exact h
  have hGn : c + 1 ≤ G := by rw [hG]; exact grownCap_ge w _ _ _
  have hGm : G ≤ maxLen := by rw [hG]; exact grownCap_le_maxLen w (c + 1) c _ (by unfold maxLen; omega)
  have hG63 : G ≤ 9223372036854775807 := by unfold maxLen at hGm; omega
  have hRl : ROW.size = G * 6 := by
    rw [hROW]
    simp only [Array.size_append, List.size_toArray, List.length_take, size_zeroCells, hzc]
    omega
  have hb1 : W1.heap[w.heap.size]? = some (.cells ROW 66 (0, 0)) := by rw [hW1]; exact heap_alloc_new w.drew _
  have hold1 : ∀ k, k < w.heap.size → W1.heap[k]? = w.heap[k]? := fun k hk => by rw [hW1]; exact Below.heap_alloc w.drew _ k hk
  have hv1 : W1.heap[vb]? = some (.cells #[y0, y1, y2, y3, y4, y5] 66 (0, 0)) := (hold1 vb hvw).trans hv
  have hcpA : ∀ ty dc, (Builtin.copy_ #[25, 25] ty #[.slice (some ⟨w.heap.size, i * 6, none⟩) (c + 1 - i) dc, .slice (some ⟨vb, 0, none⟩) 1 1]).run Tryz.prog W1 = .ok (goInt 1) (W1.setCells w.heap.size (i * 6) [y0, y1, y2, y3, y4, y5]) := fun ty dc => by
    have hmin : Nat.min 1 (c + 1 - i) = 1 := by simp only [Nat.min_def]; split <;> omega
    have h := run_copyN (P := Tryz.prog) W1 25 25 ty 66 w.heap.size (i * 6) (c + 1 - i) dc ⟨vb, 0, none⟩ 1 1 6 [y0, y1, y2, y3, y4, y5] Tryz.underlying25 hsz (by rw [hmin]; rfl)
      (fun j v hj => by rw [Addr.add_lit]; exact cellsTk hv1 j v hj)
      (fun j hj => by simp at hj; simp [World.cell?, hb1, hRl]; omega) (fun j hj => by simp [World.frozen?, hb1]) (by intro u hu; simp at hu; rcases hu with rfl | rfl | rfl | rfl | rfl | rfl <;> assumption)
    rw [hmin] at h
    exact h
  obtain ⟨cur1, hb2, hs1, ht1⟩ := setCells_same w.heap.size 66 [y0, y1, y2, y3, y4, y5] (i * 6) W1 ROW hb1 (by rw [hRl]; simp; omega)
  obtain ⟨W2, hW2⟩ : ∃ W2, W2 = W1.setCells w.heap.size (i * 6) [y0, y1, y2, y3, y4, y5] := ⟨_, rfl⟩
  rw [← hW2] at hcpA hb2
  have hold2 : ∀ k, k < w.heap.size → W2.heap[k]? = w.heap[k]? := fun k hk => by rw [hW2, setCells_other _ _ _ _ _ (by omega)]; exact hold1 k hk
  have hdl : (cs.drop (i * 6)).length = (c - i) * 6 := by rw [List.length_drop, hlen]; omega
  have hcpB : ∀ ty dc sc, (Builtin.copy_ #[25, 25] ty #[.slice (some ⟨w.heap.size, (i + 1) * 6, none⟩) (c - i) dc, .slice (some ⟨b, i * 6, none⟩) (c - i) sc]).run Tryz.prog W2.drew = .ok (goInt ((c - i : Nat) : Int)) (W2.drew.setCells w.heap.size ((i + 1) * 6) (cs.drop (i * 6))) := fun ty dc sc => by
    have hmin : Nat.min (c - i) (c - i) = c - i := by simp only [Nat.min_def]; split <;> omega
    have h := run_copyN (P := Tryz.prog) W2.drew 25 25 ty 66 w.heap.size ((i + 1) * 6) (c - i) dc ⟨b, i * 6, none⟩ (c - i) sc 6 (cs.drop (i * 6)) Tryz.underlying25 hsz (by rw [hdl, hmin])
      (fun j v hj => by
        rw [Addr.add_lit]
        refine (World.cell?_of_block (w := w) (hold2 b hbw)).trans ?_
        exact row_cell hrow (by rwa [List.getElem?_drop] at hj))
      (fun j hj => by have : (i + 1) * 6 + j < G * 6 := by omega
                      show (W2.cell? _).isSome = true
                      simp [World.cell?, hb2, hs1, hRl, this]) (fun j hj => by show W2.frozen? _ = false; simp [World.frozen?, hb2]) (fun v hv => h1c v (List.mem_of_mem_drop hv))
    rw [hmin] at h
    exact h
  obtain ⟨cur2, hb3, hs2, ht2⟩ := setCells_same w.heap.size 66 (cs.drop (i * 6)) ((i + 1) * 6) W2.drew cur1 hb2 (by rw [hs1, hRl, hdl]; omega)
  have hend : (W2.drew.setCells w.heap.size ((i + 1) * 6) (cs.drop (i * 6))).ownsRow 0 66 6 (.slice (some ⟨w.heap.size, 0, none⟩) (c + 1) G) (c + 1) (cs.take (i * 6) ++ [y0, y1, y2, y3, y4, y5] ++ cs.drop (i * 6)) ∧ w.grownBy (W2.drew.setCells w.heap.size ((i + 1) * 6) (cs.drop (i * 6))) (some b) := by
    refine ⟨⟨by simp [hlen]; omega, .inr ⟨w.heap.size, G, cur2, rfl, Nat.zero_le _, hb3, hGn, hGm, by rw [hs2, hs1, hRl], ?_⟩⟩, ?_⟩
    · rw [ht2, ht1]
      have e0 : ROW.toList.take (i * 6) = cs.take (i * 6) := by
        rw [hROW]
        simp only [Array.toList_append, List.append_assoc]
        rw [List.take_append_of_le_length (by simp; omega), List.take_of_length_le (by simp; omega)]
      have e1 : (ROW.toList.take (i * 6) ++ [y0, y1, y2, y3, y4, y5] ++ ROW.toList.drop (i * 6 + [y0, y1, y2, y3, y4, y5].length)).take ((i + 1) * 6) = cs.take (i * 6) ++ [y0, y1, y2, y3, y4, y5] := by
        rw [e0, List.take_append_of_le_length (by simp; omega), List.take_of_length_le (by simp; omega)]
      rw [e1, List.take_append_of_le_length (by simp [hlen]; omega), List.take_of_length_le (by simp [hlen]; omega)]
    · have hCh : Ch (fun k => k = b) w (W2.drew.setCells w.heap.size ((i + 1) * 6) (cs.drop (i * 6))) := by
        rw [hW2, hW1]
        exact ch_setCells (ch_setCells ((Ch.refl (fun k => k = b) w).drew.alloc _) _ _ _ (fun h => absurd h (Nat.lt_irrefl _))).drew _ _ _ (fun h => absurd h (Nat.lt_irrefl _))
      exact ⟨hCh.os, hCh.tape, hCh.output, hCh.size, fun k hk hne => hCh.block k hk (fun e => hne (by rw [e]))⟩
  have E : Hid ((W2.drew.setCells w.heap.size ((i + 1) * 6) (cs.drop (i * 6))).ownsRow 0 66 6 (.slice (some ⟨w.heap.size, 0, none⟩) (c + 1) G) (c + 1) (cs.take (i * 6) ++ [y0, y1, y2, y3, y4, y5] ++ cs.drop (i * 6)) ∧ w.grownBy (W2.drew.setCells w.heap.size ((i + 1) * 6) (cs.drop (i * 6))) (some b)) := hend
  have hz2 : ¬ ((i : Int) = (c : Int)) := by omega
  have hw1 : IntKind.i64.wrap ((i : Int) + 1) = (i : Int) + 1 := by rw [IntKind.wrap_i64]; omega
  have hb1' : (0 : Int) ≤ (i : Int) + 1 := by omega
  have hin : i ≤ c := by omega
  have htn : ((i : Int) + 1).toNat = i + 1 := by omega
  have hb3' : (i : Int) ≤ (c : Int) := by omega
  have hGi : ¬ (G = i) := by omega
  have hGim : ¬ (G = i + 1) := by omega
  have hci : ¬ (c = i) := by omega
  have hz3 : (c : Int) < (c : Int) + 1 := by omega
  have mixed : Tryz.prog.follows .mixedOrders = true := by kernel_rfl
  clear hend hrow hb hv hcs htake hlen hb1 hs1 ht1 hv1 hb2 hs2 ht2 hdl h1c hW1 hW2 hsz hi0 hz0 hold hROW hRl hb3 hold1 hold2 hG hz hzc hkk hik hroom hnc hcm
  go_enter Tryz.func145, Tryz.ntmps145
  go_wp2_with (first
    | (at_builtin; refine Lib.wpList_append_run _ rfl _ _ _ _ rfl _ _ rfl rfl _ _ (hrz _) ?_)
    | (at_builtin; refine wpList_copyR _ rfl _ _ 25 25 rfl _ _ rfl rfl (hcpA _ _) ?_))
  go_region_law_o (refine step_copyR rfl _ _ 25 25 rfl _ _ (by simp [Act.eval, Act.put]) (by simp [Act.eval, Act.put]) (hcpB _ _ _) ?_)
  go_wp2
  go_ret
  exact ⟨_, _, rfl, E.out.1, E.out.2, .inr (Nat.le_refl _)⟩

/-- slices.Insert of one element -/
theorem insert_anyTk {w : World} {sv : Value} {n i vb : Nat} {cs : List Value} {y0 y1 y2 y3 y4 y5 : Value} (hrow : w.ownsRow 0 66 6 sv n cs) (hv : w.heap[vb]? = some (.cells #[y0, y1, y2, y3, y4, y5] 66 (0, 0))) (o0 : y0.oneCell' = true) (o1 : y1.oneCell' = true) (o2 : y2.oneCell' = true) (o3 : y3.oneCell' = true) (o4 : y4.oneCell' = true) (o5 : y5.oneCell' = true) (h1c : ∀ v ∈ cs, v.oneCell' = true) (hvb : sv.ownBlock ≠ some vb) (hi : i ≤ n) (hbig : (n + 1) * 56 ≤ 211106232528000) :
    Calls Tryz.prog 145 #[sv, .int .i64 i, .slice (some ⟨vb, 0, none⟩) 1 1] w fun e w' => InsertedTk w sv n (cs.take (i * 6) ++ [y0, y1, y2, y3, y4, y5] ++ cs.drop (i * 6)) e w' := by
  by_cases hin : i = n
  · subst hin
    refine (insert_endTk hrow hv o0 o1 o2 o3 o4 o5 hbig).mono fun e w' h => ?_
    rw [List.take_of_length_le (by rw [hrow.1]; exact Nat.le_refl _), List.drop_eq_nil_of_le (by rw [hrow.1]; exact Nat.le_refl _), List.append_nil]
    exact h
  · rcases hrow.2 with ⟨rfl, h0⟩ | ⟨g, cap, cur, rfl, _, hg, hnc, hcm, _⟩
    · omega
    · by_cases hroom : n + 1 ≤ cap
      · exact insert_shiftTk hrow hv o0 o1 o2 o3 o4 o5 h1c (fun e => hvb (by simp [Value.ownBlock, e])) (by omega) hroom
      · exact insert_growTk hrow hv o0 o1 o2 o3 o4 o5 h1c (by omega) (by omega) hbig

end Go.Proofs.YthmfcloecmnfnaaGreat.f13

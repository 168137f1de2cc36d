/-
  Contracts of slices.Insert of one element (whatever road it goes), slices.Delete of one element and slices.Clone at the map's cells.
-/
import Derived.Test.YtkohcdefhaokiabSIns
namespace Go.Proofs.Ytkohcdefhaokiab
open Go.RowKit Go.Shelf Go.Lib Go.Sort

/-- slices.Insert of one element -/
theorem insert_any {w : World} {sv : Value} {n i vb : Nat} {cs : List Value} {x y : Value} (hrow : w.ownsRow 0 54 2 sv n cs) (hv : w.heap[vb]? = some (.cells #[x, y] 54 (0, 0))) (hx : x.oneCell' = true) (hy : y.oneCell' = true) (h1c : ∀ v ∈ cs, v.oneCell' = true) (hvb : sv.ownBlock ≠ some vb) (hi : i ≤ n) (hbig : (n + 1) * 24 ≤ 211106232528000) :
    Calls Try.prog 24 #[sv, .int .i64 i, .slice (some ⟨vb, 0, none⟩) 1 1] w fun e w' => Inserted w sv n (cs.take (i * 2) ++ [x, y] ++ cs.drop (i * 2)) e w' := by
  by_cases hin : i = n
  · subst hin
    refine (insert_end hrow hv hx hy hbig).mono fun e w' h => ?_
    rw [List.take_of_length_le (by rw [hrow.1]; exact Nat.le_refl _), List.drop_eq_nil_of_le (by rw [hrow.1]; exact Nat.le_refl _), List.append_nil]
    exact h
  · rcases hrow.2 with ⟨rfl, h0⟩ | ⟨g, cap, cur, rfl, _, hg, hnc, hcm, _⟩
    · omega
    · by_cases hroom : n + 1 ≤ cap
      · exact insert_shift hrow hv hx hy h1c (fun e => hvb (by simp [Value.ownBlock, e])) (by omega) hroom
      · exact insert_grow hrow hv hx hy h1c (by omega) (by omega) hbig

theorem zeroOne : (Builtin.zeroCells (Value.agg #[Value.string ⟨#[]⟩, Value.int IntKind.i64 0]).cells 1).toList = [Value.string ⟨#[]⟩, Value.int IntKind.i64 0] := by
  simp [Builtin.zeroCells, Value.cells, List.range_succ]

set_option maxHeartbeats 4000000 in
set_option maxRecDepth 100000 in
/-- slices.Delete of one element -/
theorem delete_any {w : World} {b m c i : Nat} {cs : List Value} (hrow : w.ownsRow 0 54 2 (.slice (some ⟨b, 0, none⟩) (m + 1) c) (m + 1) cs) (h1c : ∀ v ∈ cs, v.oneCell' = true) (hi : i ≤ m) :
    Calls Try.prog 25 #[.slice (some ⟨b, 0, none⟩) (m + 1) c, .int .i64 i, .int .i64 ((i : Int) + 1)] w fun e w' => e = .returned (.slice (some ⟨b, 0, none⟩) m c) ∧ w'.ownsRow 0 54 2 (.slice (some ⟨b, 0, none⟩) m c) m (cs.take (i * 2) ++ cs.drop ((i + 1) * 2)) ∧ w.grownBy w' (some b) := by
  obtain ⟨i0, hi0, hz0, hzs, hzb⟩ := info_parts infoCell
  have hlen := hrow.1
  obtain ⟨cur, hb, hnc, hcm, hcs, htake⟩ : ∃ cur, w.heap[b]? = some (.cells cur 54 (0, 0)) ∧ m + 1 ≤ c ∧ c ≤ maxLen ∧ cur.size = c * 2 ∧ cur.toList.take ((m + 1) * 2) = cs := by
    rcases hrow.2 with ⟨h', _⟩ | ⟨g', cap', cur, h', _, hg, h1, h2, h3, h4⟩
    · cases h'
    · cases h'; exact ⟨cur, hg, h1, h2, h3, h4⟩
  have hcm' : c ≤ 9223372036854775807 := by unfold maxLen at hcm; omega
  obtain ⟨news, hnews⟩ : ∃ news, news = cs.drop ((i + 1) * 2) := ⟨_, rfl⟩
  have hnl : news.length = (m - i) * 2 := by rw [hnews, List.length_drop, hlen]; omega
  obtain ⟨A, hA, hsrc⟩ : ∃ A : Addr, (if c = i + 1 then some (⟨b, 0, none⟩ : Addr) else some ⟨b, (i + 1) * 2, none⟩) = some A ∧ Hid (∀ t u, news[t]? = some u → w.drew.cell? (A.add t) = some u) := by
    by_cases h : c = i + 1
    · refine ⟨⟨b, 0, none⟩, by simp [h], fun t u hu => ?_⟩
      have h0 : news.length = 0 := by rw [hnl]; omega
      rw [List.length_eq_zero_iff.1 h0] at hu
      simp at hu
    · refine ⟨⟨b, (i + 1) * 2, none⟩, by simp [h], fun t u hu => ?_⟩
      rw [Addr.add_lit]
      rw [hnews, List.getElem?_drop] at hu
      exact row_cell hrow hu
  have s2 : Hid (∀ u ∈ news, u.oneCell' = true) := by
    intro u hu
    rw [hnews] at hu
    exact h1c u (List.mem_of_mem_drop hu)
  have s3 : Hid (∀ t, t < news.length → (w.drew.cell? ⟨b, 0 + i * 2 + t, none⟩).isSome = true ∧ w.drew.frozen? ⟨b, 0 + i * 2 + t, none⟩ = false) := by
    intro t ht
    rw [hnl] at ht
    have h1 : 0 + i * 2 + t < c * 2 := by omega
    exact ⟨by show (w.cell? _).isSome = true; simp only [World.cell?, hb]; simp [hcs]; omega, by show w.frozen? _ = false; simp [World.frozen?, hb]⟩
  obtain ⟨cur1, hb1, hs1, ht1⟩ := setCells_same b 54 news (0 + i * 2) w.drew cur hb (by rw [hnl, hcs]; omega)
  obtain ⟨W1, hW1⟩ : ∃ W1, W1 = w.drew.setCells b (0 + i * 2) news := ⟨_, rfl⟩
  rw [← hW1] at hb1
  obtain ⟨zs, hzsd⟩ : ∃ zs : List Value, zs = [.string ⟨#[]⟩, .int .i64 0] := ⟨_, rfl⟩
  have hcl : ∀ ty cc, (Builtin.clear_ #[42] ty #[.slice (some ⟨b, m * 2, none⟩) 1 cc]).run Try.prog W1 = .ok (.tuple #[]) (W1.setCells b (m * 2) zs) := fun ty cc =>
    run_clearN W1 _ _ ty _ Try.underlying42 Try.zeroValue54 b (m * 2) 1 cc (by decide) zs (by rw [hzsd]; exact zeroOne) (by rw [hzsd]; intro v hv; simp at hv; rcases hv with rfl | rfl <;> rfl)
      (fun t ht => by rw [hzsd] at ht; simp at ht; simp only [World.cell?, hb1]; simp [hs1, hcs]; omega) (fun t ht => by simp [World.frozen?, hb1])
  obtain ⟨cur2, hb2, hs2, ht2⟩ := setCells_same b 54 zs (m * 2) W1 cur1 hb1 (by rw [hs1, hcs, hzsd]; simp; omega)
  have hend : (W1.setCells b (m * 2) zs).ownsRow 0 54 2 (.slice (some ⟨b, 0, none⟩) m c) m (cs.take (i * 2) ++ cs.drop ((i + 1) * 2)) ∧ w.grownBy (W1.setCells b (m * 2) zs) (some b) := by
    refine ⟨⟨by simp [hlen]; omega, .inr ⟨b, c, cur2, rfl, Nat.zero_le _, hb2, by omega, hcm, by rw [hs2, hs1, hcs], ?_⟩⟩, ?_⟩
    · rw [ht2, List.append_assoc, List.take_append_of_le_length (by simp [hs1, hcs]; omega), List.take_take, Nat.min_self, ht1, Nat.zero_add, ← hnews]
      have e1 : cur.toList.take (i * 2) = cs.take (i * 2) := by rw [← htake, List.take_take]; congr 1; omega
      rw [e1, List.take_append_of_le_length (by simp [hlen, hnl]; omega), List.take_of_length_le (by simp [hlen, hnl]; omega)]
    · have hCh : Ch (fun k => k = b) w (W1.setCells b (m * 2) zs) := by
        rw [hW1]
        exact (((Ch.refl (fun k => k = b) w).drew.setCells b _ _ (fun _ => rfl))).setCells b _ _ (fun _ => rfl)
      exact ⟨hCh.os, hCh.tape, hCh.output, hCh.size, fun k hk hne => hCh.block k hk (fun e => hne (by rw [e]))⟩
  have E : Hid ((W1.setCells b (m * 2) zs).ownsRow 0 54 2 (.slice (some ⟨b, 0, none⟩) m c) m (cs.take (i * 2) ++ cs.drop ((i + 1) * 2)) ∧ w.grownBy (W1.setCells b (m * 2) zs) (some b)) := hend
  have hW : Hid (W1 = w.drew.setCells b (0 + i * 2) news) := hW1
  have s1 : Hid (news.length = (m - i) * 2) := hnl
  have hic : i ≤ c := by omega
  have hjc : i + 1 ≤ c := by omega
  have hsum : i + (m - i) = m := by omega
  have hne : ¬ ((i : Int) = (i : Int) + 1) := by omega
  have htn : ((i : Int) + 1).toNat = i + 1 := by omega
  have h0i : (0 : Int) ≤ (i : Int) + 1 := by omega
  have him : (i : Int) + 1 ≤ (m : Int) + 1 := by omega
  have hmc : (m : Int) + 1 ≤ (c : Int) := by omega
  have hii : (i : Int) ≤ (i : Int) + 1 := by omega
  have hm1 : m + 1 - m = 1 := by omega
  have hmc' : m ≤ c := by omega
  have hcmne : ¬ (c = m) := by omega
  have mixed : Try.prog.follows .mixedOrders = true := by kernel_rfl
  clear hend hrow hb hcs htake hlen hb1 hs1 ht1 hb2 hs2 ht2 h1c hW1 hnews hnl hz0 hzsd
  go_enter Try.func25, Try.ntmps25
  go_wp2_with fail
  go_region_law_o (refine step_append_room rfl (.tmp 22) (.tmp 25) 42 rfl 54 i0 2 Try.underlying42 hi0 hzs b 0 i c (by simp [Act.eval, Act.put]) A (m - i) (c - (i + 1)) news (by simp [Act.eval, Act.put]) s1.out hsrc.out s2.out (by omega) s3.out ?_; rw [← hW.out])
  go_wp2
  go_ret
  exact ⟨rfl, E.out⟩

/-- what slices.Clone hands back -/
def Cloned (w : World) (n : Nat) (cs : List Value) (e : Ending) (w' : World) : Prop :=
  ∃ v', e = .returned v' ∧ w'.ownsRow 0 54 2 v' n cs ∧ Below w.heap.size w w' ∧ ∀ g, v'.ownBlock = some g → w.heap.size ≤ g

set_option maxHeartbeats 4000000 in
set_option maxRecDepth 100000 in
theorem clone_any {w : World} {sv : Value} {n : Nat} {cs : List Value} (hrow : w.ownsRow 0 54 2 sv n cs) (h1c : ∀ v ∈ cs, v.oneCell' = true) (hbig : n * 24 ≤ 211106232528000) :
    Calls Try.prog 36 #[sv] w fun e w' => Cloned w n cs e w' := by
  obtain ⟨i0, hi, hz0, hz1, hz2⟩ := info_parts infoCell
  have heq := fun (w : World) a n c => run_eql_slice_nil (P := Try.prog) w 42 54 a n c 0 0 Try.underlying42
  have hlen := hrow.1
  rcases hrow.2 with ⟨rfl, h0⟩ | ⟨g, cap, cur, rfl, _, hg, hnc, hcm, hcs, htake⟩
  · subst h0
    have hc0 : cs = [] := List.eq_nil_of_length_eq_zero (by simpa using hlen)
    subst hc0
    clear hrow hlen h1c
    go_enter Try.func36, Try.ntmps36
    go_wp2
    go_ret
    exact ⟨_, rfl, World.ownsRow_nil _ _ _ _, Below.refl _ _, fun g h => by cases h⟩
  · have R : Hid (w.ownsRow 0 54 2 (.slice (some ⟨g, 0, none⟩) n cap) n cs) := hrow
    clear hrow hg hcs htake
    have hB : Below w.heap.size w (w.alloc (.cells #[] 54)) := (Below.refl _ w).alloc (Nat.le_refl _) _
    have hlit := World.ownsRow_lit (base := w.heap.size) (e := 54) (size := 2) w #[] 0 (Nat.le_refl _) (Nat.zero_le _) rfl
    obtain ⟨v', w1, hrun, h2, h3, _⟩ := run_append_own_wide (P := Try.prog) (w.alloc (.cells #[] 54)) w.heap.size 42 42 54 i0 _ 2 24 Try.underlying42 hi hz0 hz1 hz2 rfl (by decide) _ 0 _ hlit ⟨g, 0, none⟩ n cap cs hlen
      (fun j u hj => by rw [Addr.add_lit, Nat.zero_add]; exact row_cell (R.out.alloc _) hj) h1c (by unfold maxLen; omega) (by rw [Nat.zero_add]; exact fits _ hbig) (by simp)
    have E : Hid (w1.ownsRow w.heap.size 54 2 v' (0 + n) (#[].toList ++ cs) ∧ Below w.heap.size w w1) := ⟨h2, hB.grown h3 (by simp) (fun k hk => by cases hk; exact Nat.le_refl _)⟩
    clear h2 h3 hlit hB hlen h1c
    go_enter Try.func36, Try.ntmps36
    go_wp2_with (at_builtin; refine Lib.wpList_append_run _ rfl _ _ _ _ rfl _ _ rfl rfl _ _ hrun ?_)
    go_ret
    obtain ⟨h2, hB⟩ := E.out
    simp only [Nat.zero_add, List.nil_append] at h2
    refine ⟨_, rfl, ⟨h2.1, ?_⟩, hB, fun k hk => (h2.lt k hk).1⟩
    rcases h2.2 with hn | ⟨g', cap', cur', e', hb', rest⟩
    · exact .inl hn
    · exact .inr ⟨g', cap', cur', e', Nat.zero_le _, rest⟩
end Go.Proofs.Ytkohcdefhaokiab

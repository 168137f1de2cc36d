/-
  What is proved: whatever two lists of rows are, what is merged of them rises, is of them, and begins no higher than the first (MergeRises answers true, and no argument is changed), where the arguments are of bounded bulk.
-/
import Derived.Test.YtlhijbgdccejbaaM3Args
import Derived.Test.YtlhijbgdccejbaaM3Shown
import Derived.Test.YtlhijbgdccejbaaM3Less
import Derived.Sort.QuietIn
namespace Go.Proofs.Ytlhijbgdccejbaa.mergeRises
open Go.ChangeShapes Go.WideShapes Go.ChangeAt Go.RowKit
open Go.Shelf Go.Sort
open Go.Lib hiding intOf

attribute [local go_sem] Oper.semAt_some

/-- the last key -/
def lastK (pre : List Ent) : ByteArray := (pre.getLast?.map (·.1)).getD ⟨#[]⟩
theorem lastK_snoc (pre : List Ent) (x : Ent) : lastK (pre ++ [x]) = x.1 := by simp [lastK]
theorem lastK_mem {pre : List Ent} (hne : pre ≠ []) : ∃ e ∈ pre, lastK pre = e.1 := by
  refine ⟨pre.getLast hne, List.getLast_mem hne, ?_⟩
  rw [← lastK_snoc pre.dropLast (pre.getLast hne), List.dropLast_concat_getLast hne]
theorem lastK_rise {l pre : List Ent} {x : Ent} (hr : Rise l) (hp : pre ++ [x] <+: l) (hne : pre ≠ []) : lt (lastK pre) x.1 = true := by
  have h1 : Rise (pre ++ [x]) := hr.sublist hp.sublist
  obtain ⟨e, he, e1⟩ := lastK_mem hne
  rw [e1]
  exact (List.pairwise_append.1 h1).2.2 e he x (by simp)
theorem lastK_size {l pre : List Ent} {x : Ent} (hs : Short l) (hp : pre ++ [x] <+: l) : (lastK pre).size < 4611686018427387904 := by
  by_cases hne : pre = []
  · subst hne; decide
  · obtain ⟨e, he, e1⟩ := lastK_mem hne
    rw [e1]
    exact hs e (hp.subset (by simp [he]))
theorem new_two (w : World) (n : Nat) (hn : n = w.heap.size) (x y : Value) (t : TypeId) : ∀ j u, ([x, y] : List Value)[j]? = some u → (w.alloc (.cells #[x, y] t)).cell? ((⟨n, 0, none⟩ : Addr).add j) = some u := by
  subst hn
  intro j u hj
  rw [Addr.add_lit]
  exact two_cells (heap_alloc_new w _) j u hj
theorem rw_cells {w : World} {a : Option Addr} {c : Nat} {l : List Ent} (h : Rw w (.slice a l.length c) l) {k : Nat} (hk : k < l.length) : ∃ b off, a = some ⟨b, off, none⟩ ∧ b < w.heap.size ∧ w.cell? ⟨b, off + k * 2, none⟩ = some (.string l[k].1) ∧ w.cell? ⟨b, off + k * 2 + 1, none⟩ = some (.int .i64 l[k].2) := by
  obtain ⟨a', c', e, h⟩ := h
  cases e
  rcases h with h | ⟨b, off, rfl, hlt, hc⟩
  · subst h; simp at hk
  · exact ⟨b, off, rfl, hlt, (hc k hk).1, (hc k hk).2⟩
/-- it is one of them -/
def hasE (l : List Ent) (x : Ent) : Bool := l.any (fun d => decide (d = x))
theorem hasE_take {A : List Ent} {k : Nat} (h : k < A.length) (e : Ent) : hasE (A.take (k + 1)) e = (hasE (A.take k) e || decide (A[k] = e)) := by
  unfold hasE
  rw [List.take_succ_eq_append_getElem h, List.any_append]
  simp
theorem hasE_iff (A : List Ent) (e : Ent) : hasE A e = true ↔ e ∈ A := by
  unfold hasE
  rw [List.any_eq_true]
  constructor
  · rintro ⟨d, h1, h2⟩; simp at h2; rw [← h2]; exact h1
  · intro h; exact ⟨e, h, by simp⟩
theorem mem_out {a b : List Ent} {x : Ent} (h : x ∈ merged [a, [], b]) : x ∈ a ∨ x ∈ b := by
  have e1 : merged [a, [], b] = putAll (merged [b]) (risen a) := rfl
  rw [e1, merged_one, mem_putAll (risen_rise b) (risen_rise a)] at h
  rcases h with h | ⟨h, _⟩
  · exact .inl ((risen_all a).2 x h)
  · exact .inr ((risen_all b).2 x h)
theorem first_low {a b : List Ent} (ha : 0 < a.length) : ∃ h : 0 < (merged [a, [], b]).length, lt a[0].1 (merged [a, [], b])[0].1 = false := by
  have hm : a[0] ∈ risen a := by
    have key : ∀ i, 1 ≤ i → a[0] ∈ risen (a.take i) := by
      intro i hi
      induction i with
      | zero => omega
      | succ i ih =>
        by_cases h1 : i = 0
        · subst h1
          rw [risen_take ha]
          simp [risen, above]
        · by_cases h2 : i < a.length
          · rw [risen_take h2]
            have := ih (by omega)
            split
            · exact List.mem_append_left _ this
            · exact this
          · have := ih (by omega)
            rw [List.take_of_length_le (by omega)] at this ⊢
            exact this
    have := key a.length (by omega)
    rwa [List.take_length] at this
  have hin : a[0] ∈ merged [a, [], b] := by
    have e1 : merged [a, [], b] = putAll (merged [b]) (risen a) := rfl
    rw [e1, merged_one, mem_putAll (risen_rise b) (risen_rise a)]
    exact .inl hm
  obtain ⟨j, hj, e⟩ := List.mem_iff_getElem.1 hin
  refine ⟨by omega, ?_⟩
  rw [← e]
  by_cases h0 : j = 0
  · subst h0; exact lt_irrefl _
  · exact lt_asymm ((merged_rise _).get (by omega) hj (by omega))

/-- what the law has laid when so many were told -/
structure Ri (w : World) (N s : Nat) (pre : List Ent) (v : Value) (W : World) : Prop where
  r : Bx W w.heap.size (.bool false) 4
  l : Bx W N (.string (lastK pre)) 9
  n : Bx W (N + 1) (.int .i64 (pre.length : Int)) 3
  o : Bx W (N + 1 + 1) v 29
  row : W.ownsRow s 32 2 v pre.length (flat pre)
  b : Below w.heap.size w W
  s : w.heap.size < N ∧ N + 3 ≤ s ∧ s ≤ W.heap.size
theorem Ri.sb {w : World} {N s n : Nat} {pre : List Ent} {v : Value} {W W' : World} (h : Ri w N s pre v W) (hs : Sb n s W W') (hn : N + 3 ≤ n) : Ri w N s pre v W' := by
  have hs0 := h.s
  exact ⟨hs.bx h.r (.inl (by omega)), hs.bx h.l (.inl (by omega)), hs.bx h.n (.inl (by omega)), hs.bx h.o (.inl (by omega)), hs.row h.row (Nat.le_refl _), hs.below h.b (Nat.le_refl _) (by omega), ⟨hs0.1, hs0.2.1, Nat.le_trans hs0.2.2 hs.size⟩⟩
theorem Ri.below {w : World} {N s : Nat} {pre : List Ent} {v : Value} {W W' : World} (h : Ri w N s pre v W) (hb : Below W.heap.size W W') : Ri w N s pre v W' :=
  h.sb (n := N + 3) (Ch.of_below hb) (Nat.le_refl _)
/-- the last key and the count are set -/
theorem Ri.mid {w : World} {N s : Nat} {pre : List Ent} {v : Value} {W : World} (h : Ri w N s pre v W) (k : ByteArray) (c : Int) :
    Bx (W.setCell ⟨N, 0, none⟩ (.string k)) (N + 1) (.int .i64 (pre.length : Int)) 3 ∧ Bx ((W.setCell ⟨N, 0, none⟩ (.string k)).setCell ⟨N + 1, 0, none⟩ (.int .i64 c)) (N + 1 + 1) v 29 ∧ World.ownsRow ((W.setCell ⟨N, 0, none⟩ (.string k)).setCell ⟨N + 1, 0, none⟩ (.int .i64 c)) s 32 2 v pre.length (flat pre) := by
  have hs0 := h.s
  have hc1 : Ch (fun b => b = N) W (W.setCell ⟨N, 0, none⟩ (.string k)) := (Ch.refl _ W).setCell _ _ (fun _ => rfl)
  have hc2 : Ch (fun b => b = N ∨ b = N + 1) W ((W.setCell ⟨N, 0, none⟩ (.string k)).setCell ⟨N + 1, 0, none⟩ (.int .i64 c)) := ((Ch.refl _ W).setCell _ _ (fun _ => .inl rfl)).setCell _ _ (fun _ => .inr rfl)
  exact ⟨h.n.ch hc1 (by omega), h.o.ch hc2 (by omega), hc2.row h.row (fun g hg e => by have := (row_obj h.row hg).1; omega)⟩
/-- one more is told -/
theorem Ri.step {w : World} {N s : Nat} {pre : List Ent} {a : Option Addr} {c : Nat} {v1 : Value} {W w1 : World} {o : Obj} {x : Ent} (h : Ri w N s pre (.slice a pre.length c) W)
    (hown : w1.ownsRow s 32 2 v1 (pre.length + 1) (flat pre ++ [.string x.1, .int .i64 x.2])) (hg : (((W.setCell ⟨N, 0, none⟩ (.string x.1)).setCell ⟨N + 1, 0, none⟩ (.int .i64 ((pre.length : Int) + 1))).alloc o).grownBy w1 (Value.ownBlock (.slice a pre.length c))) (X : Nat → Prop) (hX : ∀ k, X k → N + 3 ≤ k ∧ k < s) (B : Nat) :
    Ri w N s (pre ++ [x]) v1 (w1.setCell ⟨N + 1 + 1, 0, none⟩ v1) ∧ KeepsFrom B W (w1.setCell ⟨N + 1 + 1, 0, none⟩ v1) ∧ Kq X W (w1.setCell ⟨N + 1 + 1, 0, none⟩ v1) ∧ Bx w1 (N + 1 + 1) (.slice a pre.length c) 29 := by
  obtain ⟨hs1, hs2, hs3⟩ := h.s
  obtain ⟨m1, m2, m3⟩ := h.mid x.1 ((pre.length : Int) + 1)
  have hrb : ∀ k, Value.ownBlock (.slice a pre.length c) = some k → s ≤ k ∧ ∃ cur, W.heap[k]? = some (.cells cur 32 (0, 0)) := fun k hk => row_obj h.row hk
  have l2 : Bx ((W.setCell ⟨N, 0, none⟩ (.string x.1)).setCell ⟨N + 1, 0, none⟩ (.int .i64 ((pre.length : Int) + 1))) N (.string x.1) 9 := (one0 h.l _).ch ((Ch.refl (fun b => b = N + 1) _).setCell _ _ (fun _ => rfl)) (by omega)
  have n2 : Bx ((W.setCell ⟨N, 0, none⟩ (.string x.1)).setCell ⟨N + 1, 0, none⟩ (.int .i64 ((pre.length : Int) + 1))) (N + 1) (.int .i64 ((pre.length : Int) + 1)) 3 := one0 m1 _
  have hc2 : Ch (fun b => b = N ∨ b = N + 1) W ((W.setCell ⟨N, 0, none⟩ (.string x.1)).setCell ⟨N + 1, 0, none⟩ (.int .i64 ((pre.length : Int) + 1))) := ((Ch.refl _ W).setCell _ _ (fun _ => .inl rfl)).setCell _ _ (fun _ => .inr rfl)
  have hc3 : Ch (fun k => Value.ownBlock (.slice a pre.length c) = some k) ((W.setCell ⟨N, 0, none⟩ (.string x.1)).setCell ⟨N + 1, 0, none⟩ (.int .i64 ((pre.length : Int) + 1))) w1 := ((Ch.refl _ _).alloc o).trans (Ch.of_grown hg (fun k e _ => e))
  have ho1 := m2.ch hc3 (fun e => by have := (hrb _ e).1; omega)
  have hc4 : Ch (fun k => k = N + 1 + 1) w1 (w1.setCell ⟨N + 1 + 1, 0, none⟩ v1) := (Ch.refl _ w1).setCell _ _ (fun _ => rfl)
  have hcA : Ch (fun k => k = N ∨ k = N + 1 ∨ k = N + 1 + 1 ∨ Value.ownBlock (.slice a pre.length c) = some k) W (w1.setCell ⟨N + 1 + 1, 0, none⟩ v1) :=
    ((hc2.mono (fun k _ e => by rcases e with e | e; exact .inl e; exact .inr (.inl e))).trans (hc3.mono (fun k _ e => .inr (.inr (.inr e))))).trans (hc4.mono (fun k _ e => .inr (.inr (.inl e))))
  have hne : ∀ {k : Nat}, k < s → Value.ownBlock (.slice a pre.length c) = some k → False := fun hk e => by have := (hrb _ e).1; omega
  refine ⟨⟨h.r.ch hcA ?_, ?_, ?_, one0 ho1 _, ?_, h.b.trans (hcA.below h.b.size ?_), ⟨hs1, hs2, Nat.le_trans hs3 hcA.size⟩⟩, KeepsFrom.of_ch hcA ?_, Kq.of_ch hcA ?_, ho1⟩
  · rintro (e | e | e | e)
    · omega
    · omega
    · omega
    · exact hne (by omega) e
  · rw [lastK_snoc]
    exact (l2.ch hc3 (fun e => hne (by omega) e)).ch hc4 (by omega)
  · have e1 : (((pre ++ [x]).length : Nat) : Int) = (pre.length : Int) + 1 := by simp
    rw [e1]
    exact (n2.ch hc3 (fun e => hne (by omega) e)).ch hc4 (by omega)
  · have e1 : flat (pre ++ [x]) = flat pre ++ [.string x.1, .int .i64 x.2] := by rw [flat_append]; rfl
    rw [e1, List.length_append]
    exact hc4.row hown (fun k hk e => by have := (row_obj hown hk).1; omega)
  · rintro k hk (e | e | e | e)
    · omega
    · omega
    · omega
    · have := (hrb _ e).1; omega
  · rintro k (e | e | e | e)
    · subst e; exact ⟨_, h.l, rfl⟩
    · subst e; exact ⟨_, h.n, rfl⟩
    · subst e; exact ⟨_, h.o, rfl⟩
    · obtain ⟨_, cur, hx⟩ := hrb _ e; exact ⟨_, hx, rfl⟩
  · rintro k hk (e | e | e | e)
    · have := hX k hk; omega
    · have := hX k hk; omega
    · have := hX k hk; omega
    · have := hX k hk; exact hne (by omega) e
theorem len3 (a b : List Ent) : sumLen [a, [], b] = a.length + b.length := by simp [sumLen]
theorem mlen3 (a b : List Ent) : (merged [a, [], b]).length ≤ a.length + b.length := by have := merged_len [a, [], b]; simpa using this
theorem mshort {a b : List Ent} (ha : Short a) (hb : Short b) : Short (merged [a, [], b]) := fun e he => (mem_out he).elim (ha e) (hb e)

set_option maxRecDepth 100000 in
set_option maxHeartbeats 16000000 in
theorem walk (v0 v1 : Value) (a b : List Ent) (ha : a.length ≤ 1048576) (hb : b.length ≤ 1048576) (hsa : Short a) (hsb : Short b) (w : World) (h0 : Rw w v0 a) (h1 : Rw w v1 b) :
    Calls Try.prog 5 #[v0, v1] w fun e w' => e = .returned (.bool true) ∧ Below w.heap.size w w' := by
  obtain ⟨i3, hi3, ht0, ht1, ht2⟩ := info_parts infoLRow
  have R0 : Hid (Rw w v0 a ∧ Rw w v1 b ∧ Short a) := ⟨h0, h1, hsa⟩
  have mm := mlen3 a b
  have HE : Hid (Rise (merged [a, [], b]) ∧ Short (merged [a, [], b]) ∧ (∀ x ∈ merged [a, [], b], x ∈ a ∨ x ∈ b) ∧ ∀ h0 : 0 < a.length, ∃ h : 0 < (merged [a, [], b]).length, lt a[0].1 (merged [a, [], b])[0].1 = false) := ⟨merged_rise _, mshort hsa hsb, fun x hx => mem_out hx, fun h => first_low h⟩
  obtain ⟨a0, c0, rfl, -⟩ := h0
  obtain ⟨a1, c1, rfl, -⟩ := h1
  clear hsa hsb
  refine (callsIn_wide (n := 9)).1 ?_
  refine callsIn_of_wp_marks Try.func5 rfl trivial ?_ rfl
  simp only [Try.ntmps5, List.size_toArray, List.length_cons, List.length_nil, Nat.reduceAdd, Nat.reduceSub, Array.replicate_succ, Array.replicate_zero, List.push_toArray, List.append_toArray, List.nil_append, List.cons_append]
  obtain ⟨wa, hwa⟩ : ∃ wa, wa = w.alloc (.cells #[.bool false] 4) := ⟨_, rfl⟩
  have hsa : wa.heap.size = w.heap.size + 1 := by rw [hwa]; simp
  have hBa : Below w.heap.size w wa := by rw [hwa]; exact bal w _
  have bra : Bx wa w.heap.size (.bool false) 4 := by rw [hwa]; exact Bx.new w _ _
  gi_wp2_with (first
    | (refine ⟨trivial, ?_⟩; gi_at_call 9; rw [← hwa]; refine (callsIn_wide.2 (shown_any _)).mono ?_; rintro e w1 ⟨rfl, B1⟩))
  refine ⟨trivial, ?_⟩
  obtain ⟨w4, hw4⟩ : ∃ w4, w4 = ((w1.alloc (.cells #[.string ⟨#[]⟩] 9)).alloc (.cells #[.int .i64 0] 3)).alloc (.cells #[.slice none 0 0] 29) := ⟨_, rfl⟩
  have hs4 : w4.heap.size = w1.heap.size + 1 + 1 + 1 := by rw [hw4]; simp
  have B4 : Below w1.heap.size w1 w4 := by rw [hw4]; exact btr (bal w1 _) (btr (bal _ _) (bal _ _))
  have l4 : Bx w4 w1.heap.size (.string ⟨#[]⟩) 9 := by rw [hw4]; exact ((Bx.new w1 _ _).alloc _).alloc _
  have n4 : Bx w4 (w1.heap.size + 1) (.int .i64 0) 3 := by
    rw [hw4]
    have := (Bx.new (w1.alloc (.cells #[.string ⟨#[]⟩] 9)) (.int .i64 0) 3).alloc (.cells #[.slice none 0 0] 29)
    rwa [World.size_alloc] at this
  have o4 : Bx w4 (w1.heap.size + 1 + 1) (.slice none 0 0) 29 := by
    rw [hw4]
    have := Bx.new ((w1.alloc (.cells #[.string ⟨#[]⟩] 9)).alloc (.cells #[.int .i64 0] 3)) (.slice none 0 0) 29
    rwa [World.size_alloc, World.size_alloc] at this
  have r4 := (bra.below B1 bra.lt).below B4 (by have := B1.size; have := bra.lt; omega)
  have hNN : w.heap.size < w1.heap.size := by have := B1.size; omega
  have K4 : Hid (Below w.heap.size w w4) := btr (btr hBa B1) B4
  rw [← hw4]
  refine (callsIn_wide.2 (over_f (R0.out.1.b K4.out) (by omega))).mono ?_
  rintro e w5 ⟨g5, b5, X5, rfl, S5, B5, hX5⟩
  clear hw4 hwa
  have K5 : Hid (Below w4.heap.size w4 w5 ∧ Sn w5 (.func (.func g5) #[] b5) a X5 ∧ ∀ k, X5 k → w4.heap.size ≤ k) := ⟨B5, S5, hX5⟩
  clear B5 S5 hX5
  gi_wp2
  refine ⟨trivial, ?_⟩
  refine (callsIn_wide.2 (over_f (R0.out.2.1.b (btr K4.out K5.out.1)) (by omega))).mono ?_
  rintro e w6 ⟨g6, b6, X6, rfl, S6, B6, hX6⟩
  have K6 : Hid (Below w4.heap.size w4 w6 ∧ Sn w6 (.func (.func g5) #[] b5) a X5 ∧ (∀ k, X5 k → w4.heap.size ≤ k) ∧ Sn w6 (.func (.func g6) #[] b6) b X6 ∧ ∀ k, X6 k → w4.heap.size ≤ k) := ⟨btr K5.out.1 B6, K5.out.2.1.below B6, K5.out.2.2, S6, fun k hk => Nat.le_trans K5.out.1.size (hX6 k hk)⟩
  clear B6 S6 hX6 K5
  gi_wp2
  refine ⟨trivial, ?_⟩
  refine (callsIn_wide.2 (Merge_f (rgs_three (X2 := fun _ => False) (heap_alloc_new w6 _) (K6.out.2.1.below (bal w6 _)) (Sn.nil _ _ (fun _ h => h.elim)) (K6.out.2.2.2.1.below (bal w6 _))) (by rw [len3]; omega) (by simp))).mono ?_
  rintro e w8 ⟨g8, b8, Y, rfl, S8, B8, hY⟩
  have bb := btr (bal w6 _) B8
  have hY' : ∀ k, Y k → w4.heap.size ≤ k := fun k hk => by
    rcases hY k hk with (h | h | h | h) | h
    · exact K6.out.2.2.1 k h
    · exact h.elim
    · exact K6.out.2.2.2.2 k h
    · have := K6.out.1.size; omega
    · have := K6.out.1.size; simp at h; omega
  obtain ⟨M, hM⟩ : ∃ M, M = merged [a, [], b] := ⟨_, rfl⟩
  rw [← hM] at S8 HE mm
  clear hM
  have hS8 : Sq w8 (.func (.func g8) #[] b8) M Y := by
    rcases S8.2 with ⟨h, _⟩ | h
    · cases h
    · exact h
  have HS8 : Hid (Sq w8 (.func (.func g8) #[] b8) M Y) := hS8
  have K8 : Hid (Below w4.heap.size w4 w8 ∧ ∀ k, Y k → w4.heap.size ≤ k ∧ k < w8.heap.size) := ⟨btr K6.out.1 bb, fun k hk => ⟨hY' k hk, S8.1 k hk⟩⟩
  have hs8 := K8.out.1.size
  have r8 := r4.below K8.out.1 r4.lt
  have l8 := l4.below K8.out.1 l4.lt
  have n8 := n4.below K8.out.1 n4.lt
  have o8 := o4.below K8.out.1 o4.lt
  clear B8 S8 hY hY' bb K6 hS8
  gi_wp2
  refine range_sq (r1 := 9) (r2 := 10) rfl HS8.out
    (fun s pre W => ∃ v, Ri w w1.heap.size s pre v W ∧ w8.heap.size + 2 ≤ s)
    (fun _ _ _ _ => False)
    ?hI ?hIx ?start ?assign ?body ?done ?stop
  case hI =>
    rintro s pre A B ⟨v, h1, h2⟩ hs
    exact ⟨v, h1.sb hs (by omega), h2⟩
  case hIx => exact fun _ _ _ _ _ h _ => h
  case stop => exact fun _ _ _ _ h _ => h.elim
  case start =>
    intro W0 hB h0
    exact ⟨.slice none 0 0, ⟨r8.below hB r8.lt, l8.below hB l8.lt, n8.below hB n8.lt, o8.below hB o8.lt, World.ownsRow_nil _ _ _ _, (btr K4.out K8.out.1).trans (hB.mono (btr K4.out K8.out.1).size), by omega⟩, h0⟩
  case assign =>
    intro mm l' x W K hK
    gi_wp2
    exact hK
  case body =>
    rintro mm l' s pre x W ⟨v, hT, hN⟩ hnx
    have hple : pre.length + 1 ≤ M.length := by have := hnx.length_le; simpa using this
    obtain ⟨ka, kc, rfl, -⟩ := row_slice hT.row
    have c1 := hT.l.cell
    have T0 : Hid (Ri w w1.heap.size s pre (.slice ka pre.length kc) W) := hT
    have hsw := hT.s
    have hless := Less_any (lastK pre) x.1 (lastK_size HE.out.2.1 hnx) (HE.out.2.1 x (hnx.subset (by simp))) W
    have hris : pre ≠ [] → lt (lastK pre) x.1 = true := lastK_rise HE.out.1 hnx
    have hKX : Hid (∀ k, (Y k ∨ (w8.heap.size + 2 ≤ k ∧ k < s)) → w1.heap.size + 3 ≤ k ∧ k < s) := fun k hk => by
      rcases hk with h | h
      · have := K8.out.2 k h; omega
      · omega
    have bnd : pre.length + 1 ≤ maxLen ∧ (pre.length + 1) * 24 ≤ 140737488355328 := by unfold maxLen; omega
    have hw1 : IntKind.i64.wrap ((pre.length : Int) + 1) = (pre.length : Int) + 1 := by rw [IntKind.wrap_i64]; omega
    have hcs : (¬ (0 : Int) < (pre.length : Int) ∧ ¬ 0 < pre.length) ∨ (((0 : Int) < (pre.length : Int) ∧ 0 < pre.length) ∧ lt (lastK pre) x.1 = true) := by
      by_cases hp : pre = []
      · left; simp [hp]
      · right
        have := List.length_pos_iff.2 hp
        exact ⟨⟨by omega, this⟩, hris hp⟩
    clear hT hnx hris
    generalize hlk : lastK pre = lk at *
    simp only [List.setIfInBounds_toArray, List.set_cons_succ, List.set_cons_zero]
    rcases hcs with ⟨hc0, hc1⟩ | ⟨⟨hc0, hc1⟩, hc2⟩
    · have hd0 : decide (0 < pre.length) = false := by simpa using hc1
      gi_wp2_with (first
        | (refine ⟨trivial, (fun h => by cases h), ?_⟩; gi_at_call 18; refine (CallsIn.inRound _ (callsIn_wide.2 hless)).mono ?_; rintro e w7 ⟨rfl, B7⟩; have T7 := T0.out.below B7; have x9 := T7.n.cell; have u8 := T7.l.cell; have f8 := T7.l.fro; have M7 := T7.mid x.1 ((pre.length : Int) + 1); have u9 := M7.1.cell; have f9 := M7.1.fro; have u10 := M7.2.1.cell; have HM7 : Hid _ := M7; have HT7 : Hid (Ri w w1.heap.size s pre (.slice ka pre.length kc) w7) := T7; have hs7 := T7.s; clear M7 T7)
        | (gi_at_builtin; refine wpListIn_append_own _ rfl _ _ 29 rfl s 32 i3 _ 2 24 Try.underlying29 hi3 ht0 ht1 ht2 rfl (by decide) (.slice ka pre.length kc) pre.length (flat pre) rfl (HM7.out.2.2.alloc _) ⟨w7.heap.size, 0, none⟩ 1 1 [.string x.1, .int .i64 x.2] rfl rfl (new_two _ _ (by simp) _ _ _) (by simp [Value.oneCell']) bnd.1 bnd.2 (by simp; omega) ?_; intro v2 w2 hown2 hgrow2 _; have S := HT7.out.step hown2 hgrow2 _ hKX.out w8.heap.size; obtain ⟨a2, k2, rfl, -⟩ := row_slice hown2; have c2 := S.2.2.2.cell; have c3 := S.2.2.2.fro; have SS : Hid _ := S; clear S hown2 hgrow2))
      refine ⟨KeepsFrom.trans (KeepsFrom.of_ch (Y := fun _ => False) (Ch.of_below B7) (fun _ h => h.elim)) SS.out.2.1, (Kq.of_below B7).trans SS.out.2.2.1, _, SS.out.1, hN⟩
    · rw [hc2] at hless
      gi_wp2_with (first
        | (refine ⟨trivial, (fun h => by cases h), ?_⟩; gi_at_call 18; refine (CallsIn.inRound _ (callsIn_wide.2 hless)).mono ?_; rintro e w7 ⟨rfl, B7⟩; have T7 := T0.out.below B7; have x9 := T7.n.cell; have u8 := T7.l.cell; have f8 := T7.l.fro; have M7 := T7.mid x.1 ((pre.length : Int) + 1); have u9 := M7.1.cell; have f9 := M7.1.fro; have u10 := M7.2.1.cell; have HM7 : Hid _ := M7; have HT7 : Hid (Ri w w1.heap.size s pre (.slice ka pre.length kc) w7) := T7; have hs7 := T7.s; clear M7 T7)
        | (gi_at_builtin; refine wpListIn_append_own _ rfl _ _ 29 rfl s 32 i3 _ 2 24 Try.underlying29 hi3 ht0 ht1 ht2 rfl (by decide) (.slice ka pre.length kc) pre.length (flat pre) rfl (HM7.out.2.2.alloc _) ⟨w7.heap.size, 0, none⟩ 1 1 [.string x.1, .int .i64 x.2] rfl rfl (new_two _ _ (by simp) _ _ _) (by simp [Value.oneCell']) bnd.1 bnd.2 (by simp; omega) ?_; intro v2 w2 hown2 hgrow2 _; have S := HT7.out.step hown2 hgrow2 _ hKX.out w8.heap.size; obtain ⟨a2, k2, rfl, -⟩ := row_slice hown2; have c2 := S.2.2.2.cell; have c3 := S.2.2.2.fro; have SS : Hid _ := S; clear S hown2 hgrow2))
      refine ⟨KeepsFrom.trans (KeepsFrom.of_ch (Y := fun _ => False) (Ch.of_below B7) (fun _ h => h.elim)) SS.out.2.1, (Kq.of_below B7).trans SS.out.2.2.1, _, SS.out.1, hN⟩
  case done =>
    rintro s W ⟨v, h1, hsN⟩ hD
    obtain ⟨oa, oc, rfl, -⟩ := row_slice h1.row
    have HT : Hid (Ri w w1.heap.size s M (.slice oa M.length oc) W) := h1
    have RO : Hid (Rw W (.slice oa M.length oc) M) := rw_of_row h1.row
    have HD : Hid (W.heap[w8.heap.size]? = some (.deferred (some []))) := hD
    clear h1 hD
    gi_wp2
    gi_loopw [12] (fun vi wz => ∃ i : Nat, vi = .int .i64 i ∧ i ≤ M.length ∧ Below W.heap.size W wz) (fun vi _ => M.length - (intOf vi).toNat)
    case atStart => exact ⟨0, rfl, Nat.zero_le _, Below.refl _ _⟩
    case round =>
      obtain ⟨i, rfl, hi, hB⟩ := hrel
      have co := (HT.out.below hB).o.cell
      have HB0 : Hid (Below W.heap.size W wr) := hB
      clear hB
      by_cases hl : i < M.length
      · have hli : (i : Int) < (M.length : Int) := by omega
        obtain ⟨gx, ox, rfl, hgx, x1, x2⟩ := rw_cells RO.out hl
        have HX : Hid ((M[i] ∈ a ∨ M[i] ∈ b) ∧ W.cell? ⟨gx, ox + i * 2, none⟩ = some (.string M[i].1) ∧ W.cell? ⟨gx, ox + i * 2 + 1, none⟩ = some (.int .i64 M[i].2)) := ⟨HE.out.2.2.1 _ (List.getElem_mem hl), x1, x2⟩
        clear x1 x2
        generalize M[i] = x at *
        gi_wp2
        gi_loopw [13, 14] (fun vf vk wz => ∃ k : Nat, vk = .int .i64 k ∧ k ≤ a.length ∧ vf = .bool (hasE (a.take k) x) ∧ Below W.heap.size W wz) (fun _ vk _ => a.length - (intOf vk).toNat)
        case atStart => exact ⟨0, rfl, Nat.zero_le _, rfl, HB0.out⟩
        case round =>
          obtain ⟨k, rfl, hk, rfl, hB⟩ := hrel
          have HBk : Hid (Below W.heap.size W wr) := hB
          have cok := (HT.out.below hB).o.cell
          by_cases hkl : k < a.length
          · have hki : (k : Int) < (a.length : Int) := by omega
            obtain ⟨ga, oa', rfl, hga, z1, z2⟩ := rw_cells R0.out.1 hkl
            have hBw := btr HT.out.b hB
            have u1 := (hBw.cell (p := ⟨ga, oa' + k * 2, none⟩) hga).trans z1
            have u2 := (hBw.cell (p := ⟨ga, oa' + k * 2 + 1, none⟩) hga).trans z2
            have u3 := (hB.cell (p := ⟨gx, ox + i * 2, none⟩) hgx).trans HX.out.2.1
            have u4 := (hB.cell (p := ⟨gx, ox + i * 2 + 1, none⟩) hgx).trans HX.out.2.2
            have HTk : Hid _ := hasE_take hkl x
            clear z1 z2 hB hBw
            generalize a[k] = d at *
            cases hf : hasE (a.take k) x with
            | true =>
              gi_wp2
              gi_quiet (fail)
              all_goals gi_wp2
              go_roundw
              case rel => exact ⟨k + 1, by simp, by omega, by rw [HTk.out, hf]; rfl, below_drewN HBk.out _⟩
              case measure => simp [intOf]; omega
            | false =>
              by_cases he : d = x
              · rw [he] at u1 u2
                gi_wp2
                gi_quiet (fail)
                all_goals gi_wp2
                go_roundw
                case rel => exact ⟨k + 1, by simp, by omega, by rw [HTk.out, hf, he]; simp, below_drewN HBk.out _⟩
                case measure => simp [intOf]; omega
              · have HN : Hid (decide (d = x) = false) := decide_eq_false he
                by_cases hk1 : d.1 = x.1
                · have hv1 : ¬ d.2 = x.2 := fun e => he (Prod.ext hk1 e)
                  have hv2 : (d.2 == x.2) = false := by simpa using hv1
                  rw [hk1] at u1
                  clear he
                  gi_wp2
                  gi_quiet (fail)
                  all_goals gi_wp2
                  go_roundw
                  case rel => exact ⟨k + 1, by simp, by omega, by rw [HTk.out, hf, HN.out]; rfl, below_drewN HBk.out _⟩
                  case measure => simp [intOf]; omega
                · have hkq : (d.1.toList == x.1.toList) = false := eq_not hk1
                  have hkn : ¬ d.1.toList = x.1.toList := by simpa using hkq
                  clear he
                  gi_wp2
                  gi_quiet (fail)
                  all_goals gi_wp2
                  go_roundw
                  case rel => exact ⟨k + 1, by simp, by omega, by rw [HTk.out, hf, HN.out]; rfl, below_drewN HBk.out _⟩
                  case measure => simp [intOf]; omega
          · have hki : ¬ (k : Int) < (a.length : Int) := by omega
            obtain rfl : k = a.length := by omega
            rw [List.take_length]
            clear hB
            gi_wp2
            gi_loopw [13, 15] (fun vf vk wz => ∃ k : Nat, vk = .int .i64 k ∧ k ≤ b.length ∧ vf = .bool (hasE a x || hasE (b.take k) x) ∧ Below W.heap.size W wz) (fun _ vk _ => b.length - (intOf vk).toNat)
            case atStart => exact ⟨0, rfl, Nat.zero_le _, by simp [hasE], HBk.out⟩
            case round =>
              obtain ⟨k, rfl, hk, rfl, hB⟩ := hrel
              have HBk : Hid (Below W.heap.size W wr) := hB
              have cok := (HT.out.below hB).o.cell
              by_cases hkl : k < b.length
              · have hki : (k : Int) < (b.length : Int) := by omega
                obtain ⟨ga, oa', rfl, hga, z1, z2⟩ := rw_cells R0.out.2.1 hkl
                have hBw := btr HT.out.b hB
                have u1 := (hBw.cell (p := ⟨ga, oa' + k * 2, none⟩) hga).trans z1
                have u2 := (hBw.cell (p := ⟨ga, oa' + k * 2 + 1, none⟩) hga).trans z2
                have u3 := (hB.cell (p := ⟨gx, ox + i * 2, none⟩) hgx).trans HX.out.2.1
                have u4 := (hB.cell (p := ⟨gx, ox + i * 2 + 1, none⟩) hgx).trans HX.out.2.2
                have HTk : Hid ((hasE a x || hasE (b.take (k + 1)) x) = ((hasE a x || hasE (b.take k) x) || decide (b[k] = x))) := by show (hasE a x || hasE (b.take (k + 1)) x) = ((hasE a x || hasE (b.take k) x) || decide (b[k] = x)); rw [hasE_take hkl x, Bool.or_assoc]
                clear z1 z2 hB hBw
                generalize b[k] = d at *
                cases hf : (hasE a x || hasE (b.take k) x) with
                | true =>
                  gi_wp2
                  gi_quiet (fail)
                  all_goals gi_wp2
                  go_roundw
                  case rel => exact ⟨k + 1, by simp, by omega, by rw [HTk.out, hf]; rfl, below_drewN HBk.out _⟩
                  case measure => simp [intOf]; omega
                | false =>
                  by_cases he : d = x
                  · rw [he] at u1 u2
                    gi_wp2
                    gi_quiet (fail)
                    all_goals gi_wp2
                    go_roundw
                    case rel => exact ⟨k + 1, by simp, by omega, by rw [HTk.out, hf, he]; simp, below_drewN HBk.out _⟩
                    case measure => simp [intOf]; omega
                  · have HN : Hid (decide (d = x) = false) := decide_eq_false he
                    by_cases hk1 : d.1 = x.1
                    · have hv1 : ¬ d.2 = x.2 := fun e => he (Prod.ext hk1 e)
                      have hv2 : (d.2 == x.2) = false := by simpa using hv1
                      rw [hk1] at u1
                      clear he
                      gi_wp2
                      gi_quiet (fail)
                      all_goals gi_wp2
                      go_roundw
                      case rel => exact ⟨k + 1, by simp, by omega, by rw [HTk.out, hf, HN.out]; rfl, below_drewN HBk.out _⟩
                      case measure => simp [intOf]; omega
                    · have hkq : (d.1.toList == x.1.toList) = false := eq_not hk1
                      have hkn : ¬ d.1.toList = x.1.toList := by simpa using hkq
                      clear he
                      gi_wp2
                      gi_quiet (fail)
                      all_goals gi_wp2
                      go_roundw
                      case rel => exact ⟨k + 1, by simp, by omega, by rw [HTk.out, hf, HN.out]; rfl, below_drewN HBk.out _⟩
                      case measure => simp [intOf]; omega
              · have hki : ¬ (k : Int) < (b.length : Int) := by omega
                obtain rfl : k = b.length := by omega
                have hfound : (hasE a x || hasE (b.take b.length) x) = true := by
                  rw [List.take_length, Bool.or_eq_true, hasE_iff, hasE_iff]
                  exact HX.out.1
                rw [hfound]
                clear hB hfound
                gi_wp2
                go_roundw
                case rel => exact ⟨i + 1, by simp, by omega, HBk.out⟩
                case measure => simp [intOf]; omega
      · have hli : ¬ (i : Int) < (M.length : Int) := by omega
        have T1 := HT.out.below HB0.out
        have fin : Hid (∀ W' : World, Below wr.heap.size wr W' → Bx W' w.heap.size (.bool false) 4 ∧ ∃ W3 : World, W3 = W'.setCell ⟨w.heap.size, 0, none⟩ (.bool true) ∧ W3.heap[w8.heap.size]? = some (.deferred (some [])) ∧ Bx (W3.putObj w8.heap.size (.deferred none)) w.heap.size (.bool true) 4 ∧ Below w.heap.size w (W3.putObj w8.heap.size (.deferred none))) := fun W' hW' => by
          have T2 := T1.below hW'
          have hlt8 : w.heap.size < w8.heap.size := by omega
          have hDl := (Array.getElem?_eq_some_iff.1 HD.out).1
          have hd' : W'.heap[w8.heap.size]? = some (.deferred (some [])) := (hW'.block _ (Nat.lt_of_lt_of_le hDl HB0.out.size)).trans ((HB0.out.block _ hDl).trans HD.out)
          have hc : Ch (fun k => k = w.heap.size) W' (W'.setCell ⟨w.heap.size, 0, none⟩ (.bool true)) := (Ch.refl _ W').setCell _ _ (fun _ => rfl)
          refine ⟨T2.r, _, rfl, hc.obj hd' (by omega), (World.putObj_heap_other (by omega)).trans (one0 T2.r _), below_take (T2.b.trans (hc.below T2.b.size (fun k hk e => by omega))) (Nat.le_refl _) (by omega) _⟩
        by_cases hal : 0 < a.length
        · obtain ⟨hm0, hlo⟩ := HE.out.2.2.2 hal
          obtain ⟨ga, oa', rfl, hga, z1, -⟩ := rw_cells R0.out.1 hal
          obtain ⟨gx, ox, rfl, hgx, x1, -⟩ := rw_cells RO.out hm0
          have u1 : wr.cell? ⟨ga, oa', none⟩ = some (.string a[0].1) := by have := (T1.b.cell (p := ⟨ga, oa' + 0 * 2, none⟩) hga).trans z1; simpa using this
          have u2 : wr.cell? ⟨gx, ox, none⟩ = some (.string M[0].1) := by have := (HB0.out.cell (p := ⟨gx, ox + 0 * 2, none⟩) hgx).trans x1; simpa using this
          have hL := Less_any a[0].1 M[0].1 (R0.out.2.2 _ (List.getElem_mem hal)) (HE.out.2.1 _ (List.getElem_mem hm0)) wr.drew
          rw [hlo] at hL
          have hz0 : ((a.length : Int) == 0) = false := by rw [beq_eq_false_iff_ne]; omega
          have hz1 : ¬ (a.length : Int) = 0 := by omega
          have hz2 : ¬ a.length = 0 := by omega
          have hp0 : (0 : Int) < (M.length : Int) := by omega
          have hp1 : (0 : Int) < (a.length : Int) := by omega
          generalize a[0].1 = k0 at *
          generalize M[0].1 = k1 at *
          clear T1 z1 x1 hlo
          gi_wp2
          refine wpIn_mono ?_ NoPanic.imp
          gi_region_with (first | (refine ⟨trivial, ?_⟩; gi_at_call 18; refine (callsIn_wide.2 hL).mono ?_; rintro e w7 ⟨rfl, B7⟩; obtain ⟨f1, W3, hW3, f2, f3, f4⟩ := fin.out w7 ⟨B7.os, B7.tape, B7.output, B7.size, B7.block⟩; have cr := f1.cell; have fr := f1.fro))
          all_goals refine NoPanic.normal ?_
          all_goals gi_wp2
          all_goals rw [← hW3]
          all_goals refine ⟨by simp, .inl ⟨_, _, rfl, takes f2, ?_⟩⟩
          all_goals
            have c4 := f3.cell
            refine ⟨.bool true, ?res, rfl, f4⟩
            case res => simp [results, Try.results5, go_sem, c4]
        · skip
          obtain rfl : a = [] := List.eq_nil_of_length_eq_zero (by omega)
          simp only [List.length_nil]
          obtain ⟨f1, W3, hW3, f2, f3, f4⟩ := fin.out wr (Below.refl _ wr)
          have cr := f1.cell
          have fr := f1.fro
          have cr1 := T1.r.cell
          have fr1 := T1.r.fro
          clear T1
          gi_wp2
          refine wpIn_wide.2 ?_
          refine Code.wp_mono NoPanic.imp ?_
          go_region
          all_goals refine NoPanic.normal ?_
          all_goals gi_wp2
          all_goals rw [← hW3]
          all_goals refine ⟨by simp, .inl ⟨_, _, rfl, takes (W := W3.drew) f2, ?_⟩⟩
          all_goals
            have c4 : (W3.drew.putObj w8.heap.size (.deferred none)).cell? ⟨w.heap.size, 0, none⟩ = some (.bool true) := f3.cell
            refine ⟨.bool true, ?res, rfl, ⟨f4.os, f4.tape, f4.output, f4.size, f4.block⟩⟩
            case res => simp [results, Try.results5, go_sem, c4]

set_option maxRecDepth 100000 in
theorem lifted (os : Os) (started : os.Started) (H : Type) (enc : TypeId × Value → H) (F : Stop.Interp) :
    ReturnsInHanded {} Try.checked os 5 .any ((Rows.OpenSpec.upto Rows.mergeRisesSpec).pre6 enc Try.prog Try.f5 Rows.mergeRisesUptoRow.domain false) (((Rows.OpenSpec.upto Rows.mergeRisesSpec).at F).post enc Try.prog Try.f5 false true false false) := by
  refine returnsInHanded_of_cond (C := Try.checked) (s := Rows.OpenSpec.upto Rows.mergeRisesSpec) (k := Rows.uptoSmall) rfl own started (by kernel_rfl) Try.func5
    (OpenSpec.witness (enc := enc) (C := Try.checked) (s := Rows.OpenSpec.upto Rows.mergeRisesSpec) (k := Rows.uptoSmall) rfl false ⟨#[], #[.slice none 0 0, .slice none 0 0], []⟩ 8 (by kernel_rfl) (by kernel_rfl) (by kernel_rfl)
      (x := ([.nil, .nil], [], [])) (by kernel_rfl) rfl (by kernel_rfl)) ?_
  intro W base args ds gs before hval0 hW _ hk _
  have hval : ∀ (j : Nat) t v, Try.f5.params[j]? = some t → args[j]? = some v → Value.okWide Try.prog W .any base t v := hval0
  have hW' := hW
  obtain ⟨p, q, hA0, hV, rfl, hfz, hnd⟩ := hW
  have hA : DataW.TrodAll enc Try.prog W 0 (fun _ => true) true Try.f5.params.toList args.toList ds p := hA0
  rw [Try.params5] at hA hval
  obtain ⟨v0, vs0, d0, ds0, p0, q0, hargs, rfl, rfl, h0, r0⟩ := trodAll_cons hA
  obtain ⟨v1, vs1, d1, ds1, p1, q1, rfl, rfl, rfl, h1, r1⟩ := trodAll_cons r0
  obtain ⟨rfl, rfl, rfl⟩ := trodAll_nil r1
  obtain rfl : args = #[v0, v1] := by cases args; simp_all
  obtain ⟨rfl, rfl⟩ := trodVars_none hV
  have k0 := h0
  have k1 := h1
  have lt0 : ∀ x ∈ p0, x.block < W.heap.size := by obtain ⟨m, hm⟩ := k0; exact DataW.trod_lt m _ _ _ hm
  have lt1 : ∀ x ∈ p1, x.block < W.heap.size := by obtain ⟨m, hm⟩ := k1; exact DataW.trod_lt m _ _ _ hm
  obtain ⟨la, ha, hal, hak⟩ := openRows (hval 0 29 v0 rfl rfl) h0
  obtain ⟨lb, hb, hbl, hbk⟩ := openRows (hval 1 29 v1 rfl rfl) h1
  have hsmall : Rows.uptoBulkAll ([d0, d1] ++ []) ≤ 1048576 := of_decide_eq_true hk
  simp only [List.append_nil, Rows.uptoBulkAll] at hsmall
  clear hA0 hval0
  refine (walk v0 v1 la lb (by omega) (by omega) (fun e he => by have := hak e he; omega) (fun e he => by have := hbk e he; omega) W ha hb).mono fun e W' ⟨he, bel⟩ => ?_
  subst he
  exact ⟨_, rfl, _, _, _, [], _, [], hW', trodAll_mk1 (shut_bool Try.underlying4 _), (trodAll_cons_mk (Below.trod laidOut (by kernel_rfl) (of_decide_eq_true (by kernel_rfl)) k0 bel lt0) (trodAll_cons_mk (Below.trod laidOut (by kernel_rfl) (of_decide_eq_true (by kernel_rfl)) k1 bel lt1) trodAll_mk0)), rfl, bel.frame _, fun h => by cases h⟩

theorem proved : Rows.MergeRisesUptoSaid :=
  OpenClaim.holds_of_cond 5 Try.f5 rfl rfl rfl rfl rfl rfl rfl ⟨rfl, rfl, rfl, rfl, rfl⟩ rfl rfl rfl rfl rfl (by kernel_rfl) Try.func5 (by kernel_rfl)
    (of_decide_eq_true (by kernel_rfl)) (by unfold Func.isWrapper; first | (rw [if_pos (by decide +kernel)]; kernel_rfl) | (rw [if_neg (by decide +kernel)]; exact ⟨rfl, rfl⟩))
    (fun os started H enc _ F => lifted os started H enc F)
end Go.Proofs.Ytlhijbgdccejbaa.mergeRises

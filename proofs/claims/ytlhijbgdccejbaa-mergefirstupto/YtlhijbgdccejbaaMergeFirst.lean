/-
  What is proved: whatever two lists of rows and more are, of a key that several have the first one's value is told (MergeFirst answers true, and no argument is changed), where the arguments are of bounded bulk.
-/
import Derived.Test.YtlhijbgdccejbaaM3Args
import Derived.Test.YtlhijbgdccejbaaM3Shown
namespace Go.Proofs.Ytlhijbgdccejbaa.mergeFirst
open Go.ChangeShapes Go.WideShapes Go.ChangeAt Go.RowKit
open Go.Shelf Go.Sort
open Go.Lib hiding intOf

/-- the same key, a shifted value -/
def shf (m : Int) (e : Ent) : Ent := (e.1, IntKind.i64.wrap (e.2 + m))
/-- one of them has its key -/
def hasK (A : List Ent) (e : Ent) : Bool := A.any (fun d => d.1.toList == e.1.toList)
theorem keq_iff (a b : ByteArray) : (a.toList == b.toList) = true ↔ a = b := by
  rw [beq_iff_eq, Lib.toList_data, Lib.toList_data]
  exact ⟨key_ext, fun h => by rw [h]⟩
theorem hasK_iff (A : List Ent) (e : Ent) : hasK A e = true ↔ ∃ d ∈ A, d.1 = e.1 := by
  unfold hasK
  rw [List.any_eq_true]
  constructor
  · rintro ⟨d, h1, h2⟩; exact ⟨d, h1, (keq_iff _ _).1 h2⟩
  · rintro ⟨d, h1, h2⟩; exact ⟨d, h1, (keq_iff _ _).2 h2⟩
theorem hasK_take {A : List Ent} {k : Nat} (h : k < A.length) (e : Ent) : hasK (A.take (k + 1)) e = (hasK (A.take k) e || (A[k].1.toList == e.1.toList)) := by
  unfold hasK
  rw [List.take_succ_eq_append_getElem h, List.any_append]
  simp
theorem above_map (m : Int) (out : List Ent) (x : Ent) : above (out.map (shf m)) (shf m x) = above out x := by
  unfold above
  rw [List.all_map]
  rfl
theorem risen_map (m : Int) (b : List Ent) : risen (b.map (shf m)) = (risen b).map (shf m) := by
  have key : ∀ i, i ≤ b.length → risen ((b.map (shf m)).take i) = (risen (b.take i)).map (shf m) := by
    intro i
    induction i with
    | zero => intro _; simp [risen]
    | succ i ih =>
      intro hi
      have h1 : i < b.length := by omega
      have h2 : i < (b.map (shf m)).length := by simpa using h1
      rw [risen_take h2, risen_take h1, ih (by omega), List.getElem_map, above_map]
      split
      · rw [List.map_append]; rfl
      · rfl
  have := key b.length (Nat.le_refl _)
  rwa [List.take_length, List.take_of_length_le (by simp)] at this
theorem map_rise {f : Ent → Ent} (hf : ∀ e, (f e).1 = e.1) {l : List Ent} (h : Rise l) : Rise (l.map f) := by
  unfold Rise
  rw [List.pairwise_map]
  exact h.imp (fun hab => by rw [hf, hf]; exact hab)
theorem two_map (m : Int) (A B : List Ent) (hA : Rise A) (hB : Rise B) : putAll (B.map (shf m)) A = (putAll B A).map (fun e => if hasK A e then e else shf m e) := by
  have hg : ∀ e : Ent, (if hasK A e then e else shf m e).1 = e.1 := fun e => by split <;> rfl
  have hBm : Rise (B.map (shf m)) := map_rise (f := shf m) (fun _ => rfl) hB
  refine rise_ext (putAll_rise hBm _) (map_rise hg (putAll_rise hB _)) (fun e => ?_)
  rw [mem_putAll hBm hA]
  constructor
  · rintro (h | ⟨h, h2⟩)
    · exact List.mem_map.2 ⟨e, (mem_putAll hB hA e).2 (.inl h), by rw [if_pos ((hasK_iff A e).2 ⟨e, h, rfl⟩)]⟩
    · obtain ⟨x, hx, rfl⟩ := List.mem_map.1 h
      have hn : hasK A x = false := by
        rw [← Bool.not_eq_true, hasK_iff]
        rintro ⟨d, h3, h4⟩
        exact h2 d h3 h4
      exact List.mem_map.2 ⟨x, (mem_putAll hB hA x).2 (.inr ⟨hx, fun d hd => h2 d hd⟩), by rw [hn]; rfl⟩
  · intro h0
    obtain ⟨x, hx, rfl⟩ := List.mem_map.1 h0
    rcases (mem_putAll hB hA x).1 hx with h | ⟨h, h2⟩
    · rw [if_pos ((hasK_iff A x).2 ⟨x, h, rfl⟩)]
      exact .inl h
    · have hn : hasK A x = false := by
        rw [← Bool.not_eq_true, hasK_iff]
        rintro ⟨d, h3, h4⟩
        exact h2 d h3 h4
      rw [hn]
      exact .inr ⟨List.mem_map.2 ⟨x, h, rfl⟩, fun d hd => h2 d hd⟩
/-- what the law asks -/
structure Fs (m : Int) (A X Y : List Ent) : Prop where
  rise : Rise X
  len : Y.length = X.length
  y : ∀ i (h : i < X.length) (h' : i < Y.length), Y[i] = if hasK A X[i] then X[i] else shf m X[i]
  a : ∀ d ∈ A, ∀ x ∈ X, d.1 = x.1 → d = x
  short : Short X
theorem fs_of (m : Int) (a b : List Ent) (ha : Short a) (hb : Short b) : Fs m (merged [a]) (merged [a, b]) (merged [a, b.map (shf m)]) := by
  have e1 : merged [a, b] = putAll (risen b) (risen a) := by rw [show merged [a, b] = putAll (merged [b]) (risen a) from rfl, merged_one]
  have e2 : merged [a, b.map (shf m)] = putAll ((risen b).map (shf m)) (risen a) := by rw [show merged [a, b.map (shf m)] = putAll (merged [b.map (shf m)]) (risen a) from rfl, merged_one, risen_map]
  have hsa : Short (risen a) := fun e he => ha e ((risen_all a).2 e he)
  have hsb : Short (risen b) := fun e he => hb e ((risen_all b).2 e he)
  rw [e1, e2, merged_one, two_map m _ _ (risen_rise a) (risen_rise b)]
  refine ⟨putAll_rise (risen_rise b) _, by simp, fun i h h' => by simp, fun d hd x hx hk => ?_, putAll_short hsb hsa⟩
  exact rise_inj (putAll_rise (risen_rise b) _) ((mem_putAll (risen_rise b) (risen_rise a) d).2 (.inl hd)) hx hk
theorem rw_cells {w : World} {a : Option Addr} {c : Nat} {l : List Ent} (h : Rw w (.slice a l.length c) l) {k : Nat} (hk : k < l.length) : ∃ b off, a = some ⟨b, off, none⟩ ∧ b < w.heap.size ∧ w.cell? ⟨b, off + k * 2, none⟩ = some (.string l[k].1) ∧ w.cell? ⟨b, off + k * 2 + 1, none⟩ = some (.int .i64 l[k].2) := by
  obtain ⟨a', c', e, h⟩ := h
  cases e
  rcases h with h | ⟨b, off, rfl, hlt, hc⟩
  · subst h; simp at hk
  · exact ⟨b, off, rfl, hlt, (hc k hk).1, (hc k hk).2⟩
theorem len2 (a b : List Ent) : sumLen [a, b] = a.length + b.length := by simp [sumLen]
theorem mlen2 (a b : List Ent) : (merged [a, b]).length ≤ a.length + b.length := by have := merged_len [a, b]; simpa using this
theorem mlen1 (a : List Ent) : (merged [a]).length ≤ a.length := by have := merged_len [a]; simpa using this

set_option maxRecDepth 100000 in
set_option maxHeartbeats 16000000 in
theorem walk (v0 v1 : Value) (a b : List Ent) (m : Int) (ha : a.length ≤ 1048576) (hb : b.length ≤ 1048576) (hsa : Short a) (hsb : Short b) (w : World) (h0 : Rw w v0 a) (h1 : Rw w v1 b) :
    Calls Try.prog 8 #[v0, v1, .int .i64 m] w fun e w' => e = .returned (.bool true) ∧ Below w.heap.size w w' := by
  obtain ⟨i3, hi3, ht0, ht1, ht2⟩ := info_parts infoLRow
  have R0 : Hid (Rw w v0 a ∧ Rw w v1 b) := ⟨h0, h1⟩
  have hfs := fs_of m a b hsa hsb
  have m1 := mlen2 a b
  have m2 := mlen2 a (b.map (shf m))
  have m3 := mlen1 a
  rw [List.length_map] at m2
  obtain ⟨A, hA⟩ : ∃ A, A = merged [a] := ⟨_, rfl⟩
  obtain ⟨X, hX⟩ : ∃ X, X = merged [a, b] := ⟨_, rfl⟩
  obtain ⟨c, hc⟩ : ∃ c, c = b.map (shf m) := ⟨_, rfl⟩
  obtain ⟨Y, hY⟩ : ∃ Y, Y = merged [a, c] := ⟨_, rfl⟩
  have hcl : c.length = b.length := by rw [hc, List.length_map]
  rw [← hc, ← hY, ← hX, ← hA] at hfs
  rw [← hX] at m1
  rw [← hc, ← hY] at m2
  rw [← hA] at m3
  have HE : Hid (A = merged [a] ∧ X = merged [a, b] ∧ Y = merged [a, c] ∧ c = b.map (shf m)) := ⟨hA, hX, hY, hc⟩
  have HF : Hid (Fs m A X Y) := hfs
  have hyl := hfs.len
  clear hfs hA hX hY hc hsa hsb
  obtain ⟨a0, c0, rfl, -⟩ := h0
  obtain ⟨a1, c1, rfl, -⟩ := h1
  go_enter Try.func8, Try.ntmps8
  go_wp2_with fail
  refine (shown_any _).mono ?_
  rintro e w1 ⟨rfl, B1⟩
  have K1 : Hid (Below w.heap.size w w1) := B1
  clear B1
  go_wp2_with fail
  go_loopw [8, 9] (fun vo vk wz => ∃ k : Nat, vk = .int .i64 k ∧ k ≤ b.length ∧ wz.ownsRow w1.heap.size 32 2 vo k (flat (c.take k)) ∧ Below w1.heap.size w1 wz) (fun _ vk _ => b.length - (intOf vk).toNat)
  case atStart => exact ⟨0, rfl, Nat.zero_le _, World.ownsRow_nil _ _ _ _, Below.refl _ _⟩
  case round =>
    obtain ⟨k, rfl, hk, hO, hB⟩ := hrel
    obtain ⟨ao, co, rfl, -⟩ := row_slice hO
    by_cases hkl : k < b.length
    · have hki : (k : Int) < (b.length : Int) := by omega
      have hk0 : (0 : Int) ≤ (k : Int) := Int.natCast_nonneg _
      obtain ⟨g, o, rfl, hgl, m1, m2⟩ := rw_cells R0.out.2 hkl
      have hBw := btr K1.out hB
      have n1 := (hBw.cell (p := ⟨g, o + k * 2, none⟩) hgl).trans m1
      have n2 := (hBw.cell (p := ⟨g, o + k * 2 + 1, none⟩) hgl).trans m2
      have hzz := hB.size
      have hgl1 : g < w1.heap.size := Nat.lt_of_lt_of_le hgl K1.out.size
      have far : ∀ j, j < w1.heap.size → some j ≠ (Value.slice ao k co).ownBlock := fun j hj e => by have := (hO.lt j e.symm).1; omega
      have hck : k < c.length := by omega
      have hft : flat (c.take (k + 1)) = flat (c.take k) ++ [.string b[k].1, .int .i64 (IntKind.i64.wrap (b[k].2 + m))] := by
        rw [List.take_succ_eq_append_getElem hck, flat_append]
        have : c[k] = shf m b[k] := by simp [HE.out.2.2.2]
        rw [this]; rfl
      have HO : Hid (wr.ownsRow w1.heap.size 32 2 (.slice ao k co) k (flat (c.take k)) ∧ Below w1.heap.size w1 wr ∧ flat (c.take (k + 1)) = flat (c.take k) ++ [.string b[k].1, .int .i64 (IntKind.i64.wrap (b[k].2 + m))]) := ⟨hO, hB, hft⟩
      clear hO hB hft m1 m2 hBw
      generalize b[k].1 = y at *
      generalize b[k].2 = z at *
      go_wp2_with fail
      go_region_held3 (fun w' => w'.cell? ⟨g, o + k * 2, none⟩ = some (.string y) ∧ w'.cell? ⟨g, o + k * 2 + 1, none⟩ = some (.int .i64 z))
        (first
          | go_keep
          | (go_split_ands
             refine ⟨?_, ?_⟩
             · (rw [hgrow.cell_far _ (by simp; omega) (far _ hgl1)]; assumption)
             · (rw [hgrow.cell_far _ (by simp; omega) (far _ hgl1)]; assumption)))
        ((refine step_append_lies _ (by rfl) _ _ _ (by rfl) w1.heap.size 32 i3 _ 2 24 Try.underlying29 hi3 ht0 ht1 ht2 rfl (by omega) (.slice ao k co) k (flat (c.take k)) (by rfl) ((HO.out.1.alloc _).drew) ⟨wr.heap.size, 0, none⟩ 1 1 [.string y, .int .i64 (IntKind.i64.wrap (z + m))] (by rfl) (by rfl) (World.news_of_block (cs := #[.string y, .int .i64 (IntKind.i64.wrap (z + m))]) (t := 32) (fr := (0, 0)) (heap_alloc_new wr _)) (by simp [Value.oneCell']) (by omega) (by unfold maxLen; omega) (by omega) (by simp; omega) (wr.heap.size + 1) (by simp) ?_; intro gg cap w4 hown1 hgrow hat hlt))
      all_goals
        go_wp2
        refine ⟨⟨k + 1, by go_num, by omega, by rw [HO.out.2.2]; exact hown1, ((HO.out.2.1.alloc hzz _).drew).grown hgrow (by simp; omega) (fun k hk => (HO.out.1.lt k hk).1)⟩, by simp [intOf]; omega⟩
    · have hki : ¬ (k : Int) < (b.length : Int) := by omega
      obtain rfl : k = b.length := by omega
      rw [List.take_of_length_le (by omega)] at hO
      have KK : Hid (Below w.heap.size w wr ∧ Rw wr (.slice ao b.length co) c) := ⟨btr K1.out hB, by have := rw_of_row (l := c) (by rw [hcl]; exact hO); exact this⟩
      clear hO hB K1
      -- x
      go_wp2_with fail
      refine (over_f (R0.out.1.b KK.out.1) (by omega)).mono ?_
      rintro e w2 ⟨g2, b2, X2, rfl, S2, B2, -⟩
      have K2 : Hid (Below w.heap.size w w2 ∧ Rw w2 (.slice ao b.length co) c ∧ Sn w2 (.func (.func g2) #[] b2) a X2) := ⟨btr KK.out.1 B2, KK.out.2.b B2, S2⟩
      clear B2 S2 KK
      go_wp2_with fail
      refine (over_f (R0.out.2.b K2.out.1) (by omega)).mono ?_
      rintro e w3 ⟨g3, b3, X3, rfl, S3, B3, -⟩
      have K3 : Hid (Below w.heap.size w w3 ∧ Rw w3 (.slice ao b.length co) c ∧ Sn w3 (.func (.func g2) #[] b2) a X2 ∧ Sn w3 (.func (.func g3) #[] b3) b X3) := ⟨btr K2.out.1 B3, K2.out.2.1.b B3, K2.out.2.2.below B3, S3⟩
      clear B3 S3 K2
      go_wp2_with fail
      refine (Merge_f (rgs_two (heap_alloc_new w3 _) (K3.out.2.2.1.below (bal w3 _)) (K3.out.2.2.2.below (bal w3 _))) (by rw [len2]; omega) (by simp)).mono ?_
      rintro e w4 ⟨g4, b4, X4, rfl, S4, B4, -⟩
      rw [← HE.out.2.1] at S4
      have bb := btr (bal w3 _) B4
      have K4 : Hid (Below w.heap.size w w4 ∧ Rw w4 (.slice ao b.length co) c ∧ Sn w4 (.func (.func g4) #[] b4) X X4) := ⟨btr K3.out.1 bb, K3.out.2.1.b bb, S4⟩
      clear B4 S4 K3 bb
      go_wp2_with fail
      refine (all_f K4.out.2.2 (by omega)).mono ?_
      rintro e w5 ⟨a5, c5, rfl, R5, B5⟩
      have K5 : Hid (Below w.heap.size w w5 ∧ Rw w5 (.slice ao b.length co) c ∧ Rw w5 (.slice a5 X.length c5) X) := ⟨btr K4.out.1 B5, K4.out.2.1.b B5, R5⟩
      clear B5 R5 K4
      -- y
      go_wp2_with fail
      refine (over_f (R0.out.1.b K5.out.1) (by omega)).mono ?_
      rintro e w6 ⟨g6, b6, X6, rfl, S6, B6, -⟩
      have K6 : Hid (Below w.heap.size w w6 ∧ Rw w6 (.slice ao b.length co) c ∧ Rw w6 (.slice a5 X.length c5) X ∧ Sn w6 (.func (.func g6) #[] b6) a X6) := ⟨btr K5.out.1 B6, K5.out.2.1.b B6, K5.out.2.2.b B6, S6⟩
      clear B6 S6 K5
      go_wp2_with fail
      refine (over_f K6.out.2.1 (by omega)).mono ?_
      rintro e w7 ⟨g7, b7, X7, rfl, S7, B7, -⟩
      have K7 : Hid (Below w.heap.size w w7 ∧ Rw w7 (.slice a5 X.length c5) X ∧ Sn w7 (.func (.func g6) #[] b6) a X6 ∧ Sn w7 (.func (.func g7) #[] b7) c X7) := ⟨btr K6.out.1 B7, K6.out.2.2.1.b B7, K6.out.2.2.2.below B7, S7⟩
      clear B7 S7 K6
      go_wp2_with fail
      refine (Merge_f (rgs_two (heap_alloc_new w7 _) (K7.out.2.2.1.below (bal w7 _)) (K7.out.2.2.2.below (bal w7 _))) (by rw [len2]; omega) (by simp)).mono ?_
      rintro e w8 ⟨g8, b8, X8, rfl, S8, B8, -⟩
      rw [← HE.out.2.2.1] at S8
      have bb := btr (bal w7 _) B8
      have K8 : Hid (Below w.heap.size w w8 ∧ Rw w8 (.slice a5 X.length c5) X ∧ Sn w8 (.func (.func g8) #[] b8) Y X8) := ⟨btr K7.out.1 bb, K7.out.2.1.b bb, S8⟩
      clear B8 S8 K7 bb
      go_wp2_with fail
      refine (all_f K8.out.2.2 (by omega)).mono ?_
      rintro e w9 ⟨a9, c9, rfl, R9, B9⟩
      rw [hyl] at R9 ⊢
      have K9 : Hid (Below w.heap.size w w9 ∧ Rw w9 (.slice a5 X.length c5) X ∧ Rw w9 (.slice a9 X.length c9) Y) := ⟨btr K8.out.1 B9, K8.out.2.1.b B9, R9⟩
      clear B9 R9 K8
      -- top
      go_wp2_with fail
      refine (over_f (R0.out.1.b K9.out.1) (by omega)).mono ?_
      rintro e w10 ⟨g10, b10, X10, rfl, S10, B10, -⟩
      have K10 : Hid (Below w.heap.size w w10 ∧ Rw w10 (.slice a5 X.length c5) X ∧ Rw w10 (.slice a9 X.length c9) Y ∧ Sn w10 (.func (.func g10) #[] b10) a X10) := ⟨btr K9.out.1 B10, K9.out.2.1.b B10, K9.out.2.2.b B10, S10⟩
      clear B10 S10 K9
      go_wp2_with fail
      refine (Merge_f (rgs_one (heap_alloc_new w10 _) (K10.out.2.2.2.below (bal w10 _))) (by simp [sumLen]; omega) (by simp)).mono ?_
      rintro e w11 ⟨g11, b11, X11, rfl, S11, B11, -⟩
      rw [← HE.out.1] at S11
      have bb := btr (bal w10 _) B11
      have K11 : Hid (Below w.heap.size w w11 ∧ Rw w11 (.slice a5 X.length c5) X ∧ Rw w11 (.slice a9 X.length c9) Y ∧ Sn w11 (.func (.func g11) #[] b11) A X11) := ⟨btr K10.out.1 bb, K10.out.2.1.b bb, K10.out.2.2.1.b bb, S11⟩
      clear B11 S11 K10 bb
      go_wp2_with fail
      refine (all_f K11.out.2.2.2 (by omega)).mono ?_
      rintro e w12 ⟨a12, c12, rfl, R12, B12⟩
      have K12 : Hid (Below w.heap.size w w12 ∧ Rw w12 (.slice a5 X.length c5) X ∧ Rw w12 (.slice a9 X.length c9) Y ∧ Rw w12 (.slice a12 A.length c12) A) := ⟨btr K11.out.1 B12, K11.out.2.1.b B12, K11.out.2.2.1.b B12, R12⟩
      clear B12 R12 K11
      have RY : Hid (∀ i (h : i < X.length) (h' : i < Y.length), ∃ g o, a9 = some ⟨g, o, none⟩ ∧ g < w12.heap.size ∧ w12.cell? ⟨g, o + i * 2, none⟩ = some (.string Y[i].1) ∧ w12.cell? ⟨g, o + i * 2 + 1, none⟩ = some (.int .i64 Y[i].2)) := fun i _ h' => by
        have := K12.out.2.2.1
        rw [← hyl] at this
        exact rw_cells this h'
      go_wp2_with fail
      go_loopw [13] (fun vi wz => ∃ i : Nat, vi = .int .i64 i ∧ i ≤ X.length ∧ Below w12.heap.size w12 wz) (fun vi _ => X.length - (intOf vi).toNat)
      case atStart => exact ⟨0, rfl, Nat.zero_le _, Below.refl _ _⟩
      case round =>
        obtain ⟨i, rfl, hi, hB⟩ := hrel
        by_cases hl : i < X.length
        · have hli : (i : Int) < (X.length : Int) := by omega
          have hl' : i < Y.length := by omega
          obtain ⟨gx, ox, rfl, hgx, x1, x2⟩ := rw_cells K12.out.2.1 hl
          obtain ⟨gy, oy, rfl, hgy, y1, y2⟩ := RY.out i hl hl'
          have hYi := HF.out.y i hl hl'
          have hAi : ∀ d ∈ A, d.1 = X[i].1 → d = X[i] := fun d hd hk => HF.out.a d hd X[i] (List.getElem_mem hl) hk
          have hsx := HF.out.short _ (List.getElem_mem hl)
          have hprev : ∀ (h0 : 0 < i), lt (X[i - 1]'(by omega)).1 X[i].1 = true := fun h0 => HF.out.rise.get (by omega) hl (by omega)
          have HXI : Hid (Y[i] = (if hasK A X[i] then X[i] else shf m X[i]) ∧ (∀ d ∈ A, d.1 = X[i].1 → d = X[i]) ∧ w12.cell? ⟨gx, ox + i * 2, none⟩ = some (.string X[i].1) ∧ w12.cell? ⟨gx, ox + i * 2 + 1, none⟩ = some (.int .i64 X[i].2) ∧ w12.cell? ⟨gy, oy + i * 2, none⟩ = some (.string Y[i].1) ∧ w12.cell? ⟨gy, oy + i * 2 + 1, none⟩ = some (.int .i64 Y[i].2)) := ⟨hYi, hAi, x1, x2, y1, y2⟩
          have HPV : Hid (∀ (h0 : 0 < i), ∃ pk, w12.cell? ⟨gx, ox + (i - 1) * 2, none⟩ = some (.string pk) ∧ lt pk X[i].1 = true ∧ pk.size < 4611686018427387904) := fun h0 => by
            have hp : i - 1 < X.length := by omega
            obtain ⟨g', o', e, _, z1, _⟩ := rw_cells K12.out.2.1 hp
            cases e
            exact ⟨_, z1, hprev h0, HF.out.short _ (List.getElem_mem hp)⟩
          have HB0 : Hid (Below w12.heap.size w12 wr) := hB
          clear hYi hAi x1 x2 y1 y2 hprev hB
          generalize X[i] = x at *
          generalize Y[i] = y at *
          go_wp2_with fail
          go_loopw [14, 15] (fun vf vk wz => ∃ k : Nat, vk = .int .i64 k ∧ k ≤ A.length ∧ vf = .bool (hasK (A.take k) x) ∧ Below w12.heap.size w12 wz) (fun _ vk _ => A.length - (intOf vk).toNat)
          case atStart => exact ⟨0, rfl, Nat.zero_le _, rfl, HB0.out⟩
          case round =>
            obtain ⟨k, rfl, hk, rfl, hB⟩ := hrel
            by_cases hkl : k < A.length
            · have hki : (k : Int) < (A.length : Int) := by omega
              obtain ⟨ga, oa, rfl, hga, z1, z2⟩ := rw_cells K12.out.2.2.2 hkl
              have u1 := (hB.cell (p := ⟨ga, oa + k * 2, none⟩) hga).trans z1
              have u2 := (hB.cell (p := ⟨ga, oa + k * 2 + 1, none⟩) hga).trans z2
              have u3 := (hB.cell (p := ⟨gx, ox + i * 2, none⟩) hgx).trans HXI.out.2.2.1
              have u4 := (hB.cell (p := ⟨gx, ox + i * 2 + 1, none⟩) hgx).trans HXI.out.2.2.2.1
              have HT : Hid _ := hasK_take hkl x
              have hmem := List.getElem_mem hkl
              have HBk : Hid (Below w12.heap.size w12 wr) := hB
              clear z1 z2 hB
              cases hq : (A[k].1.toList == x.1.toList) with
              | true =>
                have he := HXI.out.2.1 _ hmem ((keq_iff _ _).1 hq)
                rw [he] at u1 u2
                clear hmem
                go_wp2_with fail
                go_quiet (fail)
                all_goals go_wp2_with fail
                go_quiet (fail)
                all_goals go_wp2_with fail
                go_roundw
                case rel => exact ⟨k + 1, by simp, by omega, by rw [HT.out, hq]; simp, below_drewN HBk.out _⟩
                case measure => simp [intOf]; omega
              | false =>
                clear hmem
                generalize A[k].1 = dk at *
                go_wp2_with fail
                go_quiet (fail)
                all_goals go_wp2_with fail
                go_roundw
                case rel => exact ⟨k + 1, by simp, by omega, by rw [HT.out, hq]; simp, below_drewN HBk.out _⟩
                case measure => simp [intOf]; omega
            · have hki : ¬ (k : Int) < (A.length : Int) := by omega
              obtain rfl : k = A.length := by omega
              rw [List.take_length]
              have u3 := (hB.cell (p := ⟨gx, ox + i * 2, none⟩) hgx).trans HXI.out.2.2.1
              have u4 := (hB.cell (p := ⟨gx, ox + i * 2 + 1, none⟩) hgx).trans HXI.out.2.2.2.1
              have u5 := (hB.cell (p := ⟨gy, oy + i * 2, none⟩) hgy).trans HXI.out.2.2.2.2.1
              have u6 := (hB.cell (p := ⟨gy, oy + i * 2 + 1, none⟩) hgy).trans HXI.out.2.2.2.2.2
              have hy := HXI.out.1
              have HBk : Hid (Below w12.heap.size w12 wr) := hB
              clear hB
              cases hf : hasK A x with
              | true =>
                rw [hf, if_pos rfl] at hy
                replace hy := hy.symm
                subst hy
                go_wp2_with fail
                go_quiet (fail)
                all_goals go_wp2_with fail
                by_cases hi0 : 0 < i
                · obtain ⟨pk, p1, p2, p3⟩ := HPV.out hi0
                  have q1 := (HBk.out.cell (p := ⟨gx, ox + (i - 1) * 2, none⟩) hgx).trans p1
                  have hL := Less_any pk x.1 p3 hsx
                  rw [p2] at hL
                  have hii : (0 : Int) < (i : Int) := by omega
                  have hw1 : IntKind.i64.wrap ((i : Int) - 1) = (i : Int) - 1 := by rw [IntKind.wrap_i64]; omega
                  have hge : (0 : Int) ≤ (i : Int) - 1 := by omega
                  have hle : (i : Int) - 1 < (X.length : Int) := by omega
                  have hg1 : (1 : Int) ≤ (i : Int) := by omega
                  have hg2 : (i : Int) ≤ (X.length : Int) := by omega
                  have hg3 : 1 ≤ i := by omega
                  have hg4 : i ≤ X.length := by omega
                  have htn : ((i : Int) - 1).toNat = i - 1 := by omega
                  go_region_held3 (fun w' => w'.cell? ⟨gx, ox + (i - 1) * 2, none⟩ = some (.string pk) ∧ w'.cell? ⟨gx, ox + i * 2, none⟩ = some (.string x.1)) (go_keep) (first
                    | (go_at_call 18; refine (hL _).mono ?_; rintro e w7 ⟨rfl, B7⟩; have r0 := (B7.cell (p := ⟨gx, ox + (i - 1) * 2, none⟩) (World.block_lt_of_cell? _ _ q1)).trans q1; have r1 := (B7.cell (p := ⟨gx, ox + i * 2, none⟩) (World.block_lt_of_cell? _ _ u3)).trans u3))
                  all_goals
                    go_wp2
                    go_roundw
                    case rel => exact ⟨i + 1, by simp, by omega, (below_drewN HBk.out _).trans (B7.mono HBk.out.size)⟩
                    case measure => simp [intOf]; omega
                · have hii : ¬ (0 : Int) < (i : Int) := by omega
                  have hid : decide ((0 : Int) < (i : Int)) = false := by simp; omega
                  have hid2 : decide (0 < i) = false := by simp; omega
                  go_quiet (fail)
                  all_goals go_wp2_with fail
                  go_roundw
                  case rel => exact ⟨i + 1, by simp, by omega, below_drewN HBk.out _⟩
                  case measure => simp [intOf]; omega
              | false =>
                rw [hf] at hy
                simp only [Bool.false_eq_true, if_false, shf] at hy
                subst hy
                dsimp only at u5 u6
                go_wp2_with fail
                go_quiet (fail)
                all_goals go_wp2_with fail
                by_cases hi0 : 0 < i
                · obtain ⟨pk, p1, p2, p3⟩ := HPV.out hi0
                  have q1 := (HBk.out.cell (p := ⟨gx, ox + (i - 1) * 2, none⟩) hgx).trans p1
                  have hL := Less_any pk x.1 p3 hsx
                  rw [p2] at hL
                  have hii : (0 : Int) < (i : Int) := by omega
                  have hw1 : IntKind.i64.wrap ((i : Int) - 1) = (i : Int) - 1 := by rw [IntKind.wrap_i64]; omega
                  have hge : (0 : Int) ≤ (i : Int) - 1 := by omega
                  have hle : (i : Int) - 1 < (X.length : Int) := by omega
                  have hg1 : (1 : Int) ≤ (i : Int) := by omega
                  have hg2 : (i : Int) ≤ (X.length : Int) := by omega
                  have hg3 : 1 ≤ i := by omega
                  have hg4 : i ≤ X.length := by omega
                  have htn : ((i : Int) - 1).toNat = i - 1 := by omega
                  go_region_held3 (fun w' => w'.cell? ⟨gx, ox + (i - 1) * 2, none⟩ = some (.string pk) ∧ w'.cell? ⟨gx, ox + i * 2, none⟩ = some (.string x.1)) (go_keep) (first
                    | (go_at_call 18; refine (hL _).mono ?_; rintro e w7 ⟨rfl, B7⟩; have r0 := (B7.cell (p := ⟨gx, ox + (i - 1) * 2, none⟩) (World.block_lt_of_cell? _ _ q1)).trans q1; have r1 := (B7.cell (p := ⟨gx, ox + i * 2, none⟩) (World.block_lt_of_cell? _ _ u3)).trans u3))
                  all_goals
                    go_wp2
                    go_roundw
                    case rel => exact ⟨i + 1, by simp, by omega, (below_drewN HBk.out _).trans (B7.mono HBk.out.size)⟩
                    case measure => simp [intOf]; omega
                · have hii : ¬ (0 : Int) < (i : Int) := by omega
                  have hid : decide ((0 : Int) < (i : Int)) = false := by simp; omega
                  have hid2 : decide (0 < i) = false := by simp; omega
                  go_quiet (fail)
                  all_goals go_wp2_with fail
                  go_roundw
                  case rel => exact ⟨i + 1, by simp, by omega, below_drewN HBk.out _⟩
                  case measure => simp [intOf]; omega
        · have hli : ¬ (i : Int) < (X.length : Int) := by omega
          have HBk : Hid (Below w12.heap.size w12 wr) := hB
          clear hB
          go_wp2_with fail
          go_ret
          exact ⟨rfl, btr K12.out.1 HBk.out⟩

set_option maxRecDepth 100000 in
theorem lifted (os : Os) (started : os.Started) (H : Type) (enc : TypeId × Value → H) (F : Stop.Interp) :
    ReturnsInHanded {} Try.checked os 8 .any ((Rows.OpenSpec.upto Rows.mergeFirstSpec).pre6 enc Try.prog Try.f8 Rows.mergeFirstUptoRow.domain false) (((Rows.OpenSpec.upto Rows.mergeFirstSpec).at F).post enc Try.prog Try.f8 false true false false) := by
  refine returnsInHanded_of_cond (C := Try.checked) (s := Rows.OpenSpec.upto Rows.mergeFirstSpec) (k := Rows.uptoSmall) rfl own started (by kernel_rfl) Try.func8
    (OpenSpec.witness (enc := enc) (C := Try.checked) (s := Rows.OpenSpec.upto Rows.mergeFirstSpec) (k := Rows.uptoSmall) rfl false ⟨#[], #[.slice none 0 0, .slice none 0 0, .int .i64 0], []⟩ 8 (by kernel_rfl) (by kernel_rfl) (by kernel_rfl)
      (x := ([.nil, .nil, .lit (.int .i64 0)], [], [])) (by kernel_rfl) rfl (by kernel_rfl)) ?_
  intro W base args ds gs before hval0 hW _ hk _
  have hval : ∀ (j : Nat) t v, Try.f8.params[j]? = some t → args[j]? = some v → Value.okWide Try.prog W .any base t v := hval0
  have hW' := hW
  obtain ⟨p, q, hA0, hV, rfl, hfz, hnd⟩ := hW
  have hA : DataW.TrodAll enc Try.prog W 0 (fun _ => true) true Try.f8.params.toList args.toList ds p := hA0
  rw [Try.params8] at hA hval
  obtain ⟨v0, vs0, d0, ds0, p0, q0, hargs, rfl, rfl, h0, r0⟩ := trodAll_cons hA
  obtain ⟨v1, vs1, d1, ds1, p1, q1, rfl, rfl, rfl, h1, r1⟩ := trodAll_cons r0
  obtain ⟨v2, vs2, d2, ds2, p2, q2, rfl, rfl, rfl, h2, r2⟩ := trodAll_cons r1
  obtain ⟨rfl, rfl, rfl⟩ := trodAll_nil r2
  obtain rfl : args = #[v0, v1, v2] := by cases args; simp_all
  obtain ⟨rfl, rfl⟩ := trodVars_none hV
  have k0 := h0
  have k1 := h1
  have lt0 : ∀ x ∈ p0, x.block < W.heap.size := by obtain ⟨m, hm⟩ := k0; exact DataW.trod_lt m _ _ _ hm
  have lt1 : ∀ x ∈ p1, x.block < W.heap.size := by obtain ⟨m, hm⟩ := k1; exact DataW.trod_lt m _ _ _ hm
  obtain ⟨la, ha, hal, hak⟩ := openRows (hval 0 29 v0 rfl rfl) h0
  obtain ⟨lb, hb, hbl, hbk⟩ := openRows (hval 1 29 v1 rfl rfl) h1
  obtain ⟨a2, rfl, rfl, rfl, w2⟩ := open_int Try.underlying3 (hval 2 3 v2 rfl rfl) h2
  have hsmall : Rows.uptoBulkAll ([d0, d1, DataW.lit (.int .i64 a2)] ++ []) ≤ 1048576 := of_decide_eq_true hk
  simp only [List.append_nil, Rows.uptoBulkAll] at hsmall
  clear hA0 hval0
  refine (walk v0 v1 la lb a2 (by omega) (by omega) (fun e he => by have := hak e he; omega) (fun e he => by have := hbk e he; omega) W ha hb).mono fun e W' ⟨he, bel⟩ => ?_
  subst he
  exact ⟨_, rfl, _, _, _, [], _, [], hW', trodAll_mk1 (shut_bool Try.underlying4 _), (trodAll_cons_mk (Below.trod laidOut (by kernel_rfl) (of_decide_eq_true (by kernel_rfl)) k0 bel lt0) (trodAll_cons_mk (Below.trod laidOut (by kernel_rfl) (of_decide_eq_true (by kernel_rfl)) k1 bel lt1) (trodAll_cons_mk (shut_int Try.underlying3 w2) trodAll_mk0))), rfl, bel.frame _, fun h => by cases h⟩

theorem proved : Rows.MergeFirstUptoSaid :=
  OpenClaim.holds_of_cond 8 Try.f8 rfl rfl rfl rfl rfl rfl rfl ⟨rfl, rfl, rfl, rfl, rfl⟩ rfl rfl rfl rfl rfl (by kernel_rfl) Try.func8 (by kernel_rfl)
    (of_decide_eq_true (by kernel_rfl)) (by unfold Func.isWrapper; first | (rw [if_pos (by decide +kernel)]; kernel_rfl) | (rw [if_neg (by decide +kernel)]; exact ⟨rfl, rfl⟩))
    (fun os started H enc _ F => lifted os started H enc F)
end Go.Proofs.Ytlhijbgdccejbaa.mergeFirst

/-
  Proved: for every slice of rows and every key RunFinds answers true, and changes nothing that was there before the call: a key is found just if it was put in, with its cell; a range from it on begins with it, or with the next one. No condition.
-/
import Derived.Test.YtiflkgpdomippabH7Args
import Derived.Test.YtiflkgpdomippabRLess
import Derived.Sort.QuietIn
namespace Go.Proofs.Ytiflkgpdomippab.runFinds
open Go.ChangeShapes Go.WideShapes Go.ChangeAt Go.RowKit Go.Shelf Go.Sort
open Go.ChangeMaps (open_string shut_string)
open Go.Lib hiding intOf
attribute [local go_sem] Oper.semAt_some

variable (l : List R7) (k : ByteArray) (w : World)
def Goal (v : Value) : Prop := Calls Try.prog 3 #[v, .string k] w fun r w' => r = .returned (.bool true) ∧ Below w.heap.size w w'

theorem toList_inj {a b : ByteArray} (h : a.toList = b.toList) : a = b := by
  rw [← S_of a, ← S_of b, ← Lib.toList_data, ← Lib.toList_data, h]

/-- the two boxes of the beginning -/
def two : World := (w.alloc (.cells #[.string k] 9)).alloc (.cells #[.bool false] 4)
theorem two_size : (two k w).heap.size = w.heap.size + 1 + 1 := by simp [two]
theorem two_below : Below w.heap.size w (two k w) := ((Below.refl _ w).alloc (Nat.le_refl _) _).alloc (by simp) _
theorem two3 : Bx (two k w) w.heap.size (.string k) 9 := (Below.heap_alloc _ _ _ (by simp)).trans (heap_alloc_new w _)
theorem two4 : Bx (two k w) (w.heap.size + 1) (.bool false) 4 := by
  have := heap_alloc_new (w.alloc (.cells #[.string k] 9)) (.cells #[.bool false] 4)
  rwa [World.size_alloc] at this

/-- what stands in it behind Get (q: memory's size then) -/
structure Fd (w W : World) (k : ByteArray) (q : Nat) (s : ByteArray) (g is : Bool) : Prop where
  b3 : Bx W w.heap.size (.string k) 9
  b4 : Bx W (w.heap.size + 1) (.bool false) 4
  bc : W.heap[q]? = some (.cells #[.string s, .bool g] 31)
  bi : Bx W (q + 1) (.bool is) 4
  lo : w.heap.size + 2 ≤ q
  bw : Below w.heap.size w W
section
variable {w W W' : World} {k : ByteArray} {q : Nat} {s : ByteArray} {g is : Bool}
theorem Fd.below (h : Fd w W k q s g is) (hb : Below W.heap.size W W') : Fd w W' k q s g is :=
  ⟨h.b3.below hb h.b3.lt, h.b4.below hb h.b4.lt, (hb.block _ (Array.getElem?_eq_some_iff.1 h.bc).1).trans h.bc, h.bi.below hb h.bi.lt, h.lo, h.bw.trans (hb.mono h.bw.size)⟩
theorem Fd.c0 (h : Fd w W k q s g is) : W.cell? ⟨q, 0, none⟩ = some (.string s) := by simp [World.cell?, h.bc]
theorem Fd.c1 (h : Fd w W k q s g is) : W.cell? ⟨q, 1, none⟩ = some (.bool g) := by simp [World.cell?, h.bc]
end

set_option maxHeartbeats 4000000 in
set_option maxRecDepth 100000 in
theorem walkA {v : Value} (hv : Rw7 w v l) (hn : l.length * 40 ≤ 140737488355328) (hs : Sm7 l) (h1 : (bld 100 l).2 ≠ 0) : Goal k w v := by
  have HB1 : ∀ (w2 : World), Below w.heap.size w w2 → Calls Try.prog 5 #[.int .i64 100, v] w2 _ := fun w2 hb => built_any 100 (hv.up hb) hn hs
  obtain ⟨va, cap, rfl, -⟩ := hv
  unfold Goal
  generalize (bld 100 l).1 = s1 at *
  generalize (bld 100 l).2 = e1 at *
  have hne : ((e1 : Int) != 0) = true := by rw [bne_iff_ne]; omega
  have HW : Hid (∀ w1, Below (two k w).heap.size (two k w) w1 → Below w.heap.size w w1 ∧ w1.cell? ⟨w.heap.size + 1, 0, none⟩ = some (.bool false) ∧ w1.frozen? ⟨w.heap.size + 1, 0, none⟩ = false ∧ Bx w1 (w.heap.size + 1) (.bool false) 4) := fun w1 hb => by
    have := (two4 k w).below hb (two4 k w).lt
    exact ⟨bel_of (two_below k w) hb (Nat.le_refl _), this.cell, this.fro, this⟩
  clear h1
  go_enter Try.func3, Try.ntmps3
  go_wp2_with (first
    | (go_at_call 4; refine (shown_any _).mono ?_; rintro e w1 ⟨rfl, b1⟩; have B1 : Hid (Below (two k w).heap.size (two k w) w1) := b1; clear b1)
    | (go_at_call 5; refine (HB1 w1 (HW.out w1 B1.out).1).mono ?_; rintro e w2 ⟨rfl, b2⟩; (have B2 : Hid (Below (two k w).heap.size (two k w) w2) := bel_of B1.out b2 (Nat.le_refl _)); obtain ⟨y0, y1, y2, y3⟩ := HW.out w2 B2.out; have Y : Hid (Below w.heap.size w w2 ∧ Bx w2 (w.heap.size + 1) (.bool false) 4) := ⟨y0, y3⟩; clear b2 y0 y3))
  have p6 := (one0 Y.out.2 (.bool true)).cell
  exact bodyPost_ret (v := .bool true) (by simp [results, Try.results3, go_sem, p6]) rfl ⟨rfl, Y.out.1.setCell (by simp) _⟩

set_option maxHeartbeats 8000000 in
set_option maxRecDepth 100000 in
theorem walkB {v : Value} (hv : Rw7 w v l) (hn : l.length * 40 ≤ 140737488355328) (hs : Sm7 l) (hk : k.size < 4611686018427387904) (h1 : (bld 100 l).2 = 0) : Goal k w v := by
  have HB1 : ∀ (w2 : World), Below w.heap.size w w2 → Calls Try.prog 5 #[.int .i64 100, v] w2 _ := fun w2 hb => built_any 100 (hv.up hb) hn hs
  have HV : Hid (Rw7 w v l) := hv
  obtain ⟨va, cap, rfl, -⟩ := hv
  unfold Goal
  obtain ⟨bs, p1, p2, p3, p4, p5, -, -, p8⟩ := bld_ok h1
  have HMY : Hid (∀ x ∈ l, may x = 0) := flt_may p8
  have HRI : Hid (Rise (ks l)) := flt_rise (by rw [← p4]; exact p2.2.2.1)
  have HO1 : ∀ w, _ := fun w => Open_any (rn bs) (by omega) w
  have HX1 : Hid (∀ w e w', OpR w (rn bs) e w' → ∃ r v b1 b2, e = .returned (.tuple #[.pointer (some ⟨r, 0, none⟩), .int .i64 0]) ∧ Ru w' w.heap.size r l bs.length v b1 b2) := fun w e w' h => h.elim (fun ⟨bs', r, v, b1, b2, _, g2, g3, g4, _⟩ => ⟨r, v, b1, b2, g3, by rw [← p4, p2.one g2]; exact g4⟩) (fun h => absurd ⟨p3, _, p2⟩ h.1)
  rw [p1, h1] at HB1
  obtain ⟨c1, g, is, hg⟩ : ∃ c1 g is, get7 l k = ((c1, g), is) := ⟨_, _, _, rfl⟩
  have HGE : Hid (∀ w2 B r n b1 b2 u, Ru w2 B r l n u b1 b2 → Calls Try.prog 7 #[.pointer (some ⟨r, 0, none⟩), .string k] w2 fun e w' => e = .returned (.tuple #[.agg #[.string (S c1), .bool g], .bool is]) ∧ Below w2.heap.size w2 w') := fun w2 B r n b1 b2 u hu => by
    have := Get_any hu k
    rw [hg] at this
    exact this
  have HG : Hid (get7 l k = ((c1, g), is)) := hg
  obtain ⟨s, HSS⟩ : ∃ s, Hid (S c1 = s) := ⟨_, show _ = _ from rfl⟩
  rw [HSS.out] at HGE
  generalize rn bs = s1 at *
  have HW : Hid (∀ w1, Below (two k w).heap.size (two k w) w1 → Below w.heap.size w w1 ∧ w1.cell? ⟨w.heap.size, 0, none⟩ = some (.string k)) := fun w1 hb => by
    have := (two3 k w).below hb (two3 k w).lt
    exact ⟨bel_of (two_below k w) hb (Nat.le_refl _), this.cell⟩
  clear p1 p2 p3 p4 p5 p8 h1 hg
  refine (callsIn_wide (n := 9)).1 ?_
  refine callsIn_of_wp_marks Try.func3 rfl trivial ?_ rfl
  simp only [Try.ntmps3, List.size_toArray, List.length_cons, List.length_nil, Nat.reduceAdd, Nat.reduceSub, Array.replicate_succ, Array.replicate_zero, List.push_toArray, List.append_toArray, List.nil_append, List.cons_append]
  gi_wp2_with (first
    | (refine ⟨trivial, ?_⟩; gi_at_call 4; refine (callsIn_wide.2 (shown_any _)).mono ?_; rintro e w1 ⟨rfl, b1⟩; have B1 : Hid (Below (two k w).heap.size (two k w) w1) := b1; clear b1)
    | (refine ⟨trivial, ?_⟩; gi_at_call 5; refine (callsIn_wide.2 (HB1 w1 (HW.out w1 B1.out).1)).mono ?_; rintro e w2 ⟨rfl, b2⟩; (have B2 : Hid (Below (two k w).heap.size (two k w) w2) := bel_of B1.out b2 (Nat.le_refl _)); clear b2 HB1)
    | (refine ⟨trivial, ?_⟩; gi_at_call 6; refine (callsIn_wide.2 (HO1 w2)).mono ?_; rintro e w3 ⟨b3, op⟩; obtain ⟨r, u, x1, x2, he, hu⟩ := HX1.out w2 e w3 op; subst he; (have B3 : Hid (Below (two k w).heap.size (two k w) w3) := bel_of B2.out b3 (Nat.le_refl _)); have U3 : Hid (Ru w3 w2.heap.size r l bs.length u x1 x2) := hu; obtain ⟨-, y1⟩ := HW.out w3 B3.out; clear b3 op hu HO1 HX1)
    | (refine ⟨trivial, ?_⟩; gi_at_call 7; refine (callsIn_wide.2 (HGE.out _ _ _ _ _ _ _ U3.out)).mono ?_; rintro e w4 ⟨rfl, b4⟩; (have B4 : Hid (Below (two k w).heap.size (two k w) w4) := bel_of B3.out b4 (Nat.le_refl _)); (have U4 : Hid (Ru w4 w2.heap.size r l bs.length u x1 x2) := U3.out.below b4); clear b4 HGE))
  obtain ⟨W5, hW5⟩ : ∃ W5, W5 = (w4.alloc (.cells #[.string s, .bool g] 31)).alloc (.cells #[.bool is] 4) := ⟨_, rfl⟩
  rw [← hW5]
  have hB5 : Below w4.heap.size w4 W5 := by rw [hW5]; exact ((Below.refl _ w4).alloc (Nat.le_refl _) _).alloc (by simp) _
  have hB25 := bel_of B4.out hB5 (Nat.le_refl _)
  have hw4 : w.heap.size + 2 ≤ w4.heap.size := by have := B4.out.size; rw [two_size] at this; omega
  have HF5 : Hid (Fd w W5 k w4.heap.size s g is) := by
    refine ⟨(two3 k w).below hB25 (two3 k w).lt, (two4 k w).below hB25 (two4 k w).lt, ?_, ?_, hw4, bel_of (two_below k w) hB25 (Nat.le_refl _)⟩
    · rw [hW5]; exact (Below.heap_alloc _ _ _ (by simp)).trans (heap_alloc_new w4 _)
    · rw [hW5]
      have := heap_alloc_new (w4.alloc (.cells #[.string s, .bool g] 31)) (.cells #[.bool is] 4)
      rwa [World.size_alloc] at this
  have HU5 : Hid (Ru W5 w2.heap.size r l bs.length u x1 x2) := U4.out.below hB5
  obtain ⟨q, HQ⟩ : ∃ q, Hid (w4.heap.size = q) := ⟨_, show _ = _ from rfl⟩
  rw [HQ.out] at HF5 ⊢
  clear hB5 hB25 hw4 hW5 B1 B2 B3 B4 U3 U4 y1
  gi_loopw [12, 13] (fun vf vi wr => ∃ (i : Nat) (ff : Bool), i ≤ l.length ∧ vf = .bool ff ∧ vi = .int .i64 (i : Int) ∧ Hid ((ff = true ↔ is7 l k = true ∧ at7 l k < i) ∧ Fd w wr k q s g is ∧ Ru wr w2.heap.size r l bs.length u x1 x2)) (fun _ vi _ => l.length - (intOf vi).toNat)
  case atStart => exact ⟨0, false, Nat.zero_le _, rfl, rfl, by simp, HF5.out, HU5.out⟩
  case round =>
    obtain ⟨i, ff, hi, rfl, rfl, HI⟩ := hrel
    clear HF5 HU5
    by_cases hlt : i < l.length
    · have hlt' : (i : Int) < (l.length : Int) := by omega
      have hi0 : (0 : Int) ≤ (i : Int) := by omega
      obtain ⟨vb, off, rfl, hbl, hcell⟩ : ∃ b off, va = some ⟨b, off, none⟩ ∧ b < w.heap.size ∧ ∀ (j : Nat) (h : j < l.length), w.cell? ⟨b, off + j * 3, none⟩ = some (.string (S l[j].1)) ∧ w.cell? ⟨b, off + j * 3 + 1, none⟩ = some (.string (S l[j].2.1)) ∧ w.cell? ⟨b, off + j * 3 + 2, none⟩ = some (.bool l[j].2.2) := by
        obtain ⟨a', c', e, h⟩ := HV.out
        cases e
        rcases h with h | h
        · rw [h] at hlt; simp at hlt
        · exact h
      obtain ⟨hff, hF, hU⟩ := HI.out
      obtain ⟨c0, c2, c3⟩ := hcell i hlt
      have m0 := (hF.bw.cell (p := ⟨vb, off + i * 3, none⟩) hbl).trans c0
      have m1 := (hF.bw.cell (p := ⟨vb, off + i * 3 + 1, none⟩) hbl).trans c2
      have m2 := (hF.bw.cell (p := ⟨vb, off + i * 3 + 2, none⟩) hbl).trans c3
      have z3 := hF.b3.cell
      have z0 := hF.c0
      have z1 := hF.c1
      obtain ⟨x, HX⟩ : ∃ x, Hid (l[i] = x) := ⟨_, show _ = _ from rfl⟩
      rw [HX.out] at m0 m1 m2
      clear hcell c0 c2 c3 hF hU
      by_cases hit : S x.1 = k
      · have hgm := get7_mem HRI.out hlt
        have ham := at7_mem HRI.out hlt
        rw [HX.out, hit] at hgm ham
        have hgg := HG.out
        rw [hgm] at hgg
        have e1 : x.2.1 = c1 := congrArg (fun z => z.1.1) hgg
        have e2 : x.2.2 = g := congrArg (fun z => z.1.2) hgg
        have e3 : true = is := congrArg (fun z => z.2) hgg
        have his : is7 l k = true := by
          cases hh : is7 l k with
          | true => rfl
          | false => have := congrArg (fun z => z.2) (get7_no hh); rw [hgm] at this; cases this
        have HE : Hid (is7 l k = true ∧ at7 l k = i) := ⟨his, ham⟩
        rw [e1, HSS.out] at m1
        rw [e2] at m2
        rw [hit] at m0
        clear hgm ham hgg e1 e2 e3 his hff
        gi_wp2
        gi_quiet (fail)
        gi_wp2
        gi_quiet (fail)
        gi_wp2
        go_roundw
        case rel => exact ⟨i + 1, true, by omega, rfl, by simp, by simp [HE.out], HI.out.2.1.below ⟨rfl, rfl, rfl, Nat.le_refl _, fun _ _ => rfl⟩, HI.out.2.2.below ⟨rfl, rfl, rfl, Nat.le_refl _, fun _ _ => rfl⟩⟩
        case measure => simp [intOf]; omega
      · have hne1 : ¬ (S x.1).toList = k.toList := fun e => hit (toList_inj e)
        have hne2 : ((S x.1).toList == k.toList) = false := by rw [beq_eq_false_iff_ne]; exact hne1
        have HE : Hid ((ff = true ↔ is7 l k = true ∧ at7 l k < i + 1)) := by
          show _ ↔ _
          rw [hff]
          refine ⟨fun h => ⟨h.1, by omega⟩, fun h => ⟨h.1, ?_⟩⟩
          obtain ⟨hp, hp1, -⟩ := is7_lt h.1
          rcases Nat.lt_or_ge (at7 l k) i with h2 | h2
          · exact h2
          · exfalso
            have h3 : at7 l k = i := by omega
            apply hit
            rw [← HX.out, ← hp1]
            congr 2
            simp only [h3]
        clear hff
        gi_wp2
        gi_quiet (fail)
        gi_wp2
        go_roundw
        case rel => exact ⟨i + 1, ff, by omega, rfl, by simp, HE.out, HI.out.2.1.below ⟨rfl, rfl, rfl, Nat.le_refl _, fun _ _ => rfl⟩, HI.out.2.2.below ⟨rfl, rfl, rfl, Nat.le_refl _, fun _ _ => rfl⟩⟩
        case measure => simp [intOf]; omega
    · obtain rfl : i = l.length := by omega
      have hlt' : ¬ (l.length : Int) < (l.length : Int) := by omega
      obtain ⟨hff, hF, hU⟩ := HI.out
      have his : is7 l k = is := by
        have h2 := HG.out
        cases hh : is7 l k with
        | false => rw [get7_no hh] at h2; exact congrArg (fun z => z.2) h2
        | true =>
          obtain ⟨_, _, h3⟩ := is7_lt hh
          rw [h3] at h2
          exact congrArg (fun z => z.2) h2
      have hfi : ff = is := by
        rw [← his]
        cases hh : is7 l k with
        | false =>
          cases hf : ff with
          | false => rfl
          | true => have := (hff.1 hf).1; rw [hh] at this; cases this
        | true =>
          obtain ⟨hp, _⟩ := is7_lt hh
          exact hff.2 ⟨hh, hp⟩
      subst hfi
      have HIS : Hid (is7 l k = ff) := his
      have R : Hid (Fd w (wr.alloc (.cells #[.int .i64 0] 3)) k q s g ff ∧ Bx (wr.alloc (.cells #[.int .i64 0] 3)) wr.heap.size (.int .i64 0) 3 ∧ q + 2 ≤ wr.heap.size ∧ Calls Try.prog 8 #[.pointer (some ⟨r, 0, none⟩), .string k] (wr.alloc (.cells #[.int .i64 0] 3)) fun e w' => e = .returned (frv (wr.heap.size + 1)) ∧ Sq encc w' (frv (wr.heap.size + 1)) (l.drop (at7 l k)) (fun j => ruf r x1 x2 u j ∨ j = wr.heap.size + 1 ∨ j = wr.heap.size + 1 + 1) ∧ Below (wr.alloc (.cells #[.int .i64 0] 3)).heap.size (wr.alloc (.cells #[.int .i64 0] 3)) w') := by
        have hb := (Below.refl wr.heap.size wr).alloc (Nat.le_refl _) (.cells #[.int .i64 0] 3)
        refine ⟨hF.below hb, Bx.new wr _ _, by have := hF.bi.lt; omega, ?_⟩
        have := From_any (hU.below hb) k
        simp only [World.size_alloc] at this ⊢
        exact this
      have z3 := R.out.1.b3.cell
      have HUR : Hid (Ru wr w2.heap.size r l bs.length u x1 x2) := hU
      clear hff hF hU his HI
      gi_wp2_with (refine ⟨trivial, ?_⟩; gi_at_call 8; refine (callsIn_wide.2 R.out.2.2.2).mono ?_; rintro e w6 ⟨rfl, hS6, hb6⟩; have HS6 : Hid (Sq encc w6 (frv (wr.heap.size + 1)) (l.drop (at7 l k)) (fun j => ruf r x1 x2 u j ∨ j = wr.heap.size + 1 ∨ j = wr.heap.size + 1 + 1)) := hS6; (have T6 : Hid (Fd w w6 k q s g ff ∧ Bx w6 wr.heap.size (.int .i64 0) 3 ∧ wr.heap.size + 1 ≤ w6.heap.size ∧ q + 2 ≤ wr.heap.size) := ⟨R.out.1.below hb6, R.out.2.1.below hb6 R.out.2.1.lt, by have := hb6.size; simpa using this, R.out.2.2.1⟩); clear hS6 hb6; unfold frv)
      have hS := HS6.out
      obtain ⟨p, HP⟩ : ∃ p, Hid (at7 l k = p) := ⟨_, show _ = _ from rfl⟩
      have hpl := at7_le l k
      rw [HP.out] at hS hpl
      unfold frv at hS
      have HNY : Hid (∀ j, ruf r x1 x2 u j → j < wr.heap.size) := fun j hj => HUR.out.lt hj
      refine range_kc (r1 := 15) (r2 := 16) rfl hS (fun s' pre W => Fd w W k q s g ff ∧ Bx W wr.heap.size (.int .i64 (pre.length : Int)) 3 ∧ w6.heap.size + 2 ≤ s' ∧ s' ≤ W.heap.size) (fun _ _ _ _ => False) ?hI ?hIx ?hIs ?start ?assign ?body ?done ?stop
      case hI =>
        rintro s' pre A B ⟨h1, h0, h2, h3⟩ hs
        have t6 := T6.out
        have hlo := h1.lo
        exact ⟨⟨hs.bx h1.b3 (.inl (by omega)), hs.bx h1.b4 (.inl (by omega)), hs.obj h1.bc (by rintro ⟨h, -⟩; omega), hs.bx h1.bi (.inl (by omega)), h1.lo, hs.below h1.bw (Nat.le_refl _) (by omega)⟩, hs.bx h0 (.inl (by omega)), h2, Nat.le_trans h3 hs.size⟩
      case hIx => rintro s' c pre A B h; exact h.elim
      case hIs => exact fun s' pre W h => h.2.2.2
      case start => exact fun W0 hB h0 => ⟨T6.out.1.below hB, T6.out.2.1.below hB T6.out.2.1.lt, h0, Nat.le_refl _⟩
      case assign =>
        intro mm l' x W K hK
        simp only [cbx, cv] at hK ⊢
        gi_wp2
        exact hK
      case stop => rintro s' c pre W h; exact h.elim
      case body =>
        rintro mm l' s' c pre x Wp W ⟨h1, h0, h2, h3⟩ hsb hcb hcc hnx
        have t6 := T6.out
        have hlo := h1.lo
        have hFW : Fd w W k q s g ff := ⟨hsb.bx h1.b3 (.inl (by omega)), hsb.bx h1.b4 (.inl (by omega)), hsb.obj h1.bc (by rintro ⟨h, -⟩; omega), hsb.bx h1.bi (.inl (by omega)), h1.lo, hsb.below h1.bw (Nat.le_refl _) (by omega)⟩
        have hnW := hsb.bx h0 (.inl (by omega))
        have hq : p + pre.length < l.length := by
          obtain ⟨t, ht⟩ := hnx
          have := congrArg List.length ht
          simp only [List.length_append, List.length_drop, List.length_singleton] at this
          omega
        have hx : l[p + pre.length] = x := by
          obtain ⟨t, ht⟩ := hnx
          have h5 : (l.drop p)[pre.length]? = some x := by rw [← ht]; simp
          rw [List.getElem?_drop] at h5
          rw [List.getElem?_eq_getElem hq] at h5
          exact Option.some.inj h5
        have hls : lt (S x.1) k = false := by
          cases hh : lt (S x.1) k with
          | false => rfl
          | true =>
            rw [← hx] at hh
            have := (at7_lt HRI.out hq).1 hh
            rw [HP.out] at this
            omega
        have HL := fun W => Less_quiet (S x.1) k (by rw [S_size]; have := (may_len (HMY.out x (by rw [← hx]; exact List.getElem_mem hq))).1; omega) hk W
        rw [hls] at HL
        have hx0 : W.cell? ⟨c, 0, none⟩ = some (.string (S x.2.1)) := by simp [World.cell?, hcc, cbx]
        have hx1 : W.cell? ⟨c, 1, none⟩ = some (.bool x.2.2) := by simp [World.cell?, hcc, cbx]
        obtain ⟨m, HM⟩ : ∃ m, Hid (pre.length = m) := ⟨_, show _ = _ from rfl⟩
        rw [HM.out] at hnW
        have hml : m < 1048576 := by have := HUR.out.le; have := HM.out; omega
        have HPX : Hid (m = 0 → ∃ hp : p < l.length, l[p] = x) := fun h => by
          have h7 := HM.out
          have h8 : p + pre.length = p := by omega
          refine ⟨by omega, ?_⟩
          rw [← hx]
          simp only [h8]
        have y3 := hFW.b3.cell
        have yc0 := hFW.c0
        have yc1 := hFW.c1
        have yi := hFW.bi.cell
        have yn := hnW.cell
        have yf := hnW.fro
        have HTW : Hid (Fd w W k q s g ff ∧ Bx W wr.heap.size (.int .i64 (m : Int)) 3 ∧ w6.heap.size + 2 ≤ s' ∧ s' ≤ Wp.heap.size ∧ Wp.heap.size ≤ W.heap.size) := ⟨hFW, hnW, h2, h3, hsb.size⟩
        simp only [List.setIfInBounds_toArray, List.set_cons_succ, List.set_cons_zero, cv]
        clear h1 h0 hsb hcc hnx hFW hnW hx hls t6 hlo hq
        by_cases hm0 : m = 0
        · obtain ⟨hp, hpx⟩ := HPX.out hm0
          have hip := is7_of (l := l) (k := k) (by rw [HP.out]; exact hp)
          have hpx' : l[at7 l k]'(by rw [HP.out]; exact hp) = x := by simp only [HP.out]; exact hpx
          rw [hpx', HIS.out] at hip
          subst hm0
          cases ff with
          | true =>
            have hit : S x.1 = k := of_decide_eq_true hip.symm
            obtain ⟨_, _, h3⟩ := is7_lt HIS.out
            have hgg := HG.out
            rw [h3, hpx'] at hgg
            have e1 : x.2.1 = c1 := congrArg (fun z => z.1.1) hgg
            have e2 : x.2.2 = g := congrArg (fun z => z.1.2) hgg
            rw [e1, HSS.out] at hx0 ⊢
            rw [e2] at hx1 ⊢
            rw [hit] at HL ⊢
            clear hip hpx hpx' h3 hgg e1 e2 hit hp
            gi_wp2
            refine ⟨trivial, ?_⟩
            refine And.intro (fun h => by simp [Fence.wide] at h) ?_
            refine CallsIn.mono (show CallsIn Fence.wide _ _ _ _ _ _ from callsIn_wide.2 (HL _)) ?_
            rintro e w8 ⟨rfl, nq, rfl⟩
            gi_wp2
            obtain ⟨t1, t2, t3, t4, t5⟩ := HTW.out
            have t6 := T6.out
            have h0 := Ch.refl (fun k => k = wr.heap.size) W
            have c0 : Ch (fun k => k = wr.heap.size) W (W.drewN nq) := ⟨h0.os, h0.tape, h0.output, h0.size, h0.block⟩
            have c1 : Ch (fun k => k = wr.heap.size) W ((W.drewN nq).setCell ⟨wr.heap.size, 0, none⟩ (.int .i64 1)) := c0.setCell _ _ (fun _ => rfl)
            have hm1 : (pre ++ [x]).length = 0 + 1 := by rw [List.length_append, HM.out]; rfl
            refine ⟨KeepsFrom.of_ch c1 (fun k (e : k = wr.heap.size) => by subst e; exact ⟨_, t2, rfl⟩), Kq.of_ch c1 (fun k hk (e : k = wr.heap.size) => ?_), ?_⟩
            · subst e
              rcases hk with (h | h | h) | h | h
              · have := HNY.out _ h; omega
              · omega
              · omega
              · omega
              · omega
            · simp only [hm1]
              have hlo := t1.lo
              refine ⟨⟨t1.b3.ch c1 (by omega), t1.b4.ch c1 (by omega), c1.obj t1.bc (by omega), t1.bi.ch c1 (by omega), t1.lo, ?_⟩, ?_, t3, by have := c1.size; omega⟩
              · have hb : Below w.heap.size w (W.drewN nq) := ⟨t1.bw.os, t1.bw.tape, t1.bw.output, t1.bw.size, t1.bw.block⟩
                exact hb.setCell (by simp; omega) _
              · have t2' : Bx (W.drewN nq) wr.heap.size (.int .i64 ((0 : Nat) : Int)) 3 := t2
                exact one0 t2' _
          | false =>
            have hit : ¬ S x.1 = k := of_decide_eq_false hip.symm
            have hne1 : ¬ (S x.1).toList = k.toList := fun e => hit (toList_inj e)
            have hne2 : ((S x.1).toList == k.toList) = false := by rw [beq_eq_false_iff_ne]; exact hne1
            clear hip hpx hpx' hp
            gi_wp2
            refine ⟨trivial, ?_⟩
            refine And.intro (fun h => by simp [Fence.wide] at h) ?_
            refine CallsIn.mono (show CallsIn Fence.wide _ _ _ _ _ _ from callsIn_wide.2 (HL _)) ?_
            rintro e w8 ⟨rfl, nq, rfl⟩
            gi_wp2
            obtain ⟨t1, t2, t3, t4, t5⟩ := HTW.out
            have t6 := T6.out
            have h0 := Ch.refl (fun k => k = wr.heap.size) W
            have c0 : Ch (fun k => k = wr.heap.size) W (W.drewN nq) := ⟨h0.os, h0.tape, h0.output, h0.size, h0.block⟩
            have c1 : Ch (fun k => k = wr.heap.size) W ((W.drewN nq).setCell ⟨wr.heap.size, 0, none⟩ (.int .i64 1)) := c0.setCell _ _ (fun _ => rfl)
            have hm1 : (pre ++ [x]).length = 0 + 1 := by rw [List.length_append, HM.out]; rfl
            refine ⟨KeepsFrom.of_ch c1 (fun k (e : k = wr.heap.size) => by subst e; exact ⟨_, t2, rfl⟩), Kq.of_ch c1 (fun k hk (e : k = wr.heap.size) => ?_), ?_⟩
            · subst e
              rcases hk with (h | h | h) | h | h
              · have := HNY.out _ h; omega
              · omega
              · omega
              · omega
              · omega
            · simp only [hm1]
              have hlo := t1.lo
              refine ⟨⟨t1.b3.ch c1 (by omega), t1.b4.ch c1 (by omega), c1.obj t1.bc (by omega), t1.bi.ch c1 (by omega), t1.lo, ?_⟩, ?_, t3, by have := c1.size; omega⟩
              · have hb : Below w.heap.size w (W.drewN nq) := ⟨t1.bw.os, t1.bw.tape, t1.bw.output, t1.bw.size, t1.bw.block⟩
                exact hb.setCell (by simp; omega) _
              · have t2' : Bx (W.drewN nq) wr.heap.size (.int .i64 ((0 : Nat) : Int)) 3 := t2
                exact one0 t2' _
        · have hmi : ¬ (m : Int) = 0 := by omega
          have hmb : ((m : Int) == 0) = false := by rw [beq_eq_false_iff_ne]; exact hmi
          gi_wp2
          refine ⟨trivial, ?_⟩
          refine And.intro (fun h => by simp [Fence.wide] at h) ?_
          refine CallsIn.mono (show CallsIn Fence.wide _ _ _ _ _ _ from callsIn_wide.2 (HL _)) ?_
          rintro e w8 ⟨rfl, nq, rfl⟩
          gi_wp2
          obtain ⟨t1, t2, t3, t4, t5⟩ := HTW.out
          have t6 := T6.out
          have h0 := Ch.refl (fun k => k = wr.heap.size) W
          have c0 : Ch (fun k => k = wr.heap.size) W (W.drewN nq) := ⟨h0.os, h0.tape, h0.output, h0.size, h0.block⟩
          have c1 : Ch (fun k => k = wr.heap.size) W ((W.drewN nq).setCell ⟨wr.heap.size, 0, none⟩ (.int .i64 ((m : Int) + 1))) := c0.setCell _ _ (fun _ => rfl)
          have hm1 : (pre ++ [x]).length = m + 1 := by rw [List.length_append, HM.out]; rfl
          refine ⟨KeepsFrom.of_ch c1 (fun k (e : k = wr.heap.size) => by subst e; exact ⟨_, t2, rfl⟩), Kq.of_ch c1 (fun k hk (e : k = wr.heap.size) => ?_), ?_⟩
          · subst e
            rcases hk with (h | h | h) | h | h
            · have := HNY.out _ h; omega
            · omega
            · omega
            · omega
            · omega
          · simp only [hm1]
            have hlo := t1.lo
            refine ⟨⟨t1.b3.ch c1 (by omega), t1.b4.ch c1 (by omega), c1.obj t1.bc (by omega), t1.bi.ch c1 (by omega), t1.lo, ?_⟩, ?_, t3, by have := c1.size; omega⟩
            · have hb : Below w.heap.size w (W.drewN nq) := ⟨t1.bw.os, t1.bw.tape, t1.bw.output, t1.bw.size, t1.bw.block⟩
              exact hb.setCell (by simp; omega) _
            · have t2' : Bx (W.drewN nq) wr.heap.size (.int .i64 (m : Int)) 3 := t2
              exact one0 t2' _
      case done =>
        rintro s' W ⟨h1, h0, h2, h3⟩ hD
        have t6 := T6.out
        have hln : (((l.drop p).length : Nat) : Int) ≤ (l.length : Int) := by rw [List.length_drop]; omega
        generalize (l.drop p).length = m at *
        have HSG : Hid (ff = false → s = ⟨#[]⟩ ∧ g = false) := fun hf => by
          have hgg := HG.out
          rw [get7_no (by rw [HIS.out]; exact hf)] at hgg
          have e1 : [] = c1 := congrArg (fun z => z.1.1) hgg
          have e2 : false = g := congrArg (fun z => z.1.2) hgg
          exact ⟨by rw [← HSS.out, ← e1]; rfl, e2.symm⟩
        have k3 := h1.b4.cell
        have k3f := h1.b4.fro
        have kc0 := h1.c0
        have kc1 := h1.c1
        have ki := h1.bi.cell
        have kn := h0.cell
        have hbt : Hid (Fd w W k q s g ff ∧ w6.heap.size + 2 ≤ s' ∧ w.heap.size + 3 ≤ w6.heap.size) := ⟨h1, h2, by have := h1.lo; omega⟩
        have HD : Hid _ := hD
        clear h1 h0 h2 h3 hD t6
        cases ff with
        | true =>
          gi_wp2
          obtain ⟨h1, h2, h3⟩ := hbt.out
          have c1 : Ch (fun k => k = w.heap.size + 1) W (W.setCell ⟨w.heap.size + 1, 0, none⟩ (.bool true)) := (Ch.refl _ W).setCell _ _ (fun _ => rfl)
          have hd1 := c1.obj HD.out (by omega)
          have n6 : Bx ((W.setCell ⟨w.heap.size + 1, 0, none⟩ (.bool true)).putObj w6.heap.size (.deferred none)) (w.heap.size + 1) (.bool true) 4 := (World.putObj_heap_other (by omega)).trans (one0 h1.b4 _)
          have p6 := n6.cell
          refine ⟨by simp, .inl ⟨_, _, rfl, takes hd1, ?_⟩⟩
          refine ⟨.bool true, ?_, rfl, below_take (h1.bw.setCell (by simp) _) (Nat.le_refl _) (by omega) _⟩
          simp [results, Try.results3, go_sem, p6]
        | false =>
          obtain ⟨e1, e2⟩ := HSG.out rfl
          rw [e1] at kc0
          rw [e2] at kc1
          gi_wp2
          obtain ⟨h1, h2, h3⟩ := hbt.out
          have c1 : Ch (fun k => k = w.heap.size + 1) W (W.setCell ⟨w.heap.size + 1, 0, none⟩ (.bool true)) := (Ch.refl _ W).setCell _ _ (fun _ => rfl)
          have hd1 := c1.obj HD.out (by omega)
          have n6 : Bx ((W.setCell ⟨w.heap.size + 1, 0, none⟩ (.bool true)).putObj w6.heap.size (.deferred none)) (w.heap.size + 1) (.bool true) 4 := (World.putObj_heap_other (by omega)).trans (one0 h1.b4 _)
          have p6 := n6.cell
          refine ⟨by simp, .inl ⟨_, _, rfl, takes hd1, ?_⟩⟩
          refine ⟨.bool true, ?_, rfl, below_take (h1.bw.setCell (by simp) _) (Nat.le_refl _) (by omega) _⟩
          simp [results, Try.results3, go_sem, p6]

theorem walk {v : Value} (hv : Rw7 w v l) (hn : l.length * 40 ≤ 140737488355328) (hs : Sm7 l) (hk : k.size < 4611686018427387904) : Goal k w v := by
  by_cases h1 : (bld 100 l).2 = 0
  · exact walkB l k w hv hn hs hk h1
  · exact walkA l k w hv hn hs h1

set_option maxRecDepth 100000 in
theorem lifted (os : Os) (started : os.Started) (H : Type) (enc : TypeId × Value → H) :
    ReturnsInHanded {} Try.checked os 3 .any (Rows.runFindsSpec.pre6 enc Try.prog Try.f3 Rows.runFindsRow.domain false) (Rows.runFindsSpec.post enc Try.prog Try.f3 false true false false) := by
  refine returnsInHanded_of_change_sized (C := Try.checked) own started (by kernel_rfl) Try.func3
    (ChangeSpec.witness6 (enc := enc) (C := Try.checked) false ⟨#[], #[.slice none 0 0, .string .empty], []⟩ 8 (by kernel_rfl) (by kernel_rfl) (by kernel_rfl) (by kernel_rfl)) ?_
  intro W base args ds gs before hval0 hW hcnd hsz0 _
  have hval : ∀ (j : Nat) t v, Try.f3.params[j]? = some t → args[j]? = some v → Value.okWide Try.prog W .any base t v := hval0
  have hsz : (DataW.weightsEach Try.prog (Try.f3.params.toList ++ Rows.runFindsSpec.plain.varTypes Try.prog) (ds ++ gs)).all (· ≤ reachBytes) = true := hsz0
  have hW' := hW
  obtain ⟨p, q, hA0, hV, rfl, hfz, hnd⟩ := hW
  have hA : DataW.TrodAll enc Try.prog W 0 (fun _ => true) true Try.f3.params.toList args.toList ds p := hA0
  rw [Try.params3] at hA hval hsz
  obtain ⟨v0, vs0, d0, ds0, p0, q0, hargs, rfl, rfl, h0, r0⟩ := trodAll_cons hA
  obtain ⟨v1, vs1, d1, ds1, p1, q1, rfl, rfl, rfl, h1, r1⟩ := trodAll_cons r0
  obtain ⟨rfl, rfl, rfl⟩ := trodAll_nil r1
  obtain rfl : args = #[v0, v1] := by cases args; simp_all
  obtain ⟨rfl, rfl⟩ := trodVars_none hV
  have k0 := h0
  have lt0 : ∀ x ∈ p0, x.block < W.heap.size := by obtain ⟨m, hm⟩ := k0; exact DataW.trod_lt m _ _ _ hm
  obtain ⟨a1, rfl, rfl, rfl, w1⟩ := open_string Try.underlying9 (hval 1 9 v1 rfl rfl) h1
  obtain ⟨l, hl, hl2, -⟩ := openRows7 (hval 0 22 v0 rfl rfl) h0
  obtain ⟨hn, hs⟩ := hl2 (sized_at hsz (i := 0) rfl rfl)
  have hk : a1.size < 4611686018427387904 := by
    have h2 := of_decide_eq_true (List.all_eq_true.1 (sized_at hsz (i := 1) rfl rfl) a1.data.toList.length (by simp [DataW.weights]))
    simp only [reachBytes] at h2
    have h3 : a1.data.toList.length = a1.size := by rw [Array.length_toList]; rfl
    omega
  clear hA0 hval0
  refine (walk l a1 W hl hn hs hk).mono fun e W' ⟨he, bel⟩ => ?_
  subst he
  exact ⟨_, rfl, _, _, _, [], _, [], hW', trodAll_mk1 (shut_bool Try.underlying4 _), (trodAll_cons_mk (Below.trod laidOut (by kernel_rfl) (of_decide_eq_true (by kernel_rfl)) k0 bel lt0) (trodAll_cons_mk (shut_string Try.underlying9 w1) trodAll_mk0)), rfl, bel.frame _, fun h => by cases h⟩

theorem proved : Rows.RunFindsSaid :=
  OpenClaim.holds_of_wide 3 Try.f3 rfl rfl rfl rfl rfl rfl rfl ⟨rfl, rfl, rfl, rfl, rfl⟩ rfl rfl rfl rfl rfl (by kernel_rfl) Try.func3 (by kernel_rfl)
    (of_decide_eq_true (by kernel_rfl)) (by unfold Func.isWrapper; first | (rw [if_pos (by decide +kernel)]; kernel_rfl) | (rw [if_neg (by decide +kernel)]; exact ⟨rfl, rfl⟩))
    (fun os started H enc _ => lifted os started H enc)
end Go.Proofs.Ytiflkgpdomippab.runFinds

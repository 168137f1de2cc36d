/-
  Proved: for every two block sizes and every slice of rows RunSizes answers true, and changes nothing that was there before the call: two runs of the same keys, of blocks of other sizes, tell the same. No condition.
-/
import Derived.Test.YtiflkgpdomippaaH7Args
namespace Go.Proofs.Ytiflkgpdomippaa.runSizes
open Go.ChangeShapes Go.WideShapes Go.ChangeAt Go.RowKit
open Go.ChangeMaps (open_string shut_string)

variable (a b : Int) (l : List R7) (w : World)
def Goal (v : Value) : Prop := Calls Try.prog 6 #[.int .i64 a, .int .i64 b, v] w fun r w' => r = .returned (.bool true) ∧ Below w.heap.size w w'

set_option maxHeartbeats 4000000 in
set_option maxRecDepth 100000 in
theorem walkA {v : Value} (hv : Rw7 w v l) (hn : l.length * 40 ≤ 140737488355328) (hs : Sm7 l) (h1 : (bld a l).2 = 0) (h2 : (bld b l).2 = 0) : Goal a b w v := by
  have HBU : Hid (∀ (k : Int) (w2 : World), Below w.heap.size w w2 → Calls Try.prog 10 #[.int .i64 k, v] w2 _) := fun k w2 hb => built_any k (hv.up hb) hn hs
  have HV : Hid (Rw7 w v l) := hv
  obtain ⟨va, cap, rfl, -⟩ := hv
  unfold Goal
  obtain ⟨bs, p1, p2, p3, p4, p5, -⟩ := bld_ok h1
  obtain ⟨cs, q1, q2, q3, q4, q5, -⟩ := bld_ok h2
  have HRI : Hid (Rise (ks l)) := flt_rise (by rw [← p4]; exact p2.2.2.1)
  have HO1 : ∀ w, _ := fun w => Open_any (rn bs) (by omega) w
  have HO2 : ∀ w, _ := fun w => Open_any (rn cs) (by omega) w
  have HX1 : Hid (∀ w e w', OpR w (rn bs) e w' → ∃ r v b1 b2, e = .returned (.tuple #[.pointer (some ⟨r, 0, none⟩), .int .i64 0]) ∧ Ru w' w.heap.size r l bs.length v b1 b2) := fun w e w' h => h.elim (fun ⟨bs', r, v, b1, b2, _, g2, g3, g4, _⟩ => ⟨r, v, b1, b2, g3, by rw [← p4, p2.one g2]; exact g4⟩) (fun h => absurd ⟨p3, _, p2⟩ h.1)
  have HX2 : Hid (∀ w e w', OpR w (rn cs) e w' → ∃ r v b1 b2, e = .returned (.tuple #[.pointer (some ⟨r, 0, none⟩), .int .i64 0]) ∧ Ru w' w.heap.size r l cs.length v b1 b2) := fun w e w' h => h.elim (fun ⟨bs', r, v, b1, b2, _, g2, g3, g4, _⟩ => ⟨r, v, b1, b2, g3, by rw [← q4, q2.one g2]; exact g4⟩) (fun h => absurd ⟨q3, _, q2⟩ h.1)
  have HB1 := HBU.out a
  have HB2 := HBU.out b
  rw [p1, h1] at HB1
  rw [q1, h2] at HB2
  clear p1 p2 p3 p4 p5 q1 q2 q3 q4 q5 h1 h2 HBU
  go_enter Try.func6, Try.ntmps6
  go_wp2_with (first
    | (go_at_call 9; refine (shown_any _).mono ?_; rintro e w1 ⟨rfl, b1⟩; have B1 : Hid (Below w.heap.size w w1) := b1; clear b1)
    | (go_at_call 10; refine (HB1 w1 B1.out).mono ?_; rintro e w2 ⟨rfl, b2⟩; (have B2 : Hid (Below w.heap.size w w2) := bel_of B1.out b2 (Nat.le_refl _)); clear b2 HB1)
    | (go_at_call 10; refine (HB2 w2 B2.out).mono ?_; rintro e w3 ⟨rfl, b3⟩; (have B3 : Hid (Below w.heap.size w w3) := bel_of B2.out b3 (Nat.le_refl _)); clear b3)
    | (go_at_call 12; refine (HO1 w3).mono ?_; rintro e w4 ⟨b4, op⟩; obtain ⟨r, v, x1, x2, he, hu⟩ := HX1.out w3 e w4 op; subst he; (have B4 : Hid (Below w.heap.size w w4) := bel_of B3.out b4 (Nat.le_refl _)); have U4 : Hid (Ru w4 w3.heap.size r l bs.length v x1 x2) := hu; clear b4 op hu HO1 HX1)
    | (go_at_call 12; refine (HO2 w4).mono ?_; rintro e w5 ⟨b5, op⟩; obtain ⟨s, u, y1, y2, he, hu⟩ := HX2.out w4 e w5 op; subst he; (have B5 : Hid (Below w.heap.size w w5) := bel_of B4.out b5 (Nat.le_refl _)); have V5 : Hid (Ru w5 w4.heap.size s l cs.length u y1 y2) := hu; (have U5 : Hid (Ru w5 w3.heap.size r l bs.length v x1 x2) := U4.out.below b5); clear b5 op hu HO2 HX2)
    | (go_at_call_of 16 (Value.pointer (some ⟨r, 0, none⟩)); refine (Len_any U5.out).mono ?_; rintro e w6 ⟨rfl, hw6⟩; subst hw6)
    | (go_at_call 16; refine (Len_any V5.out).mono ?_; rintro e w6 ⟨rfl, hw6⟩; subst hw6))
  go_loopw [16] (fun vi wr => ∃ i : Nat, i ≤ l.length ∧ vi = .int .i64 (i : Int) ∧ Hid (Below w.heap.size w wr ∧ Ru wr w3.heap.size r l bs.length v x1 x2 ∧ Ru wr w4.heap.size s l cs.length u y1 y2)) (fun vi _ => l.length - (intOf vi).toNat)
  case atStart => exact ⟨0, Nat.zero_le _, rfl, B5.out, U5.out, V5.out⟩
  case round =>
    obtain ⟨i, hi, rfl, HI⟩ := hrel
    clear B1 B2 B3 B4 B5 U4 U5 V5
    by_cases hlt : i < l.length
    · have hlt' : (i : Int) < (l.length : Int) := by omega
      have hi0 : (0 : Int) ≤ (i : Int) := by omega
      obtain ⟨bw, hU, hV⟩ := HI.out
      obtain ⟨vb, off, rfl, hbl, hcell⟩ : ∃ b off, va = some ⟨b, off, none⟩ ∧ b < w.heap.size ∧ ∀ (j : Nat) (h : j < l.length), w.cell? ⟨b, off + j * 3, none⟩ = some (.string (S l[j].1)) ∧ w.cell? ⟨b, off + j * 3 + 1, none⟩ = some (.string (S l[j].2.1)) ∧ w.cell? ⟨b, off + j * 3 + 2, none⟩ = some (.bool l[j].2.2) := by
        obtain ⟨a', c', e, h⟩ := HV.out
        cases e
        rcases h with h | h
        · rw [h] at hlt; simp at hlt
        · exact h
      obtain ⟨c0, c1, c2⟩ := hcell i hlt
      have m0 := (bw.cell (p := ⟨vb, off + i * 3, none⟩) hbl).trans c0
      have HM : Hid (∀ w1, Below w.heap.size w w1 → w1.cell? ⟨vb, off + i * 3, none⟩ = some (.string (S l[i].1)) ∧ w1.cell? ⟨vb, off + i * 3 + 1, none⟩ = some (.string (S l[i].2.1)) ∧ w1.cell? ⟨vb, off + i * 3 + 2, none⟩ = some (.bool l[i].2.2)) := fun w1 h1 => ⟨(h1.cell (p := ⟨vb, off + i * 3, none⟩) hbl).trans c0, (h1.cell (p := ⟨vb, off + i * 3 + 1, none⟩) hbl).trans c1, (h1.cell (p := ⟨vb, off + i * 3 + 2, none⟩) hbl).trans c2⟩
      have hg := get7_mem HRI.out hlt
      have HG1 := Get_any hU (S l[i].1)
      have HG2 : ∀ w2, Ru w2 w4.heap.size s l cs.length u y1 y2 → _ := fun w2 h => Get_any h (S l[i].1)
      rw [hg] at HG1 HG2
      simp only [cv] at HG1 HG2
      obtain ⟨x, HX⟩ : ∃ x, Hid (l[i] = x) := ⟨_, show _ = _ from rfl⟩
      rw [HX.out] at m0 HM HG1 HG2
      clear hg hcell c0 c1 c2 bw hU hV
      go_wp2_with (first
        | (go_at_call 15; refine HG1.mono ?_; rintro e w7 ⟨rfl, b7⟩; clear HG1; (have HI7 : Hid (Below w.heap.size w (w7.alloc (.cells #[.string (S x.2.1), .bool x.2.2] 37)) ∧ Ru (w7.alloc (.cells #[.string (S x.2.1), .bool x.2.2] 37)) w3.heap.size r l bs.length v x1 x2 ∧ Ru (w7.alloc (.cells #[.string (S x.2.1), .bool x.2.2] 37)) w4.heap.size s l cs.length u y1 y2) := (by obtain ⟨z1, z2, z3⟩ := HI.out; have B : Below w7.heap.size w7 (w7.alloc (.cells #[.string (S x.2.1), .bool x.2.2] 37)) := (Below.refl _ w7).alloc (Nat.le_refl _) _; exact ⟨bel_of (bel_of z1 b7 (Nat.le_refl _)) B (Nat.le_refl _), (z2.below b7).below B, (z3.below b7).below B⟩)); have n0 := (HM.out _ HI7.out.1).1; (have Z7 : Hid ((w7.alloc (.cells #[.string (S x.2.1), .bool x.2.2] 37)).heap[w7.heap.size]? = some (.cells #[.string (S x.2.1), .bool x.2.2] 37)) := heap_alloc_new w7 _); clear b7)
        | (go_at_call 15; refine (HG2 _ HI7.out.2.2).mono ?_; rintro e w8 ⟨rfl, b8⟩; (have HI8 : Hid (Below w.heap.size w (w8.alloc (.cells #[.string (S x.2.1), .bool x.2.2] 37)) ∧ Ru (w8.alloc (.cells #[.string (S x.2.1), .bool x.2.2] 37)) w3.heap.size r l bs.length v x1 x2 ∧ Ru (w8.alloc (.cells #[.string (S x.2.1), .bool x.2.2] 37)) w4.heap.size s l cs.length u y1 y2) := (by obtain ⟨z1, z2, z3⟩ := HI7.out; have B : Below w8.heap.size w8 (w8.alloc (.cells #[.string (S x.2.1), .bool x.2.2] 37)) := (Below.refl _ w8).alloc (Nat.le_refl _) _; exact ⟨bel_of (bel_of z1 b8 (Nat.le_refl _)) B (Nat.le_refl _), (z2.below b8).below B, (z3.below b8).below B⟩)); obtain ⟨-, n1, n2⟩ := HM.out _ HI8.out.1; have hs8 := b8.size; (have z8 := ((Below.refl _ w8).alloc (Nat.le_refl _) (.cells #[.string (S x.2.1), .bool x.2.2] 37)).block w7.heap.size (by simp at hs8; omega) |>.trans ((b8.block w7.heap.size (by simp)).trans Z7.out)); (have k0 : (w8.alloc (.cells #[.string (S x.2.1), .bool x.2.2] 37)).cell? ⟨w7.heap.size, 0, none⟩ = some (.string (S x.2.1)) := (by simp only [World.cell?, z8]; rfl)); (have k1 : (w8.alloc (.cells #[.string (S x.2.1), .bool x.2.2] 37)).cell? ⟨w7.heap.size, 1, none⟩ = some (.bool x.2.2) := (by simp only [World.cell?, z8]; rfl)); clear b8 z8))
      go_region
      all_goals
        go_wp2
        go_roundw
        case rel => exact ⟨i + 1, by omega, by simp, HI8.out.1.drew, HI8.out.2.1.kq ⟨Nat.le_refl _, fun _ _ _ h _ => h⟩, HI8.out.2.2.kq ⟨Nat.le_refl _, fun _ _ _ h _ => h⟩⟩
        case measure => simp [intOf]; omega
    · obtain rfl : i = l.length := by omega
      have hlt' : ¬ (l.length : Int) < (l.length : Int) := by omega
      go_wp2
      go_ret
      exact ⟨rfl, HI.out.1⟩

set_option maxHeartbeats 4000000 in
set_option maxRecDepth 100000 in
theorem walkB {v : Value} (hv : Rw7 w v l) (hn : l.length * 40 ≤ 140737488355328) (hs : Sm7 l) (h : (bld a l).2 ≠ 0 ∨ ((bld a l).2 = 0 ∧ (bld b l).2 ≠ 0)) : Goal a b w v := by
  have HBU : Hid (∀ (k : Int) (w2 : World), Below w.heap.size w w2 → Calls Try.prog 10 #[.int .i64 k, v] w2 _) := fun k w2 hb => built_any k (hv.up hb) hn hs
  obtain ⟨va, cap, rfl, -⟩ := hv
  unfold Goal
  have HB1 := HBU.out a
  have HB2 := HBU.out b
  generalize (bld a l).1 = s1 at *
  generalize (bld a l).2 = e1 at *
  generalize (bld b l).1 = s2 at *
  generalize (bld b l).2 = e2 at *
  have hne : ((e1 : Int) != 0) = true ∨ (e1 = 0 ∧ ((e2 : Int) != 0) = true) := by
    rcases h with h | ⟨h, h'⟩
    · left; rw [bne_iff_ne]; omega
    · right; exact ⟨h, by rw [bne_iff_ne]; omega⟩
  clear HBU h
  rcases hne with hne | ⟨rfl, hne⟩
  all_goals
    go_enter Try.func6, Try.ntmps6
    go_wp2_with (first
      | (go_at_call 9; refine (shown_any _).mono ?_; rintro e w1 ⟨rfl, b1⟩; have B1 : Hid (Below w.heap.size w w1) := b1; clear b1)
      | (go_at_call 10; refine (HB1 w1 B1.out).mono ?_; rintro e w2 ⟨rfl, b2⟩; (have B2 : Hid (Below w.heap.size w w2) := bel_of B1.out b2 (Nat.le_refl _)); clear b2 HB1)
      | (go_at_call 10; refine (HB2 w2 B2.out).mono ?_; rintro e w3 ⟨rfl, b3⟩; (have B3 : Hid (Below w.heap.size w w3) := bel_of B2.out b3 (Nat.le_refl _)); clear b3))
    go_ret
    exact ⟨rfl, B3.out⟩

theorem walk {v : Value} (hv : Rw7 w v l) (hn : l.length * 40 ≤ 140737488355328) (hs : Sm7 l) : Goal a b w v := by
  by_cases h1 : (bld a l).2 = 0
  · by_cases h2 : (bld b l).2 = 0
    · exact walkA a b l w hv hn hs h1 h2
    · exact walkB a b l w hv hn hs (.inr ⟨h1, h2⟩)
  · exact walkB a b l w hv hn hs (.inl h1)

set_option maxRecDepth 100000 in
theorem lifted (os : Os) (started : os.Started) (H : Type) (enc : TypeId × Value → H) :
    ReturnsInHanded {} Try.checked os 6 .any (Rows.runSizesSpec.pre6 enc Try.prog Try.f6 Rows.runSizesRow.domain false) (Rows.runSizesSpec.post enc Try.prog Try.f6 false true false false) := by
  refine returnsInHanded_of_change_sized (C := Try.checked) own started (by kernel_rfl) Try.func6
    (ChangeSpec.witness6 (enc := enc) (C := Try.checked) false ⟨#[], #[.int .i64 0, .int .i64 0, .slice none 0 0], []⟩ 8 (by kernel_rfl) (by kernel_rfl) (by kernel_rfl) (by kernel_rfl)) ?_
  intro W base args ds gs before hval0 hW hcnd hsz0 _
  have hval : ∀ (j : Nat) t v, Try.f6.params[j]? = some t → args[j]? = some v → Value.okWide Try.prog W .any base t v := hval0
  have hsz : (DataW.weightsEach Try.prog (Try.f6.params.toList ++ Rows.runSizesSpec.plain.varTypes Try.prog) (ds ++ gs)).all (· ≤ reachBytes) = true := hsz0
  have hW' := hW
  obtain ⟨p, q, hA0, hV, rfl, hfz, hnd⟩ := hW
  have hA : DataW.TrodAll enc Try.prog W 0 (fun _ => true) true Try.f6.params.toList args.toList ds p := hA0
  rw [Try.params6] at hA hval hsz
  obtain ⟨v0, vs0, d0, ds0, p0, q0, hargs, rfl, rfl, h0, r0⟩ := trodAll_cons hA
  obtain ⟨v1, vs1, d1, ds1, p1, q1, rfl, rfl, rfl, h1, r1⟩ := trodAll_cons r0
  obtain ⟨v2, vs2, d2, ds2, p2, q2, rfl, rfl, rfl, h2, r2⟩ := trodAll_cons r1
  obtain ⟨rfl, rfl, rfl⟩ := trodAll_nil r2
  obtain rfl : args = #[v0, v1, v2] := by cases args; simp_all
  obtain ⟨rfl, rfl⟩ := trodVars_none hV
  have k2 := h2
  have lt2 : ∀ x ∈ p2, x.block < W.heap.size := by obtain ⟨m, hm⟩ := k2; exact DataW.trod_lt m _ _ _ hm
  obtain ⟨a0, rfl, rfl, rfl, w0⟩ := open_int Try.underlying3 (hval 0 3 v0 rfl rfl) h0
  obtain ⟨a1, rfl, rfl, rfl, w1⟩ := open_int Try.underlying3 (hval 1 3 v1 rfl rfl) h1
  obtain ⟨l, hl, hl2, -⟩ := openRows7 (hval 2 22 v2 rfl rfl) h2
  obtain ⟨hn, hs⟩ := hl2 (sized_at hsz (i := 2) rfl rfl)
  clear hA0 hval0
  refine (walk a0 a1 l W hl hn hs).mono fun e W' ⟨he, bel⟩ => ?_
  subst he
  exact ⟨_, rfl, _, _, _, [], _, [], hW', trodAll_mk1 (shut_bool Try.underlying4 _), (trodAll_cons_mk (shut_int Try.underlying3 w0) (trodAll_cons_mk (shut_int Try.underlying3 w1) (trodAll_cons_mk (Below.trod laidOut (by kernel_rfl) (of_decide_eq_true (by kernel_rfl)) k2 bel lt2) trodAll_mk0))), rfl, bel.frame _, fun h => by cases h⟩

theorem proved : Rows.RunSizesSaid :=
  OpenClaim.holds_of_wide 6 Try.f6 rfl rfl rfl rfl rfl rfl rfl ⟨rfl, rfl, rfl, rfl, rfl⟩ rfl rfl rfl rfl rfl (by kernel_rfl) Try.func6 (by kernel_rfl)
    (of_decide_eq_true (by kernel_rfl)) (by unfold Func.isWrapper; first | (rw [if_pos (by decide +kernel)]; kernel_rfl) | (rw [if_neg (by decide +kernel)]; exact ⟨rfl, rfl⟩))
    (fun os started H enc _ => lifted os started H enc)
end Go.Proofs.Ytiflkgpdomippaa.runSizes

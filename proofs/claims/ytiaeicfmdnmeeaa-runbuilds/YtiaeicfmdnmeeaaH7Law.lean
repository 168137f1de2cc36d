/-
  The law's own calls of package run: built, shown.
-/
import Derived.Test.YtiaeicfmdnmeeaaH7Get
namespace Go.Proofs.Ytiaeicfmdnmeeaa
open Go.RowKit Go.Shelf Go.Sort
open Go.Lib hiding intOf

/-- v is a slice of these rows -/
def Rw7 (w : World) (v : Value) (l : List R7) : Prop :=
  ∃ a cap, v = .slice a l.length cap ∧ (l = [] ∨ ∃ b off, a = some ⟨b, off, none⟩ ∧ b < w.heap.size ∧ ∀ (j : Nat) (h : j < l.length), w.cell? ⟨b, off + j * 3, none⟩ = some (.string (S l[j].1)) ∧ w.cell? ⟨b, off + j * 3 + 1, none⟩ = some (.string (S l[j].2.1)) ∧ w.cell? ⟨b, off + j * 3 + 2, none⟩ = some (.bool l[j].2.2))
theorem Rw7.below {w w' : World} {v : Value} {l : List R7} (h : Rw7 w v l) {B : Nat} (hb : Below B w w') (hB : w.heap.size ≤ B) : Rw7 w' v l := by
  obtain ⟨a, cap, rfl, h⟩ := h
  refine ⟨a, cap, rfl, h.imp id ?_⟩
  rintro ⟨b, off, rfl, hlt, hc⟩
  exact ⟨b, off, rfl, Nat.lt_of_lt_of_le hlt hb.size, fun j hj => ⟨(hb.cell (p := ⟨b, off + j * 3, none⟩) (by simp only; omega)).trans (hc j hj).1, (hb.cell (p := ⟨b, off + j * 3 + 1, none⟩) (by simp only; omega)).trans (hc j hj).2.1, (hb.cell (p := ⟨b, off + j * 3 + 2, none⟩) (by simp only; omega)).trans (hc j hj).2.2⟩⟩
theorem Rw7.up {w w' : World} {v : Value} {l : List R7} (h : Rw7 w v l) (hb : Below w.heap.size w w') : Rw7 w' v l := h.below hb (Nat.le_refl _)
def Sm7 (l : List R7) : Prop := ∀ x ∈ l, x.1.length ≤ 140737488355328 ∧ x.2.1.length ≤ 140737488355328
theorem fit16 (n : Nat) (h : n * 40 ≤ 140737488355328) : (n + n / 4 + 192) * 16 ≤ 281474976710656 := by omega
theorem fit24' (n : Nat) (h : n * 40 ≤ 140737488355328) : (n + n / 4 + 192) * 24 ≤ 281474976710656 := by omega

/-- what stands in built's loop -/
structure Bl (w wr : World) (l : List R7) (i : Nat) (kv vv : Value) : Prop where
  rk : wr.ownsRow w.heap.size 9 1 kv i (kcs (l.take i))
  rv : wr.ownsRow w.heap.size 37 2 vv i (ccs (l.take i))
  bw : Below w.heap.size w wr
theorem take_snoc7 {l : List R7} {k : Nat} (h : k < l.length) : l.take (k + 1) = l.take k ++ [l[k]] := List.take_succ_eq_append_getElem h
theorem Bl.k1 {w wr w1 : World} {l : List R7} {i : Nat} {kv vv kv' : Value} (h : Bl w wr l i kv vv) (hi : i < l.length) (o : Obj) (hg : (wr.alloc o).grownBy w1 kv.ownBlock) (hr : w1.ownsRow w.heap.size 9 1 kv' (i + 1) (kcs (l.take i) ++ [.string (S l[i].1)])) :
    w1.ownsRow w.heap.size 37 2 vv i (ccs (l.take i)) ∧ w1.ownsRow w.heap.size 9 1 kv' (i + 1) (kcs (l.take (i + 1))) ∧ Below w.heap.size w w1 := by
  have hs := h.bw.size
  have c : Ch (fun k => kv.ownBlock = some k) wr w1 := ((Ch.refl _ wr).alloc o).trans (Ch.of_grown hg (fun k e _ => e))
  refine ⟨c.row h.rv (fun k hk e => row_ne h.rk h.rv (by decide) e hk rfl), by rw [take_snoc7 hi, kcs_snoc]; exact hr, h.bw.trans (c.below hs (fun k hk e => by have := (row_obj h.rk e).1; omega))⟩
theorem Bl.k2 {w w1 w2 : World} {l : List R7} {i : Nat} {kv' vv vv' : Value} (hi : i < l.length) (h1 : w1.ownsRow w.heap.size 37 2 vv i (ccs (l.take i))) (h2 : w1.ownsRow w.heap.size 9 1 kv' (i + 1) (kcs (l.take (i + 1)))) (h3 : Below w.heap.size w w1) (o : Obj) (hg : (w1.alloc o).grownBy w2 vv.ownBlock) (hr : w2.ownsRow w.heap.size 37 2 vv' (i + 1) (ccs (l.take i) ++ [.string (S l[i].2.1), .bool l[i].2.2])) : Bl w w2 l (i + 1) kv' vv' := by
  have hs := h3.size
  have c : Ch (fun k => vv.ownBlock = some k) w1 w2 := ((Ch.refl _ w1).alloc o).trans (Ch.of_grown hg (fun k e _ => e))
  exact ⟨c.row h2 (fun k hk e => row_ne h2 h1 (by decide) hk e rfl), by rw [take_snoc7 hi, ccs_snoc]; exact hr, h3.trans (c.below hs (fun k hk e => by have := (row_obj h1 e).1; omega))⟩

set_option maxHeartbeats 4000000 in
set_option maxRecDepth 100000 in
theorem built_any {w : World} {v : Value} {l : List R7} (block : Int) (hv : Rw7 w v l) (hn : l.length * 40 ≤ 140737488355328) (hsm : Sm7 l) :
    Calls Try.prog 6 #[.int .i64 block, v] w fun e w' => e = .returned (.tuple #[.string (S (bld block l).1), .int .i64 ((bld block l).2 : Int)]) ∧ Below w.heap.size w w' := by
  obtain ⟨i0, hi0, hz0, hz1, hz2⟩ := info_parts infoStr
  obtain ⟨j0, hj0, hy0, hy1, hy2⟩ := info_parts infoCell
  obtain ⟨a, cap, rfl, hc⟩ := hv
  have HC : Hid _ := hc
  clear hc
  go_enter Try.func6, Try.ntmps6
  go_wp2_with fail
  go_loopw [6, 7, 8] (fun v6 v7 v8 wr => ∃ i : Nat, i ≤ l.length ∧ v8 = .int .i64 (i : Int) ∧ Hid (Bl w wr l i v6 v7)) (fun _ _ v8 _ => l.length - (intOf v8).toNat)
  case atStart => exact ⟨0, Nat.zero_le _, rfl, World.ownsRow_nil _ _ _ _, World.ownsRow_nil _ _ _ _, Below.refl _ _⟩
  case round =>
    obtain ⟨i, hi, rfl, HB⟩ := hrel
    obtain ⟨ka, kc, rfl, -⟩ := row_slice HB.out.rk
    obtain ⟨va, vc, rfl, -⟩ := row_slice HB.out.rv
    by_cases hlt : i < l.length
    · have hlt' : (i : Int) < (l.length : Int) := by omega
      have hi0' : (0 : Int) ≤ (i : Int) := by omega
      obtain ⟨b, off, rfl, hbl, hcell⟩ : ∃ b off, a = some ⟨b, off, none⟩ ∧ b < w.heap.size ∧ ∀ (j : Nat) (h : j < l.length), w.cell? ⟨b, off + j * 3, none⟩ = some (.string (S l[j].1)) ∧ w.cell? ⟨b, off + j * 3 + 1, none⟩ = some (.string (S l[j].2.1)) ∧ w.cell? ⟨b, off + j * 3 + 2, none⟩ = some (.bool l[j].2.2) := by
        rcases HC.out with h | h
        · rw [h] at hlt; simp at hlt
        · exact h
      obtain ⟨c0, c1, c2⟩ := hcell i hlt
      have m0 := (HB.out.bw.cell (p := ⟨b, off + i * 3, none⟩) hbl).trans c0
      have hsz := HB.out.bw.size
      have HM : Hid (∀ w1, Below w.heap.size w w1 → w1.cell? ⟨b, off + i * 3 + 1, none⟩ = some (.string (S l[i].2.1)) ∧ w1.cell? ⟨b, off + i * 3 + 2, none⟩ = some (.bool l[i].2.2)) := fun w1 h1 => ⟨(h1.cell (p := ⟨b, off + i * 3 + 1, none⟩) hbl).trans c1, (h1.cell (p := ⟨b, off + i * 3 + 2, none⟩) hbl).trans c2⟩
      have HR1 : Hid _ := HB.out.rk
      clear c0 c1 c2 hcell
      go_wp2_with (first
        | (at_builtin; refine wpList_append_own_wide _ rfl _ _ 44 rfl w.heap.size 9 i0 _ 1 16 Try.underlying44 hi0 hz0 hz1 hz2 rfl (by decide) (.slice ka i kc) i (kcs (l.take i)) rfl (World.ownsRow.alloc HR1.out _) ⟨wr.heap.size, 0, none⟩ 1 1 [.string (S l[i].1)] rfl rfl (new_one _ _ rfl _ _) (by simp [Value.oneCell']) (by unfold maxLen; omega) (fit16 _ (by omega)) (by simp; omega) ?_; intro v1 w1 hown1 hgrow1 _; obtain ⟨q1, q2, q3⟩ := HB.out.k1 hlt _ hgrow1 hown1; obtain ⟨m1, m2⟩ := HM.out w1 q3; (have HQ : Hid (w1.ownsRow w.heap.size 37 2 (.slice va i vc) i (ccs (l.take i)) ∧ w1.ownsRow w.heap.size 9 1 v1 (i + 1) (kcs (l.take (i + 1))) ∧ Below w.heap.size w w1) := ⟨q1, q2, q3⟩); have hs1 := q3.size; clear hown1 hgrow1 q1 q2 q3 HR1)
        | (at_builtin; refine wpList_append_own_wide _ rfl _ _ 45 rfl w.heap.size 37 j0 _ 2 24 Try.underlying45 hj0 hy0 hy1 hy2 rfl (by decide) (.slice va i vc) i (ccs (l.take i)) rfl (World.ownsRow.alloc HQ.out.1 _) ⟨w1.heap.size, 0, none⟩ 1 1 [.string (S l[i].2.1), .bool l[i].2.2] rfl rfl (two_new _ _ rfl _ _ _) (by simp [Value.oneCell']) (by unfold maxLen; omega) (fit24' _ (by omega)) (by simp; omega) ?_; intro v2 w2 hown2 hgrow2 _; have HE : Hid _ := Bl.k2 hlt HQ.out.1 HQ.out.2.1 HQ.out.2.2 _ hgrow2 hown2; clear hown2 hgrow2 HQ))
      go_roundw
      case rel => exact ⟨i + 1, by omega, by simp, HE⟩
      case measure => simp [intOf]; omega
    · obtain rfl : i = l.length := by omega
      have hlt' : ¬ (l.length : Int) < (l.length : Int) := by omega
      have hk := HB.out.rk
      have hvv := HB.out.rv
      rw [List.take_length] at hk hvv
      have HO := Over_any hk hvv (by omega)
      have HBW : Hid (Below w.heap.size w wr) := HB.out.bw
      clear hk hvv
      go_wp2_with (first
        | (go_at_call 15; refine HO.mono ?_; rintro e w3 ⟨f, X, rfl, hS, -, hb3⟩; have HBD := Build_any block hS.sn (fun x hx => by have := hsm x hx; omega); obtain ⟨gf, lb, rfl, -⟩ := hS; (have HB3 : Hid (Below w.heap.size w w3) := bel_of HBW.out hb3 (Nat.le_refl _)); clear hb3)
        | (go_at_call 14; refine HBD.mono ?_; rintro e w4 ⟨rfl, hb4⟩; (have HB4 : Hid (Below w.heap.size w w4) := bel_of HB3.out hb4 (Nat.le_refl _)); clear hb4))
      go_ret2
      exact ⟨rfl, HB4.out⟩

/-- what was built is a run of just these rows -/
theorem bld_ok {block : Int} {l : List R7} (h : (bld block l).2 = 0) : ∃ bs, (bld block l).1 = rn bs ∧ Rn (rn bs) bs ∧ (rn bs).length ≤ 1048576 ∧ bs.flatten = l ∧ bs = cutB block.toNat [] l ∧ 64 ≤ block ∧ block ≤ 4096 ∧ flt none l = 0 := by
  unfold bld at h ⊢
  by_cases h1 : block < 64 ∨ 4096 < block
  · rw [if_pos h1] at h; cases h
  · rw [if_neg h1] at h ⊢
    by_cases h2 : flt none l = 0
    · rw [if_neg (by simpa using h2)] at h ⊢
      by_cases h3 : 65536 < (ix (cutB block.toNat [] l)).length ∨ 1048576 < (rn (cutB block.toNat [] l)).length
      · rw [if_pos h3] at h; cases h
      · rw [if_neg h3]
        have hf : (cutB block.toNat [] l).flatten = l := by rw [cutB_flat]; rfl
        have hm := flt_may h2
        refine ⟨_, rfl, ⟨rfl, fun y hy => ?_, by rw [hf]; exact h2, by omega⟩, by omega, hf, rfl, by omega, by omega, h2⟩
        obtain ⟨e1, e2⟩ := cutB_each (b := block.toNat) (by omega) l [] (.inl rfl) hm y hy
        exact ⟨e1, by omega, fun x hx => hm x (by rw [← hf]; exact List.mem_flatten.2 ⟨y, hy, hx⟩)⟩
    · rw [if_pos h2] at h; exact absurd h h2
theorem rise_lt {l : List R7} (h : Rise (ks l)) {i j : Nat} (hi : i < l.length) (hj : j < l.length) (hij : i < j) : lt (S l[i].1) (S l[j].1) = true := by
  have := h.get (i := i) (j := j) (by rw [ks_len]; exact hi) (by rw [ks_len]; exact hj) hij
  rwa [ks_get hi, ks_get hj] at this
theorem at7_mem {l : List R7} (h : Rise (ks l)) {i : Nat} (hi : i < l.length) : at7 l (S l[i].1) = i := by
  refine (at7_of h (Nat.le_of_lt hi) (fun j hj hji => rise_lt h hj hi hji) (fun j hj hij => ?_)).symm
  rcases Nat.lt_or_ge i j with h1 | h1
  · exact lt_asymm (rise_lt h hi hj h1)
  · obtain rfl : i = j := by omega
    exact lt_irrefl _
theorem get7_mem {l : List R7} (h : Rise (ks l)) {i : Nat} (hi : i < l.length) : get7 l (S l[i].1) = (l[i].2, true) := by
  have e := at7_mem h hi
  have h1 : is7 l (S l[i].1) = true := by
    have := is7_of (l := l) (k := S l[i].1) (by rw [e]; exact hi)
    rw [this]
    simp [e]
  obtain ⟨_, _, e2⟩ := is7_lt h1
  rw [e2]
  simp [e]
theorem is7_not {l : List R7} {k : ByteArray} (h : ∀ i (hi : i < l.length), S l[i].1 ≠ k) : is7 l k = false := by
  cases hh : is7 l k with
  | false => rfl
  | true =>
    obtain ⟨hp, e, _⟩ := is7_lt hh
    exact absurd e (h _ hp)
/-- the example -/
def x7 : R7 := ([97], [120], false)
theorem bld_shown : (bld 64 [x7]).2 = 0 := by
  have hc : cutB 64 [] [x7] = [[x7]] := by rw [cutB_begin (by decide), cutB_end _ (by simp)]
  have hl : ld [x7] = rb x7 := by simp [ld]
  have hu : ∀ n, n < 128 → (Lib.uvarint n).length = 1 := fun n hn => by rw [Lib.uvarint_small hn]; rfl
  have hr : (rb x7).length = 5 := by rw [rb_length, txt_length, txt_length]; simp [x7, hu]
  have hfb : (fb [x7]).length = 11 := by rw [fb_length, txt_length, hl, hr, hu 5 (by omega)]
  have hix : (ix [[x7]]).length = 4 := by
    simp only [ix, ixs, List.flatMap_cons, List.flatMap_nil, List.append_nil, ixe, List.length_append, List.length_singleton, hfb, txt_length]
    rw [hu 1 (by omega), hu 11 (by omega)]
    have : (key1 [x7]).length = 1 := rfl
    rw [this, hu 1 (by omega)]
  have hrn : (rn [[x7]]).length = 25 := by
    rw [rn_len, tl_len, frm_length, txt_length, hix, hu 4 (by omega)]
    simp [fbs, hfb]
  unfold bld
  rw [if_neg (by decide), if_neg (by decide)]
  rw [show ((64 : Int).toNat) = 64 from rfl, hc, hix, hrn]
  rfl

set_option maxHeartbeats 4000000 in
set_option maxRecDepth 100000 in
theorem shown_any (w : World) : Calls Try.prog 5 #[] w fun e w' => e = .returned (.bool true) ∧ Below w.heap.size w w' := by
  obtain ⟨bs, e1, e2, e3, e4, e5, -⟩ := bld_ok bld_shown
  have e0 := bld_shown
  obtain ⟨W, hW⟩ : ∃ W, W = w.alloc (.cells #[.string ⟨#[97]⟩, .string ⟨#[120]⟩, .bool false] 41) := ⟨_, rfl⟩
  have hB : Below w.heap.size w W := by rw [hW]; exact (Below.refl _ w).alloc (Nat.le_refl _) _
  have hx : W.heap[w.heap.size]? = some (.cells #[.string ⟨#[97]⟩, .string ⟨#[120]⟩, .bool false] 41) := by rw [hW]; exact heap_alloc_new w _
  have hrw : Rw7 W (.slice (some ⟨w.heap.size, 0, none⟩) 1 1) [x7] := by
    refine ⟨some ⟨w.heap.size, 0, none⟩, 1, rfl, .inr ⟨w.heap.size, 0, rfl, (Array.getElem?_eq_some_iff.1 hx).1, fun j hj => ?_⟩⟩
    obtain rfl : j = 0 := by simpa using hj
    exact ⟨by simp [World.cell?, hx, x7, S], by simp [World.cell?, hx, x7, S], by simp [World.cell?, hx, x7]⟩
  have HBU := built_any 64 hrw (by simp) (fun x hx => by obtain rfl : x = x7 := by simpa using hx
                                                         exact ⟨by decide, by decide⟩)
  rw [e1, e0] at HBU
  have HOP : ∀ w, _ := fun w => Open_any (rn bs) (by omega) w
  have g1 : get7 [x7] ⟨#[97]⟩ = (([120], false), true) := get7_mem (l := [x7]) (List.pairwise_singleton _ _) (i := 0) (by simp)
  have g2 : get7 [x7] ⟨#[98]⟩ = (([], false), false) := get7_no (is7_not (fun i hi e => by
    obtain rfl : i = 0 := by simpa using hi
    have := congrArg (fun b : ByteArray => b.data.toList) e
    simp [x7, S] at this))
  have HRN : Hid (Rn (rn bs) bs ∧ (rn bs).length ≤ 1048576 ∧ bs.flatten = [x7]) := ⟨e2, e3, e4⟩
  have HB : Hid (Below w.heap.size w W) := hB
  have hbl : bs.length = 1 := by
    rw [e5, show ((64 : Int).toNat) = 64 from rfl, cutB_begin (by decide), cutB_end _ (by simp)]
    rfl
  clear e1 e2 e3 e4 e5 e0 hrw hx
  go_enter Try.func5, Try.ntmps5
  go_wp2_with (first
    | (go_at_call 6; rw [← hW]; refine HBU.mono ?_; rintro e w2 ⟨rfl, hb2⟩; clear hW HBU; (have HB2 : Hid (Below w.heap.size w w2) := bel_of HB.out hb2 (Nat.le_refl _)); clear hb2)
    | (go_at_call 8; refine (HOP _).mono ?_; rintro e w3 ⟨hb3, hop⟩; obtain ⟨r, v, b1, b2, hee, hu⟩ : ∃ r v b1 b2, e = .returned (.tuple #[.pointer (some ⟨r, 0, none⟩), .int .i64 0]) ∧ Ru w3 w2.heap.size r [x7] bs.length v b1 b2 := hop.elim (fun ⟨bs', r, v, b1, b2, _, h2, h3, h4, _⟩ => ⟨r, v, b1, b2, h3, by rw [← HRN.out.2.2, HRN.out.1.one h2]; exact h4⟩) (fun h => absurd ⟨HRN.out.2.1, _, HRN.out.1⟩ h.1); subst hee; (have HB3 : Hid (Below w.heap.size w w3) := bel_of HB2.out hb3 (Nat.le_refl _)); have HU3 : Hid (Ru w3 w2.heap.size r [x7] bs.length v b1 b2) := hu; clear hop hu hb3)
    | (go_at_call_of 11 (Value.string ⟨#[97]⟩); refine (Get_any HU3.out ⟨#[97]⟩).mono ?_; rw [g1]; simp only [cv]; rw [show S [120] = ⟨#[120]⟩ from rfl]; rintro e w4 ⟨rfl, hb4⟩; (have HB4 : Hid (Below w.heap.size w w4) := bel_of HB3.out hb4 (Nat.le_refl _)); (have HU4 : Hid (Ru (w4.alloc (.cells #[.string ⟨#[120]⟩, .bool false] 37)) w2.heap.size r [x7] bs.length v b1 b2) := (HU3.out.below hb4).below ((Below.refl _ w4).alloc (Nat.le_refl _) _)); (have z1 : (w4.alloc (.cells #[.string ⟨#[120]⟩, .bool false] 37)).heap[w4.heap.size]? = some (.cells #[.string ⟨#[120]⟩, .bool false] 37) := heap_alloc_new w4 _); have Z1 : Hid _ := z1; clear hb4 z1)
    | (go_at_call 11; refine (Get_any HU4.out ⟨#[98]⟩).mono ?_; rw [g2]; simp only [cv]; rw [show S [] = ⟨#[]⟩ from rfl]; rintro e w5 ⟨rfl, hb5⟩; (have HB5 : Hid (Below w.heap.size w w5) := bel_of (HB4.out.alloc HB4.out.size _) hb5 (Nat.le_refl _)); have z2 := (hb5.block w4.heap.size (by simp)).trans Z1.out; (have z3 := ((Below.refl _ w5).alloc (Nat.le_refl _) (.cells #[.string ⟨#[]⟩, .bool false] 37)).block w4.heap.size (by have := hb5.size; simp at this; omega) |>.trans z2); (have y0 : (w5.alloc (.cells #[.string ⟨#[]⟩, .bool false] 37)).cell? ⟨w4.heap.size, 0, none⟩ = some (.string ⟨#[120]⟩) := (by simp only [World.cell?, z3]; rfl)); (have y1 : (w5.alloc (.cells #[.string ⟨#[]⟩, .bool false] 37)).cell? ⟨w4.heap.size, 1, none⟩ = some (.bool false) := (by simp only [World.cell?, z3]; rfl)); (have HU5 : Hid (Ru (w5.alloc (.cells #[.string ⟨#[]⟩, .bool false] 37)) w2.heap.size r [x7] bs.length v b1 b2) := (HU4.out.below hb5).below ((Below.refl _ w5).alloc (Nat.le_refl _) _)); clear hb5 z2 z3)
    | (go_at_call 12; refine (Len_any HU5.out).mono ?_; rintro e w6 ⟨rfl, rfl⟩)
    | (go_at_call 13; refine (Blocks_any HU5.out).mono ?_; rintro e w6 ⟨rfl, rfl⟩))
  go_ret
  exact ⟨rfl, HB5.out.alloc HB5.out.size _⟩
end Go.Proofs.Ytiaeicfmdnmeeaa

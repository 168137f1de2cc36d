/-
  ExprSound, walked.
-/
import Derived.Test.YtpbfdaijnndilaaGreatDoorGSndP
import Derived.Test.YtpbfdaijnndilaaGreatDoorGBndP
import Derived.Test.YtpbfdaijnndilaaGreatDoorX10Shn
import Derived.Deep.AppendLies
namespace Go.Proofs.YtpbfdaijnndilaaGreatDoor.x10
open Go.RowKit Go.Shelf Go.Sort
open Go.Lib hiding intOf

set_option maxHeartbeats 2000000 in
set_option maxRecDepth 100000 in
theorem sou_no {w : World} {B : Nat} (hg : Gx B w) (hv : Gv B w) (hB : B ≤ w.heap.size) {s : List UInt8} {l : List P10} {e a : Int} (hp : prs 4100 s = some (l, e, a)) {vs : List Vr} {v0 : Value} (hV : Vs w v0 vs) (hvl : vs.length * 48 ≤ 140737488355328) (hsm : Sm9 vs) (he : ¬ e = 0) : Calls Tryz.prog 7 #[.string (S s), v0] w fun e w' => e = .returned (.bool true) ∧ Below w.heap.size w w' := by
  have HG : Hid (∀ W, Below w.heap.size w W → Gx B W ∧ Gv B W ∧ B ≤ W.heap.size) := fun W hW => ⟨hg.below (hW.mono hB), hv.below (hW.mono hB), Nat.le_trans hB hW.size⟩
  have HP : Hid (∀ W, Below w.heap.size w W → _) := fun W hW => Parse_any 4100 W (HG.out W hW).1 (HG.out W hW).2.2 hp
  have HR : Hid (∀ W, Below w.heap.size w W → _) := fun W hW => dRgt_any (hV.up hW) (by omega) hsm
  have h1 : (e == 0) = false := beq_eq_false_iff_ne.2 he
  obtain ⟨va, vcap, rfl, -⟩ := hV
  clear hg hv hB hp hvl hsm
  go_enter Tryz.func7, Tryz.ntmps7
  go_wp2_with (first
    | (go_at_call 9; refine (shown10_any (HG.out w (Below.refl _ _)).1 (HG.out w (Below.refl _ _)).2.1 (HG.out w (Below.refl _ _)).2.2).mono ?_; rintro e w1 ⟨rfl, hb1⟩; (have HB1 : Hid (Below w.heap.size w w1) := hb1); clear hb1)
    | (go_at_call 10; refine (HP.out w1 HB1.out).mono ?_; rintro e w2 ⟨v2, rfl, hx2, hb2⟩; (have HX2 : Hid (Es w2 v2 l) := Px.es hx2); obtain ⟨a2, c2, hv2, -⟩ := row_slice hx2; subst hv2; (have HB2 : Hid (Below w.heap.size w w2) := bel_of HB1.out hb2 (Nat.le_refl _)); clear hx2 hb2)
    | (go_at_call 19; refine (HR.out w2 HB2.out).mono ?_; rintro e w3 ⟨rfl, hb3⟩; (have HB3 : Hid (Below w.heap.size w w3) := HB2.out.trans (hb3.mono HB2.out.size)); clear hb3))
  go_ret
  exact ⟨rfl, HB3.out⟩
set_option maxHeartbeats 2000000 in
set_option maxRecDepth 100000 in
theorem sou_rt {w : World} {B : Nat} (hg : Gx B w) (hv : Gv B w) (hB : B ≤ w.heap.size) {s : List UInt8} {l : List P10} {e a : Int} (hp : prs 4100 s = some (l, e, a)) {vs : List Vr} {v0 : Value} (hV : Vs w v0 vs) (hvl : vs.length * 48 ≤ 140737488355328) (hsm : Sm9 vs) (he : e = 0) (hr : rgt vs = false) : Calls Tryz.prog 7 #[.string (S s), v0] w fun e w' => e = .returned (.bool true) ∧ Below w.heap.size w w' := by
  have HG : Hid (∀ W, Below w.heap.size w W → Gx B W ∧ Gv B W ∧ B ≤ W.heap.size) := fun W hW => ⟨hg.below (hW.mono hB), hv.below (hW.mono hB), Nat.le_trans hB hW.size⟩
  have HP : Hid (∀ W, Below w.heap.size w W → _) := fun W hW => Parse_any 4100 W (HG.out W hW).1 (HG.out W hW).2.2 hp
  have HR : Hid (∀ W, Below w.heap.size w W → _) := fun W hW => dRgt_any (hV.up hW) (by omega) hsm
  subst he
  rw [hr] at HR
  obtain ⟨va, vcap, rfl, -⟩ := hV
  clear hg hv hB hp hvl hsm
  go_enter Tryz.func7, Tryz.ntmps7
  go_wp2_with (first
    | (go_at_call 9; refine (shown10_any (HG.out w (Below.refl _ _)).1 (HG.out w (Below.refl _ _)).2.1 (HG.out w (Below.refl _ _)).2.2).mono ?_; rintro e w1 ⟨rfl, hb1⟩; (have HB1 : Hid (Below w.heap.size w w1) := hb1); clear hb1)
    | (go_at_call 10; refine (HP.out w1 HB1.out).mono ?_; rintro e w2 ⟨v2, rfl, hx2, hb2⟩; (have HX2 : Hid (Es w2 v2 l) := Px.es hx2); obtain ⟨a2, c2, hv2, -⟩ := row_slice hx2; subst hv2; (have HB2 : Hid (Below w.heap.size w w2) := bel_of HB1.out hb2 (Nat.le_refl _)); clear hx2 hb2)
    | (go_at_call 19; refine (HR.out w2 HB2.out).mono ?_; rintro e w3 ⟨rfl, hb3⟩; (have HB3 : Hid (Below w.heap.size w w3) := HB2.out.trans (hb3.mono HB2.out.size)); clear hb3))
  go_ret
  exact ⟨rfl, HB3.out⟩
end Go.Proofs.YtpbfdaijnndilaaGreatDoor.x10
namespace Go.Proofs.YtpbfdaijnndilaaGreatDoor.x10
open Go.RowKit Go.Shelf Go.Sort
open Go.Lib hiding intOf

def dc (x : D10) : List Value := [.string x.1, .int .i64 x.2]
/-- the cells of declarations -/
def dcs (l : List D10) : List Value := l.flatMap dc
theorem dcs_cons (x : D10) (t : List D10) : dcs (x :: t) = dc x ++ dcs t := rfl
theorem dcs_snoc (l : List D10) (x : D10) : dcs (l ++ [x]) = dcs l ++ dc x := by simp [dcs]
theorem dcs_len : ∀ l : List D10, (dcs l).length = l.length * 2
  | [] => rfl
  | x :: t => by rw [dcs_cons, List.length_append, dcs_len t, List.length_cons, show (dc x).length = 2 from rfl]; omega
theorem dcs_get : ∀ (l : List D10) (j i : Nat), i < 2 → (dcs l)[j * 2 + i]? = (l[j]?).bind (fun x => (dc x)[i]?)
  | [], j, i, _ => by simp [dcs]
  | x :: t, 0, i, h => by rw [dcs_cons, Nat.zero_mul, Nat.zero_add, List.getElem?_append_left (show i < (dc x).length from h)]; rfl
  | x :: t, j + 1, i, h => by
    rw [dcs_cons, List.getElem?_append_right (by show 2 ≤ _; omega), show (j + 1) * 2 + i - (dc x).length = j * 2 + i by show _ - 2 = _; omega, dcs_get t j i h]
    rfl
/-- a row of one's own is a slice -/
theorem Ds.row {w : World} {base : Nat} {v : Value} {l : List D10} (h : w.ownsRow base 52 2 v l.length (dcs l)) : Ds w v l := by
  rcases h.2 with ⟨rfl, h0⟩ | ⟨g, cap, cur, rfl, _, hg, hnc, _⟩
  · exact ⟨none, 0, by rw [h0], .inl (List.eq_nil_of_length_eq_zero h0)⟩
  · refine ⟨some ⟨g, 0, none⟩, cap, rfl, .inr ⟨g, 0, rfl, (Array.getElem?_eq_some_iff.1 hg).1, fun j hj => ?_⟩⟩
    have c : ∀ i u, i < 2 → (dc l[j])[i]? = some u → w.cell? ⟨g, 0 + j * 2 + i, none⟩ = some u := fun i u hi hu => by
      rw [Nat.zero_add]
      refine row_cell h ?_
      rw [dcs_get l j i hi, List.getElem?_eq_getElem hj]
      exact hu
    exact ⟨c 0 _ (by omega) rfl, c 1 _ (by omega) rfl⟩
theorem new_two (W : World) (n : Nat) (hn : n = W.heap.size) (a b : Value) (T : TypeId) : ∀ j u, ([a, b] : List Value)[j]? = some u → (W.alloc (.cells #[a, b] T)).cell? ((⟨n, 0, none⟩ : Addr).add j) = some u := by
  subst hn
  intro j u h
  rw [Addr.add_lit, Nat.zero_add, World.cell?_alloc_new]
  simpa using h
theorem one_two (x : D10) : ∀ u ∈ dc x, u.oneCell' = true := fun u hu => by
  simp only [dc, List.mem_cons, List.not_mem_nil, or_false] at hu
  rcases hu with rfl | rfl <;> rfl
theorem infoD10 : (Tryz.prog.info? 52).map (fun i => (i.zero, i.size, i.bytes)) = some (some (.agg #[.string ⟨#[]⟩, .int .i64 0]), 2, 24) := by kernel_rfl
end Go.Proofs.YtpbfdaijnndilaaGreatDoor.x10
namespace Go.Proofs.YtpbfdaijnndilaaGreatDoor.x10
open Go.RowKit Go.Shelf Go.Sort
open Go.Lib hiding intOf

set_option maxHeartbeats 2000000 in
set_option maxRecDepth 100000 in
theorem sou_go {w : World} {B : Nat} (hg : Gx B w) (hv : Gv B w) (hB : B ≤ w.heap.size) {s : List UInt8} {l : List P10} {e a : Int} (hp : prs 4100 s = some (l, e, a)) {vs : List Vr} {v0 : Value} (hV : Vs w v0 vs) (hvl : vs.length * 48 ≤ 140737488355328) (hsm : Sm9 vs) (he : e = 0) (hr : rgt vs = true) : Calls Tryz.prog 7 #[.string (S s), v0] w fun e w' => e = .returned (.bool true) ∧ Below w.heap.size w w' := by
  have HG : Hid (∀ W, Below w.heap.size w W → Gx B W ∧ Gv B W ∧ B ≤ W.heap.size) := fun W hW => ⟨hg.below (hW.mono hB), hv.below (hW.mono hB), Nat.le_trans hB hW.size⟩
  have HP : Hid (∀ W, Below w.heap.size w W → _) := fun W hW => Parse_any 4100 W (HG.out W hW).1 (HG.out W hW).2.2 hp
  have HR : Hid (∀ W, Below w.heap.size w W → _) := fun W hW => dRgt_any (hV.up hW) (by omega) hsm
  subst he
  obtain ⟨i0, hi0, hz0, hz1, hz2⟩ := info_parts infoD10
  have h16v : vs.length ≤ 16 := (rgt_iff.1 hr).1
  have HV : Hid (Vs w v0 vs) := hV
  have HMY : Hid (mayE l = true ∧ rgt vs = true ∧ Sm9 vs ∧ l.length ≤ 4611686018427387904 ∧ ∀ p ∈ l, p.2.2.2.2.2.length ≤ 4611686018427387904) := ⟨prs_may hp, hr, hsm, by have := (prs_bd hp).1; omega, fun p hq => by have := ((prs_bd hp).2 p hq).2; omega⟩
  rw [hr] at HR
  obtain ⟨va, vcap, rfl, -⟩ := hV
  clear hg hv hB hp hvl hsm
  go_enter Tryz.func7, Tryz.ntmps7
  go_wp2_with (first
    | (go_at_call 9; refine (shown10_any (HG.out w (Below.refl _ _)).1 (HG.out w (Below.refl _ _)).2.1 (HG.out w (Below.refl _ _)).2.2).mono ?_; rintro e w1 ⟨rfl, hb1⟩; (have HB1 : Hid (Below w.heap.size w w1) := hb1); clear hb1)
    | (go_at_call 10; refine (HP.out w1 HB1.out).mono ?_; rintro e w2 ⟨v2, rfl, hx2, hb2⟩; (have HX2 : Hid (Es w2 v2 l) := Px.es hx2); obtain ⟨a2, c2, hv2, -⟩ := row_slice hx2; subst hv2; (have HB2 : Hid (Below w.heap.size w w2) := bel_of HB1.out hb2 (Nat.le_refl _)); clear hx2 hb2)
    | (go_at_call 19; refine (HR.out w2 HB2.out).mono ?_; rintro e w3 ⟨rfl, hb3⟩; (have HB23 : Hid (Below w2.heap.size w2 w3) := hb3); (have HB3 : Hid (Below w.heap.size w w3) := HB2.out.trans (hb3.mono HB2.out.size)); clear hb3))
  go_loopw [11, 10] (fun v11 v10 wr => ∃ (i : Nat) (fa : Option Addr) (fc : Nat), v11 = .int .i64 (i : Int) ∧ v10 = .slice fa i fc ∧ i ≤ vs.length ∧ Hid (wr.ownsRow w3.heap.size 52 2 (.slice fa i fc) i (dcs (dls (vs.take i)))) ∧ Hid (Below w3.heap.size w3 wr)) (fun v11 _ _ => vs.length - (intOf v11).toNat)
  case atStart => exact ⟨0, none, 0, rfl, rfl, Nat.zero_le _, ⟨rfl, .inl ⟨rfl, rfl⟩⟩, Below.refl _ _⟩
  case round =>
    obtain ⟨i, fa, fc, rfl, rfl, hi, HF, HB⟩ := hrel
    by_cases hlt : i < vs.length
    · obtain ⟨bl, off, cap, hv, hbl, hcc⟩ := (HV.out.up HB3.out).at hlt
      obtain ⟨c0, c1, -⟩ := hcc wr HB.out
      cases hv
      obtain ⟨x, hx⟩ : ∃ x, vs[i] = x := ⟨_, rfl⟩
      have HT : Hid (dcs (dls (vs.take (i + 1))) = dcs (dls (vs.take i)) ++ dc (x.1, x.2.1)) := by
        show _ = _
        rw [← dcs_snoc, List.take_add_one, List.getElem?_eq_getElem hlt, hx]
        simp [dls]
      rw [hx] at c0 c1
      obtain ⟨nm, kd, xr⟩ := x
      simp only at c0 c1 HT
      have i1 : (0 : Int) ≤ (i : Int) := by omega
      have i2 : (i : Int) < (vs.length : Int) := by omega
      have hzz := HB.out.size
      have h16 : i < 16 := by omega
      have far : ∀ j, j < w3.heap.size → some j ≠ (Value.slice fa i fc).ownBlock := fun j hj e => by have := (HF.out.lt j e.symm).1; omega
      clear hcc hx
      go_wp2_with fail
      go_region_held3 (fun W => W.cell? ⟨bl, off + i * 4, none⟩ = some (.string nm) ∧ W.cell? ⟨bl, off + i * 4 + 1, none⟩ = some (.int .i64 kd))
        (first
          | go_keep
          | (go_split_ands
             refine ⟨?_, ?_⟩
             · (rw [hgrow.cell_far _ (by simp; omega) (far _ hbl)]; assumption)
             · (rw [hgrow.cell_far _ (by simp; omega) (far _ hbl)]; assumption)))
        ((refine step_append_lies _ (by rfl) _ _ _ (by rfl) w3.heap.size 52 i0 _ 2 24 Tryz.underlying39 hi0 hz0 hz1 hz2 rfl (by omega) (.slice fa i fc) i (dcs (dls (vs.take i))) (by rfl) ((HF.out.alloc _).drew) ⟨wr.heap.size, 0, none⟩ 1 1 [.string nm, .int .i64 kd] (by rfl) (by rfl) (World.news_of_block (cs := #[.string nm, .int .i64 kd]) (t := 52) (fr := (0, 0)) (heap_alloc_new wr _)) (by simp [Value.oneCell']) (by omega) (by unfold maxLen; omega) (by omega) (by simp; omega) (wr.heap.size + 1) (by simp) ?_; intro gg cp7 w4 hown1 hgrow hat hlt4))
      all_goals
        have HO7 : Hid (w4.ownsRow w3.heap.size 52 2 (.slice (some ⟨gg, 0, none⟩) (i + 1) cp7) (i + 1) (dcs (dls (vs.take (i + 1))))) := by rw [HT.out]; exact hown1
        have HB7 : Hid (Below w3.heap.size w3 w4) := ((HB.out.alloc hzz _).drew).grown hgrow (by simp; omega) (fun k hk => (HF.out.lt k hk).1)
        go_wp2
        refine ⟨⟨i + 1, _, _, by go_num, rfl, by omega, HO7, HB7⟩, by simp [intOf]; omega⟩
    · obtain rfl : i = vs.length := by omega
      have hle : vs.length = (dls vs).length := by simp [dls]
      have HD : Hid (Ds wr (.slice fa vs.length fc) (dls vs)) := by
        have h := HF.out
        rw [List.take_length] at h
        have h2 : wr.ownsRow w3.heap.size 52 2 (.slice fa vs.length fc) (dls vs).length (dcs (dls vs)) := by rw [← hle]; exact h
        exact Ds.row h2
      have HW : Hid (Below w.heap.size w wr) := bel_of HB3.out HB.out (Nat.le_refl _)
      have HX : Hid (Es wr (.slice a2 l.length c2) l) := HX2.out.below (HB23.out.trans (HB.out.mono HB23.out.size))
      have hdz : ∀ d ∈ dls vs, d.1.size ≤ 4611686018427387904 := fun d hd => by
        obtain ⟨x, hx, rfl⟩ := List.mem_map.1 hd
        have := (HMY.out.2.2.1 x hx).1
        show x.1.size ≤ _
        omega
      have CK : Hid (∀ W, Below wr.heap.size wr W → _) := fun W hW => Check_any (HX.out.below hW) (HG.out W (bel_of HW.out hW (Nat.le_refl _))).1 (HG.out W (bel_of HW.out hW (Nat.le_refl _))).2.2 (HD.out.below hW) HMY.out.2.2.2.2 HMY.out.2.2.2.1 (by rw [← hle]; omega) hdz
      have EV : Hid (∀ W, Below wr.heap.size wr W → _) := fun W hW => Eval_any (HX.out.below hW) (HG.out W (bel_of HW.out hW (Nat.le_refl _))).1 (HG.out W (bel_of HW.out hW (Nat.le_refl _))).2.2 (HV.out.up (bel_of HW.out hW (Nat.le_refl _))) (by omega) HMY.out.2.2.1 HMY.out.2.2.2.2 HMY.out.2.2.2.1
      have hsn := check_snd HMY.out.1 HMY.out.2.1
      obtain ⟨-, hmr⟩ : True ∧ Hid (mayE l = true ∧ rgt vs = true) := ⟨trivial, HMY.out.1, HMY.out.2.1⟩
      clear hdz hle HF HD HX HX2 HB hi hlt i0 hi0 hz0 hz1 hz2
      rcases hsn with ⟨h0, hS⟩ | ⟨he, ha1, ha2⟩
      · cases hrk : rk l vs l.length (l.length - 1) with
        | out => rw [hrk] at hS; exact hS.elim
        | ok v =>
          have hev : evl l vs = (v, 0) := by unfold evl; rw [if_pos hmr.out.1, if_pos hmr.out.2, hrk]; rfl
          rw [hrk] at hS
          obtain ⟨hm, hk⟩ := hS
          rw [hev] at EV
          have CM := dMay_any v
          rw [hm] at CM
          obtain ⟨v1, v2, v3⟩ := v
          generalize chkE l (dls vs) = C at *
          obtain ⟨ck, ce, ca⟩ := C
          simp only at h0 hk CK
          subst h0 hk
          unfold vA at CM
          unfold vA' at EV
          simp only at CM EV
          clear hev hm hrk hmr
          go_wp2_with (first
            | (go_at_call 17; refine (CK.out wr (Below.refl _ _)).mono ?_; rintro e w4 ⟨rfl, hb4⟩; (have H4 : Hid (Below wr.heap.size wr w4) := hb4); clear hb4 CK)
            | (go_at_call 20; refine (EV.out w4 H4.out).mono ?_; rintro e w5 ⟨rfl, hb5⟩; (have H5 : Hid (Below wr.heap.size wr w5) := H4.out.trans (hb5.mono H4.out.size)); clear hb5 EV)
            | (go_at_call 21; refine (CM _).mono ?_; rintro e w6 ⟨rfl, hb6⟩; (have H6 : Hid (Below w5.heap.size w5 w6) := bel_of ((Below.refl _ w5).alloc (Nat.le_refl _) _) hb6 (Nat.le_refl _)); (have hz6 : w6.heap[w5.heap.size]? = some (.cells #[.int .i64 v1, .int .i64 v2, .string (S v3)] 48 (0, 0)) := (hb6.block w5.heap.size (by simp)).trans (heap_alloc_new w5 _)); (have j0 := cell_of (k := 0) hz6 rfl); (have j1 := cell_of (k := 1) hz6 rfl); (have j2 := cell_of (k := 2) hz6 rfl); (have jl := (Array.getElem?_eq_some_iff.1 hz6).1); clear hb6 hz6))
          go_ret
          exact ⟨rfl, HW.out.trans ((H5.out.trans (H6.out.mono H5.out.size)).mono HW.out.size)⟩
        | no er x =>
          have hev : evl l vs = (((0, 0, []) : V9), er) := by unfold evl; rw [if_pos hmr.out.1, if_pos hmr.out.2, hrk]; rfl
          rw [hrk] at hS
          rw [hev] at EV
          generalize chkE l (dls vs) = C at *
          obtain ⟨ck, ce, ca⟩ := C
          simp only at h0 CK
          subst h0
          unfold vA' at EV
          simp only at EV
          clear hev hrk hmr
          rcases hS with rfl | rfl
          all_goals
            go_wp2_with (first
              | (go_at_call 17; refine (CK.out wr (Below.refl _ _)).mono ?_; rintro e w4 ⟨rfl, hb4⟩; (have H4 : Hid (Below wr.heap.size wr w4) := hb4); clear hb4 CK)
              | (go_at_call 20; refine (EV.out w4 H4.out).mono ?_; rintro e w5 ⟨rfl, hb5⟩; (have H5 : Hid (Below wr.heap.size wr w5) := H4.out.trans (hb5.mono H4.out.size)); clear hb5 EV))
            go_ret
            exact ⟨rfl, HW.out.trans ((H5.out.alloc H5.out.size _).mono HW.out.size)⟩
      · generalize chkE l (dls vs) = C at *
        obtain ⟨ck, ce, ca⟩ := C
        generalize evl l vs = E at *
        obtain ⟨⟨u0, u1, u2⟩, ue⟩ := E
        unfold vA' at EV
        simp only at he ha1 ha2 CK EV
        clear hmr
        rcases he with rfl | rfl
        all_goals
          go_wp2_with (first
            | (go_at_call 17; refine (CK.out wr (Below.refl _ _)).mono ?_; rintro e w4 ⟨rfl, hb4⟩; (have H4 : Hid (Below wr.heap.size wr w4) := hb4); clear hb4 CK)
            | (go_at_call 20; refine (EV.out w4 H4.out).mono ?_; rintro e w5 ⟨rfl, hb5⟩; (have H5 : Hid (Below wr.heap.size wr w5) := H4.out.trans (hb5.mono H4.out.size)); clear hb5 EV))
          go_ret
          exact ⟨rfl, HW.out.trans ((H5.out.alloc H5.out.size _).mono HW.out.size)⟩
end Go.Proofs.YtpbfdaijnndilaaGreatDoor.x10

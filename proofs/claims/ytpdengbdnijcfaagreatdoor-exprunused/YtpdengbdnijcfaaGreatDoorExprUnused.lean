/-
  ExprUnused holds of every text, every variables and every number, whatever they are.
-/
import Derived.Test.YtpdengbdnijcfaaGreatDoorX10Arg
import Derived.Test.YtpdengbdnijcfaaGreatDoorX10Bnd
import Derived.Deep.DeepAppendWide
import Derived.Laws.AppendOwnNone
namespace Go.Proofs.YtpdengbdnijcfaaGreatDoor.x10
open Go.RowKit Go.Shelf Go.Sort
open Go.Lib hiding intOf

def zz (n : Int) : Vr := (⟨#[122, 122, 122]⟩, 1, n, [])
theorem S_zz {s : List UInt8} (h : S s = ⟨#[122, 122, 122]⟩) : s = [122, 122, 122] := by
  have := congrArg (fun b : ByteArray => b.data.toList) h
  simpa [S] using this
theorem getV_more {x : Vr} {k : ByteArray} (h : x.1 ≠ k) : ∀ vs : List Vr, getV (vs ++ [x]) k = getV vs k
  | [] => by show (if x.1 = k then _ else _) = _; rw [if_neg h]
  | y :: vs => by
    show (if y.1 = k then _ else getV (vs ++ [x]) k) = (if y.1 = k then _ else getV vs k)
    rw [getV_more h vs]
theorem varR_more {vs : List Vr} {n : Int} {s : List UInt8} (h : s ≠ [122, 122, 122]) : varR (vs ++ [zz n]) s = varR vs s := by
  unfold varR
  rw [getV_more (fun e => h (S_zz e.symm))]
theorem rk_more {l : List P10} {vs : List Vr} {m : Int} (h : ∀ p ∈ l, p.1 = 2 → p.2.2.2.2.2 ≠ [122, 122, 122]) : ∀ n i, rk l (vs ++ [zz m]) n i = rk l vs n i
  | 0, _ => rfl
  | n + 1, i => by
    by_cases hi : i < l.length
    · rw [rk_succ hi, rk_succ hi]
      simp only [rk_more h n]
      by_cases h1 : l[i].1 = 1
      · rw [if_pos h1, if_pos h1]
      · rw [if_neg h1, if_neg h1]
        by_cases h2 : l[i].1 = 2
        · rw [if_pos h2, if_pos h2, varR_more (h _ (List.getElem_mem hi) h2)]
        · rw [if_neg h2, if_neg h2]
    · unfold rk
      rw [List.getElem?_eq_none (by omega)]
theorem rgt_front {vs : List Vr} {x : Vr} (h : rgt (vs ++ [x]) = true) : rgt vs = true := by
  unfold rgt at h ⊢
  rw [Bool.and_eq_true] at h ⊢
  refine ⟨?_, ?_⟩
  · have := of_decide_eq_true h.1
    rw [List.length_append] at this
    exact decide_eq_true (by omega)
  · have := rf_take h.2 vs.length
    rwa [List.take_left] at this
theorem evl_more {l : List P10} {vs : List Vr} {m : Int} (h : ∀ p ∈ l, p.1 = 2 → p.2.2.2.2.2 ≠ [122, 122, 122]) (he : (evl l (vs ++ [zz m])).2 ≠ 1) : evl l vs = evl l (vs ++ [zz m]) := by
  unfold evl at he ⊢
  cases hm : mayE l with
  | false => rw [if_neg (by simp), if_neg (by simp)]
  | true =>
    rw [hm, if_pos rfl] at he
    rw [if_pos rfl, if_pos rfl]
    cases hr : rgt (vs ++ [zz m]) with
    | false => rw [hr, if_neg (by simp)] at he; exact absurd rfl he
    | true => rw [rgt_front hr, if_pos rfl, if_pos rfl, rk_more h]
def vc (x : Vr) : List Value := [.string x.1, .int .i64 x.2.1, .int .i64 x.2.2.1, .string (S x.2.2.2)]
def vcs (l : List Vr) : List Value := l.flatMap vc
theorem vcs_cons (x : Vr) (t : List Vr) : vcs (x :: t) = vc x ++ vcs t := rfl
theorem vcs_append (a b : List Vr) : vcs (a ++ b) = vcs a ++ vcs b := List.flatMap_append
theorem vcs_len : ∀ l : List Vr, (vcs l).length = l.length * 4
  | [] => rfl
  | x :: t => by rw [vcs_cons, List.length_append, vcs_len t, List.length_cons, show (vc x).length = 4 from rfl]; omega
theorem vcs_get : ∀ (l : List Vr) (j i : Nat), i < 4 → (vcs l)[j * 4 + i]? = (l[j]?).bind (fun x => (vc x)[i]?)
  | [], j, i, _ => by simp [vcs]
  | x :: t, 0, i, h => by rw [vcs_cons, Nat.zero_mul, Nat.zero_add, List.getElem?_append_left (show i < (vc x).length from h)]; rfl
  | x :: t, j + 1, i, h => by
    rw [vcs_cons, List.getElem?_append_right (by show 4 ≤ _; omega), show (j + 1) * 4 + i - (vc x).length = j * 4 + i by show _ - 4 = _; omega, vcs_get t j i h]
    rfl
theorem vcs_one : ∀ (l : List Vr) (u : Value), u ∈ vcs l → u.oneCell' = true := by
  intro l u hu
  obtain ⟨x, -, hx⟩ := List.mem_flatMap.1 hu
  simp only [vc, List.mem_cons, List.not_mem_nil, or_false] at hx
  rcases hx with rfl | rfl | rfl | rfl <;> rfl
/-- a row of one's own is a slice -/
theorem Vs.row {w : World} {base : Nat} {v : Value} {l : List Vr} (h : w.ownsRow base 26 4 v l.length (vcs l)) : Vs w v l := by
  rcases h.2 with ⟨rfl, h0⟩ | ⟨g, cap, cur, rfl, _, hg, hnc, _⟩
  · exact ⟨none, 0, by rw [h0], ⟨by omega, fun _ => rfl⟩, .inl (List.eq_nil_of_length_eq_zero h0)⟩
  · refine ⟨some ⟨g, 0, none⟩, cap, rfl, ⟨hnc, fun e => by cases e⟩, .inr ⟨g, 0, rfl, (Array.getElem?_eq_some_iff.1 hg).1, fun j hj => ?_⟩⟩
    have c : ∀ i u, i < 4 → (vc l[j])[i]? = some u → w.cell? ⟨g, 0 + j * 4 + i, none⟩ = some u := fun i u hi hu => by
      rw [Nat.zero_add]
      refine row_cell h ?_
      rw [vcs_get l j i hi, List.getElem?_eq_getElem hj]
      exact hu
    exact ⟨c 0 _ (by omega) rfl, c 1 _ (by omega) rfl, c 2 _ (by omega) rfl, c 3 _ (by omega) rfl⟩
theorem Vs.cells {w : World} {l : List Vr} {ad : Addr} {cap : Nat} (h : Vs w (.slice (some ad) l.length cap) l) : ∀ j u, (vcs l)[j]? = some u → w.cell? (ad.add j) = some u := by
  obtain ⟨a, c, e, -, h⟩ := h
  cases e
  rcases h with rfl | ⟨b, off, e, -, hc⟩
  · intro j u hj; simp [vcs] at hj
  · cases e
    intro j u hj
    have e1 : j = j / 4 * 4 + j % 4 := by omega
    have hlt : j < (vcs l).length := (List.getElem?_eq_some_iff.1 hj).1
    rw [vcs_len] at hlt
    have hq : j / 4 < l.length := by omega
    rw [e1, vcs_get l (j / 4) (j % 4) (by omega), List.getElem?_eq_getElem hq] at hj
    rw [Addr.add_lit]
    obtain ⟨c0, c1, c2, c3⟩ := hc (j / 4) hq
    have hm : j % 4 < 4 := by omega
    obtain ⟨m, hmm⟩ : ∃ m, j % 4 = m := ⟨_, rfl⟩
    rw [hmm] at hj hm e1
    match m, hm with
    | 0, _ => rw [e1]; simp [vc] at hj; subst hj; rw [← Nat.add_assoc, Nat.add_zero]; exact c0
    | 1, _ => rw [e1]; simp [vc] at hj; subst hj; rw [← Nat.add_assoc]; exact c1
    | 2, _ => rw [e1]; simp [vc] at hj; subst hj; rw [← Nat.add_assoc]; exact c2
    | 3, _ => rw [e1]; simp [vc] at hj; subst hj; rw [← Nat.add_assoc]; exact c3
theorem new_four (W : World) (n : Nat) (hn : n = W.heap.size) (a b c d : Value) (T : TypeId) : ∀ j u, ([a, b, c, d] : List Value)[j]? = some u → (W.alloc (.cells #[a, b, c, d] T)).cell? ((⟨n, 0, none⟩ : Addr).add j) = some u := by
  subst hn
  intro j u h
  rw [Addr.add_lit, Nat.zero_add, World.cell?_alloc_new]
  simpa using h
theorem one_four (x : Vr) : ∀ u ∈ vc x, u.oneCell' = true := fun u hu => vcs_one [x] u (by simpa [vcs] using hu)
theorem infoV10 : (Tryz.prog.info? 26).map (fun i => (i.zero, i.size, i.bytes)) = some (some (.agg #[.string ⟨#[]⟩, .int .i64 0, .int .i64 0, .string ⟨#[]⟩]), 4, 48) := by kernel_rfl
/-- what '[]api.Var' of no elements with variables behind it comes to -/
theorem lit_v {W : World} {a : Option Addr} {cp : Nat} {l : List Vr} (h : Vs W (.slice a l.length cp) l) (hn : l.length * 48 ≤ 140737488355328) (ty : TypeId) :
    ∃ v' w', (Builtin.append_ #[27, 27] ty #[.slice (some ⟨W.heap.size, 0, none⟩) 0 0, .slice a l.length cp]).run Tryz.prog (W.alloc (.cells #[] 26)) = .ok v' w' ∧ (∃ a n c, v' = .slice a n c) ∧ w'.ownsRow W.heap.size 26 4 v' l.length (vcs l) ∧ Below W.heap.size W w' := by
  obtain ⟨i0, hi0, hz0, hz1, hz2⟩ := info_parts infoV10
  have hb : Below W.heap.size W (W.alloc (.cells #[] 26)) := (Below.refl _ W).alloc (Nat.le_refl _) _
  have HR : (W.alloc (.cells #[] 26)).ownsRow W.heap.size 26 4 (.slice (some ⟨W.heap.size, 0, none⟩) 0 0) 0 [] := ⟨by simp, .inr ⟨W.heap.size, 0, #[], rfl, Nat.le_refl _, heap_alloc_new W _, Nat.le_refl _, by unfold maxLen; omega, by simp, by simp⟩⟩
  have h' := h.up hb
  cases a with
  | none =>
    have hl : l = [] := by
      obtain ⟨a', cp', e, hcp, -⟩ := h
      cases e
      exact List.eq_nil_of_length_eq_zero (by have := hcp.1; have := hcp.2 rfl; omega)
    have hc : cp = 0 := by
      obtain ⟨a', cp', e, hcp, -⟩ := h
      cases e
      exact hcp.2 rfl
    subst hl hc
    exact ⟨_, _, run_append_owned_none (P := Tryz.prog) (W.alloc (.cells #[] 26)) W.heap.size 27 ty 26 i0 4 Tryz.underlying27 hi0 _ _ _ HR, ⟨_, _, _, rfl⟩, HR, hb⟩
  | some ad =>
    obtain ⟨v', w', hr, h2, h3, _⟩ := run_append_own_wide (P := Tryz.prog) (W.alloc (.cells #[] 26)) W.heap.size 27 ty 26 i0 _ 4 48 Tryz.underlying27 hi0 hz0 hz1 hz2 rfl (by omega) _ _ _ HR ad l.length cp (vcs l) (vcs_len l) (Vs.cells h') (vcs_one l) (by unfold maxLen; omega) (by omega) (by simp)
    obtain ⟨a2, c2, e2, -⟩ := row_slice h2
    refine ⟨v', w', hr, ⟨a2, _, c2, e2⟩, by simpa using h2, ?_⟩
    exact hb.grown h3 (by simp) (fun b hb' => by simp [Value.ownBlock] at hb'; omega)
theorem zz_sm {vs : List Vr} {n : Int} (h : Sm9 vs) (hn : -9223372036854775808 ≤ n ∧ n ≤ 9223372036854775807) : Sm9 (vs ++ [zz n]) := fun p hp => by
  rcases List.mem_append.1 hp with hp | hp
  · exact h p hp
  · rw [List.mem_singleton] at hp
    subst hp
    exact ⟨Nat.le_of_ble_eq_true rfl, ⟨by show (-9223372036854775808 : Int) ≤ 1; omega, by show (1 : Int) ≤ 9223372036854775807; omega⟩, hn, Nat.zero_le _⟩
set_option maxHeartbeats 2000000 in
set_option maxRecDepth 100000 in
theorem uns_no {w : World} {B : Nat} (hg : Gx B w) (hv : Gv B w) (hB : B ≤ w.heap.size) {s : List UInt8} {l : List P10} {e a : Int} (hp : prs 4100 s = some (l, e, a)) {vs : List Vr} {v0 : Value} (hV : Vs w v0 vs) {n : Int} (he : ¬ e = 0) : Calls Tryz.prog 5 #[.string (S s), v0, .int .i64 n] w fun e w' => e = .returned (.bool true) ∧ Below w.heap.size w w' := by
  have HG : Hid (∀ W, Below w.heap.size w W → Gx B W ∧ Gv B W ∧ B ≤ W.heap.size) := fun W hW => ⟨hg.below (hW.mono hB), hv.below (hW.mono hB), Nat.le_trans hB hW.size⟩
  have HP : Hid (∀ W, Below w.heap.size w W → _) := fun W hW => Parse_any 4100 W (HG.out W hW).1 (HG.out W hW).2.2 hp
  have h1 : (e == 0) = false := beq_eq_false_iff_ne.2 he
  obtain ⟨va, vcap, rfl, -⟩ := hV
  clear hg hv hB hp
  go_enter Tryz.func5, Tryz.ntmps5
  go_wp2_with (first
    | (go_at_call 9; refine (shown10_any (HG.out w (Below.refl _ _)).1 (HG.out w (Below.refl _ _)).2.1 (HG.out w (Below.refl _ _)).2.2).mono ?_; rintro e w1 ⟨rfl, hb1⟩; (have HB1 : Hid (Below w.heap.size w w1) := hb1); clear hb1)
    | (go_at_call 10; refine (HP.out w1 HB1.out).mono ?_; rintro e w2 ⟨v2, rfl, hx2, hb2⟩; (have HX2 : Hid (Es w2 v2 l) := Px.es hx2); obtain ⟨a2, c2, hv2, -⟩ := row_slice hx2; subst hv2; (have HB2 : Hid (Below w.heap.size w w2) := bel_of HB1.out hb2 (Nat.le_refl _)); clear hx2 hb2))
  go_ret
  exact ⟨rfl, HB2.out⟩
set_option maxHeartbeats 8000000 in
set_option maxRecDepth 100000 in
theorem uns_go {w : World} {B : Nat} (hg : Gx B w) (hv : Gv B w) (hB : B ≤ w.heap.size) {s : List UInt8} {l : List P10} {e a : Int} (hp : prs 4100 s = some (l, e, a)) {vs : List Vr} {v0 : Value} (hV : Vs w v0 vs) {n : Int} (he : e = 0) (hvl : vs.length * 48 ≤ 140737488355328) (hsm : Sm9 vs) (hn : -9223372036854775808 ≤ n ∧ n ≤ 9223372036854775807) : Calls Tryz.prog 5 #[.string (S s), v0, .int .i64 n] w fun e w' => e = .returned (.bool true) ∧ Below w.heap.size w w' := by
  have HG : Hid (∀ W, Below w.heap.size w W → Gx B W ∧ Gv B W ∧ B ≤ W.heap.size) := fun W hW => ⟨hg.below (hW.mono hB), hv.below (hW.mono hB), Nat.le_trans hB hW.size⟩
  have HP : Hid (∀ W, Below w.heap.size w W → _) := fun W hW => Parse_any 4100 W (HG.out W hW).1 (HG.out W hW).2.2 hp
  have HS : Hid (l.length ≤ 4611686018427387904 ∧ ∀ p ∈ l, p.2.2.2.2.2.length ≤ 4611686018427387904) := ⟨by have := (prs_bd hp).1; omega, fun p hq => by have := ((prs_bd hp).2 p hq).2; omega⟩
  have HN : Hid (vs.length * 48 ≤ 140737488355328 ∧ Sm9 vs ∧ (-9223372036854775808 ≤ n ∧ n ≤ 9223372036854775807)) := ⟨hvl, hsm, hn⟩
  have HV : Hid (Vs w v0 vs) := hV
  obtain ⟨va, vcap, rfl, -⟩ := hV
  subst he
  have h100 : l.length ≤ 100 := (prs_bd hp).1
  have hvb : vs.length ≤ 4611686018427387904 := by omega
  clear hg hv hB hp hvl hsm hn
  go_enter Tryz.func5, Tryz.ntmps5
  go_wp2_with (first
    | (go_at_call 9; refine (shown10_any (HG.out w (Below.refl _ _)).1 (HG.out w (Below.refl _ _)).2.1 (HG.out w (Below.refl _ _)).2.2).mono ?_; rintro e w1 ⟨rfl, hb1⟩; (have HB1 : Hid (Below w.heap.size w w1) := hb1); clear hb1)
    | (go_at_call 10; refine (HP.out w1 HB1.out).mono ?_; rintro e w2 ⟨v2, rfl, hx2, hb2⟩; (have HX2 : Hid (Es w2 v2 l) := Px.es hx2); obtain ⟨a2, c2, hv2, -⟩ := row_slice hx2; subst hv2; (have HB2 : Hid (Below w.heap.size w w2) := bel_of HB1.out hb2 (Nat.le_refl _)); clear hx2 hb2))
  go_loopw [11] (fun v11 wr => ∃ i : Nat, v11 = .int .i64 (i : Int) ∧ i ≤ l.length ∧ Hid (Below w2.heap.size w2 wr) ∧ Hid (∀ j (h : j < i) (h2 : j < l.length), l[j].1 = 2 → l[j].2.2.2.2.2 ≠ [122, 122, 122])) (fun v11 _ => l.length - (intOf v11).toNat)
  case atStart => exact ⟨0, rfl, Nat.zero_le _, Below.refl _ _, fun j h => absurd h (Nat.not_lt_zero _)⟩
  case round =>
    obtain ⟨i, rfl, hi, HR, HJ⟩ := hrel
    by_cases hlt : i < l.length
    · obtain ⟨b, off, cap, hsl, hbl, hcc⟩ := (HX2.out.below HR.out).at hlt
      obtain ⟨d0, -, -, -, -, d5⟩ := hcc i hlt
      cases hsl
      have i1 : (0 : Int) ≤ (i : Int) := by omega
      have i2 : (i : Int) < (l.length : Int) := by omega
      clear hcc
      by_cases h2 : l[i].1 = 2
      · rw [h2] at d0
        by_cases h3 : l[i].2.2.2.2.2 = [122, 122, 122]
        · rw [h3, show S [122, 122, 122] = ⟨#[122, 122, 122]⟩ from rfl] at d5
          clear h2 h3
          go_wp2
          go_ret
          exact ⟨rfl, bel_of HB2.out HR.out (Nat.le_refl _)⟩
        · have hne : ((S l[i].2.2.2.2.2).toList == [122, 122, 122]) = false := by rw [S_toList]; exact beq_eq_false_iff_ne.2 h3
          have HJ2 : Hid (∀ j (h : j < i + 1) (h2 : j < l.length), l[j].1 = 2 → l[j].2.2.2.2.2 ≠ [122, 122, 122]) := fun j hj h4 => by
            rcases Nat.lt_succ_iff_lt_or_eq.1 hj with q | q
            · exact HJ.out j q h4
            · subst q; exact fun _ => h3
          generalize S l[i].2.2.2.2.2 = st at *
          clear h2 h3
          go_wp2
          go_roundw
          case rel => exact ⟨i + 1, by simp, hlt, HR, HJ2⟩
          case measure => simp [intOf]; omega
      · have hne : (l[i].1 == 2) = false := beq_eq_false_iff_ne.2 h2
        have HJ2 : Hid (∀ j (h : j < i + 1) (h2 : j < l.length), l[j].1 = 2 → l[j].2.2.2.2.2 ≠ [122, 122, 122]) := fun j hj h4 => by
          rcases Nat.lt_succ_iff_lt_or_eq.1 hj with q | q
          · exact HJ.out j q h4
          · subst q; exact fun h5 => absurd h5 h2
        generalize l[i].1 = op at *
        go_wp2
        go_roundw
        case rel => exact ⟨i + 1, by simp, hlt, HR, HJ2⟩
        case measure => simp [intOf]; omega
    · obtain rfl : i = l.length := by omega
      have HZ : Hid (∀ p ∈ l, p.1 = 2 → p.2.2.2.2.2 ≠ [122, 122, 122]) := fun p hp => by
        obtain ⟨j, hj, rfl⟩ := List.getElem_of_mem hp
        exact HJ.out j hj hj
      have H2R : Hid (Below w.heap.size w wr) := bel_of HB2.out HR.out (Nat.le_refl _)
      clear HJ hi hlt
      generalize wr = wq at *
      go_wp2
      go_loopw [12] (fun v12 wr => ∃ i : Nat, v12 = .int .i64 (i : Int) ∧ i ≤ vs.length ∧ Hid (Below wq.heap.size wq wr)) (fun v12 _ => vs.length - (intOf v12).toNat)
      case atStart => exact ⟨0, rfl, Nat.zero_le _, Below.refl _ _⟩
      case round =>
        obtain ⟨j, rfl, hj, HR2⟩ := hrel
        by_cases hlt : j < vs.length
        · obtain ⟨b, off, cap, hsl, hbl, hcc⟩ := (HV.out.up (H2R.out.trans (HR2.out.mono H2R.out.size))).at hlt
          obtain ⟨d0, -⟩ := hcc wr (Below.refl _ _)
          cases hsl
          have i1 : (0 : Int) ≤ (j : Int) := by omega
          have i2 : (j : Int) < (vs.length : Int) := by omega
          clear hcc
          by_cases h3 : vs[j].1 = ⟨#[122, 122, 122]⟩
          · rw [h3] at d0
            clear h3
            go_wp2
            go_ret
            exact ⟨rfl, H2R.out.trans (HR2.out.mono H2R.out.size)⟩
          · have hne : (vs[j].1.toList == [122, 122, 122]) = false := by
              have h4 := str_ne h3
              rwa [show (⟨#[122, 122, 122]⟩ : ByteArray).toList = [122, 122, 122] from by kernel_rfl] at h4
            generalize vs[j].1 = st at *
            clear h3
            go_wp2
            go_roundw
            case rel => exact ⟨j + 1, by simp, hlt, HR2⟩
            case measure => simp [intOf]; omega
        · obtain rfl : j = vs.length := by omega
          clear hj hlt
          obtain ⟨v5, w5, hrun, ⟨a5, n5, c5, hv5⟩, hr5, hb5⟩ := lit_v (HV.out.up (H2R.out.trans (HR2.out.mono H2R.out.size))) HN.out.1 27
          subst hv5
          have H5 : Hid (Below w.heap.size w w5) := (H2R.out.trans (HR2.out.mono H2R.out.size)).trans (hb5.mono (by have h1 := H2R.out.size; have h2 := HR2.out.size; omega))
          have HO5 : Hid (w5.ownsRow wr.heap.size 26 4 (.slice a5 n5 c5) vs.length (vcs vs)) := hr5
          have HS5 : Hid (wr.heap.size ≤ w5.heap.size) := hb5.size
          have hw5 : Hid (Below wr.heap.size wr w5) := hb5
          clear hr5 hb5
          obtain ⟨i0, hi0, hz0, hz1, hz2⟩ := info_parts infoV10
          go_upto_region 17 with (first
            | (at_builtin; refine Lib.wpList_append_run _ rfl _ _ _ _ rfl _ _ rfl rfl _ _ hrun ?_; clear hrun)
            | (at_builtin; refine wpList_append_own_wide _ rfl _ _ 27 rfl wr.heap.size 26 i0 _ 4 48 Tryz.underlying27 hi0 hz0 hz1 hz2 rfl (by decide) _ _ _ rfl (World.ownsRow.alloc HO5.out _) ⟨w5.heap.size, 0, none⟩ 1 1 (vc (zz n)) rfl rfl (new_four _ _ rfl _ _ _ _ _) (one_four _) (by have := HN.out.1; unfold maxLen; omega) (by have := HN.out.1; omega) (by have := HS5.out; rw [World.size_alloc]; omega) ?_; intro v7 w7 ho7 hg7 _; (have HO7 : Hid (w7.ownsRow wr.heap.size 26 4 v7 (vs.length + 1) (vcs vs ++ vc (zz n))) := ho7); (have hb7 : Below wr.heap.size wr w7 := (hw5.out.alloc HS5.out _).grown hg7 (by have := HS5.out; rw [World.size_alloc]; omega) (fun b hb => (HO5.out.lt b hb).1)); (have HB7 : Hid (Below wr.heap.size wr w7) := hb7); obtain ⟨a7, c7, hv7, -⟩ := row_slice ho7; subst hv7; clear ho7 hg7 hb7))
          have H7 : Hid (Below w.heap.size w w7) := (H2R.out.trans (HR2.out.mono H2R.out.size)).trans (HB7.out.mono (by have h1 := H2R.out.size; have h2 := HR2.out.size; omega))
          have HV7 : Hid (Vs w7 (.slice a7 (vs.length + 1) c7) (vs ++ [zz n])) := by
            have h1 : vcs vs ++ vc (zz n) = vcs (vs ++ [zz n]) := by rw [vcs_append]; simp [vcs]
            have h2 := HO7.out
            have h3 : vs.length + 1 = (vs ++ [zz n]).length := by rw [List.length_append]; rfl
            rw [h1] at h2
            rw [h3] at h2 ⊢
            exact Vs.row h2
          obtain ⟨n7, hn7⟩ : ∃ n7, vs.length + 1 = n7 := ⟨_, rfl⟩
          rw [hn7] at HV7 ⊢
          have HX7 : Hid (Es w7 (.slice a2 l.length c2) l) := HX2.out.below ((HR.out.trans (HR2.out.mono HR.out.size)).trans (HB7.out.mono (by have h1 := HR.out.size; have h2 := HR2.out.size; omega)))
          have hlv : vs.length ≤ 4611686018427387904 := by have := HN.out.1; omega
          have hlz : (vs ++ [zz n]).length ≤ 4611686018427387904 := by rw [List.length_append]; show vs.length + 1 ≤ _; have := HN.out.1; omega
          have HE1 : Hid (∀ W, Below w.heap.size w W → _) := fun W hW => Eval_any (HX7.out) (HG.out w7 H7.out).1 (HG.out w7 H7.out).2.2 (HV.out.up H7.out) hlv HN.out.2.1 HS.out.2 HS.out.1
          have HE2 : Hid (∀ W, Below w7.heap.size w7 W → _) := fun W hW => Eval_any (HX7.out.below hW) (HG.out W (bel_of H7.out hW (Nat.le_refl _))).1 (HG.out W (bel_of H7.out hW (Nat.le_refl _))).2.2 (HV7.out.up hW) hlz (zz_sm HN.out.2.1 HN.out.2.2) HS.out.2 HS.out.1
          clear hlv hlz hn7 hi0 hz0 hz1 hz2
          by_cases hE : (evl l (vs ++ [zz n])).2 = 1
          · generalize evl l vs = X1 at *
            generalize evl l (vs ++ [zz n]) = X2 at *
            obtain ⟨⟨u0, u1, u2⟩, ue⟩ := X1
            obtain ⟨⟨y0, y1, y2⟩, ye⟩ := X2
            simp only at hE
            subst hE
            unfold vA' at HE1 HE2
            simp only at HE1 HE2
            go_wp2_with (first
              | (go_at_call_of 11 (Value.slice va vs.length vcap); refine (HE1.out w7 H7.out).mono ?_; rintro e w8 ⟨rfl, hb8⟩; (have H8 : Hid (Below w.heap.size w w8) := H7.out.trans (hb8.mono H7.out.size)); (have H78 : Hid (Below w7.heap.size w7 w8) := hb8); clear hb8)
              | (go_at_call_of 11 (Value.slice a7 n7 c7); refine (HE2.out _ (H78.out.alloc H78.out.size _)).mono ?_; rintro e w9 ⟨rfl, hb9⟩; (have H9 : Hid (Below w.heap.size w w9) := bel_of (H8.out.alloc H8.out.size _) hb9 (Nat.le_refl _)); clear hb9))
            go_ret
            exact ⟨rfl, H9.out.alloc H9.out.size _⟩
          · rw [evl_more HZ.out hE] at HE1
            generalize evl l (vs ++ [zz n]) = X2 at *
            obtain ⟨⟨u0, u1, u2⟩, ue⟩ := X2
            simp only at hE
            have hE2 : (ue == 1) = false := beq_eq_false_iff_ne.2 hE
            unfold vA' at HE1 HE2
            simp only at HE1 HE2
            go_wp2_with (first
              | (go_at_call_of 11 (Value.slice va vs.length vcap); refine (HE1.out w7 H7.out).mono ?_; rintro e w8 ⟨rfl, hb8⟩; (have H8 : Hid (Below w.heap.size w w8) := H7.out.trans (hb8.mono H7.out.size)); (have H78 : Hid (Below w7.heap.size w7 w8) := hb8); clear hb8)
              | (go_at_call_of 11 (Value.slice a7 n7 c7); refine (HE2.out _ (H78.out.alloc H78.out.size _)).mono ?_; rintro e w9 ⟨rfl, hb9⟩; (have H9 : Hid (Below w.heap.size w w9) := bel_of (H8.out.alloc H8.out.size _) hb9 (Nat.le_refl _)); (have hz9 : w9.heap[w8.heap.size]? = some (.cells #[.int .i64 u0, .int .i64 u1, .string (S u2)] 24 (0, 0)) := (hb9.block w8.heap.size (by simp)).trans (heap_alloc_new w8 _)); (have j0 := cell_of (k := 0) hz9 rfl); (have j1 := cell_of (k := 1) hz9 rfl); (have j2 := cell_of (k := 2) hz9 rfl); (have jl := (Array.getElem?_eq_some_iff.1 hz9).1); clear hb9 hz9))
            go_ret
            exact ⟨rfl, H9.out.alloc H9.out.size _⟩
end Go.Proofs.YtpdengbdnijcfaaGreatDoor.x10

namespace Go.Proofs.YtpdengbdnijcfaaGreatDoor.exprUnused
open Go.Proofs.YtpdengbdnijcfaaGreatDoor.x10
open Go.ChangeShapes Go.WideShapes Go.ChangeAt Go.WideMaps Go.WideElems Go.RowKit
theorem walk {w : World} (hg : Gx w.heap.size w) (hv : Gv w.heap.size w) (s : List UInt8) {vs : List Vr} {v0 : Value} (hV : Vs w v0 vs) (hvl : vs.length * 48 ≤ 140737488355328) (hsm : Sm9 vs) {n : Int} (hn : -9223372036854775808 ≤ n ∧ n ≤ 9223372036854775807) : Calls Tryz.prog 5 #[.string (S s), v0, .int .i64 n] w fun e w' => e = .returned (.bool true) ∧ Below w.heap.size w w' := by
  obtain ⟨⟨l, e, a⟩, hp⟩ := prs_some s (Nat.le_refl 4100)
  by_cases he : e = 0
  · exact uns_go hg hv (Nat.le_refl _) hp hV he hvl hsm hn
  · exact uns_no hg hv (Nat.le_refl _) hp hV he
set_option maxRecDepth 100000 in
theorem lifted (os : Os) (started : os.Started) (H : Type) (enc : TypeId × Value → H) :
    ReturnsInHanded {} Tryz.checked os 5 .any (fun w args => (Rows.exprUnusedSpec.pre enc Tryz.prog Tryz.f5 [] false w args ∧ laidMetH Tryz.prog laid7 w) ∧ sizedMet enc Tryz.prog Tryz.f5 (OpenSpec.ofChange Rows.exprUnusedSpec) false w args)
      (Rows.exprUnusedSpec.post enc Tryz.prog Tryz.f5 false true false false) := by
  refine returnsInHanded_of_change_and (C := Tryz.checked) (X := fun w _ => laidMetH Tryz.prog laid7 w) (fun _ _ _ hh h => h.of_heap hh) own10 started (by kernel_rfl) Tryz.func5
    (ChangeSpec.witness_shaped (enc := enc) (C := Tryz.checked) (os := os) (X := fun w _ => laidMetH Tryz.prog laid7 w) false (World.doorLaid Tryz.prog 400 os) #[.string .empty, .slice none 0 0, .int .i64 0] 8 rfl (World.shaped_of_RefB (by kernel_rfl) (by kernel_rfl)) (by kernel_rfl) (by kernel_rfl) (by kernel_rfl) (door_met os _)) ?_
  intro W base args ds gs before hval0 hW hcnd hsz0 hL _
  have hval : ∀ (j : Nat) t v, Tryz.f5.params[j]? = some t → args[j]? = some v → Value.okWide Tryz.prog W .any base t v := hval0
  have hW' := hW
  obtain ⟨p, q, hA0, hV, rfl, hfz, hnd⟩ := hW
  have hA : DataW.TrodAll enc Tryz.prog W 0 (fun _ => true) true Tryz.f5.params.toList args.toList ds p := hA0
  have hsz : (DataW.weightsEach Tryz.prog (Tryz.f5.params.toList ++ Rows.exprUnusedSpec.plain.varTypes Tryz.prog) (ds ++ gs)).all (· ≤ reachBytes) = true := hsz0
  rw [Tryz.params5] at hA hval hsz
  obtain ⟨v0, vs0, d0, ds0, p0, q0, hargs, rfl, rfl, h0, r0⟩ := trodAll_cons hA
  obtain ⟨v1, vs1, d1, ds1, p1, q1, rfl, rfl, rfl, h1, r1⟩ := trodAll_cons r0
  obtain ⟨v2, vs2, d2, ds2, p2, q2, rfl, rfl, rfl, h2, r2⟩ := trodAll_cons r1
  obtain ⟨rfl, rfl, rfl⟩ := trodAll_nil r2
  obtain rfl : args = #[v0, v1, v2] := by cases args; simp_all
  obtain ⟨rfl, rfl⟩ := trodVars_none hV
  have lt0 : ∀ x ∈ p0, x.block < W.heap.size := by obtain ⟨m, hm⟩ := h0; exact DataW.trod_lt m _ _ _ hm
  have lt1 : ∀ x ∈ p1, x.block < W.heap.size := by obtain ⟨m, hm⟩ := h1; exact DataW.trod_lt m _ _ _ hm
  have k0 := h0
  obtain ⟨s0, rfl, rfl, rfl, w0⟩ := Go.ChangeMaps.open_string Tryz.underlying9 (hval 0 9 v0 rfl rfl) h0
  obtain ⟨l1, hv1, k1⟩ := openVars (hval 1 27 v1 rfl rfl) h1
  obtain ⟨a2, rfl, rfl, rfl, w2⟩ := open_int Tryz.underlying2 (hval 2 2 v2 rfl rfl) h2
  have z1 := k1 (sized_at hsz (i := 1) rfl rfl)
  clear hA0 hval0
  have HC := walk (gx_of hL) (gv_of hL) s0.data.toList hv1 z1.1 z1.2 (bounds_i64 w2)
  rw [S_of] at HC
  refine HC.mono fun e W' ⟨he, bel⟩ => ?_
  subst he
  exact ⟨_, rfl, _, _, _, [], _, [], hW', trodAll_mk1 (shut_bool Tryz.underlying4 _), (trodAll_cons_mk (Below.trod laidOut10 (by kernel_rfl) (of_decide_eq_true (by kernel_rfl)) k0 bel lt0) (trodAll_cons_mk (Below.trod laidOut10 (by kernel_rfl) (of_decide_eq_true (by kernel_rfl)) h1 bel lt1) (trodAll_cons_mk (shut_int Tryz.underlying2 w2) trodAll_mk0))), rfl, bel.frame _, fun h => by cases h⟩
theorem said : Rows.ExprUnusedSaid :=
  OpenClaim.holds_of_wide 5 Tryz.f5 rfl rfl rfl rfl rfl rfl rfl ⟨rfl, rfl, rfl, rfl, rfl⟩ rfl rfl rfl rfl rfl (by kernel_rfl) Tryz.func5 (by kernel_rfl)
    (of_decide_eq_true (by kernel_rfl)) (by unfold Func.isWrapper; first | (rw [if_pos (by decide +kernel)]; kernel_rfl) | (rw [if_neg (by decide +kernel)]; exact ⟨rfl, rfl⟩))
    (fun os started H enc _ => lifted os started H enc)
theorem proved : Rows.ExprUnusedCardSaid :=
  Claim7.holds_tied_plain_at .later [] [.data, .data, .data, .sentinel, .sentinel, .data, .data] true (true, "01b6627e36903762cc912256a461ee8df46f73bd94dc15f982ec678df759bca7") true
    said (fun _ h => by cases h) (by kernel_rfl) (fun _ h => by cases h) exprUnused_row_tie rfl ⟨rfl, rfl⟩ (by kernel_rfl) rfl
    (fun f fn hf hfn => by
      obtain rfl : f = 5 := Option.some.inj ((show Tryz.prog.funcNamed "wherry/wherrylaw10.ExprUnused" = some 5 by kernel_rfl).symm.trans hf) |>.symm
      obtain rfl : fn = Tryz.f5 := (Option.some.inj (Tryz.func5.symm.trans hfn)).symm
      exact ⟨by kernel_rfl, fun j t ht => by
        rw [Tryz.params5] at ht
        have hm : t ∈ [9, 27, 2] := by simpa using Array.mem_of_getElem? ht
        have hall : ([9, 27, 2].all fun u => !Tryz.prog.wantsStandIn u) = true := by kernel_rfl
        exact (show Tryz.prog.wantsStandIn t = false by simpa using List.all_eq_true.1 hall t hm)⟩)
    (by kernel_rfl)
end Go.Proofs.YtpdengbdnijcfaaGreatDoor.exprUnused

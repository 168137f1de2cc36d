/-
  Rows of variables; slices.Grow of nothing; slices.Concat of three.
-/
import Derived.Test.YtnelekbaniljkaaDoorV9Cmp
import Derived.Lib.AppendZeros
import Derived.Deep.DeepAppendWide
namespace Go.Proofs.YtnelekbaniljkaaDoor
open Go.RowKit Go.Shelf Go.Sort
open Go.Lib hiding intOf

/-- the cells of variables -/
def vc (x : Vr) : List Value := [.string x.1, .int .i64 x.2.1, .int .i64 x.2.2.1, .string (S x.2.2.2)]
def vcs (l : List Vr) : List Value := l.flatMap vc
theorem vcs_cons (x : Vr) (t : List Vr) : vcs (x :: t) = vc x ++ vcs t := rfl
theorem vcs_append (a b : List Vr) : vcs (a ++ b) = vcs a ++ vcs b := List.flatMap_append
theorem vcs_len : ∀ l : List Vr, (vcs l).length = l.length * 4
  | [] => rfl
  | x :: t => by rw [vcs_cons, List.length_append, vcs_len t, List.length_cons, show (vc x).length = 4 from rfl]; omega
theorem vcs_get : ∀ (l : List Vr) (j i : Nat), i < 4 → (vcs l)[j * 4 + i]? = (l[j]?).bind (fun x => (vc x)[i]?)
  | [], j, i, _ => by simp [vcs]
  | x :: t, 0, i, h => by rw [vcs_cons, Nat.zero_mul, Nat.zero_add, List.getElem?_append_left (show i < (vc x).length from h)]; rfl
  | x :: t, j + 1, i, h => by
    rw [vcs_cons, List.getElem?_append_right (by show 4 ≤ _; omega), show (j + 1) * 4 + i - (vc x).length = j * 4 + i by show _ - 4 = _; omega, vcs_get t j i h]
    rfl
theorem vcs_one : ∀ (l : List Vr) (u : Value), u ∈ vcs l → u.oneCell' = true := by
  intro l u hu
  obtain ⟨x, -, hx⟩ := List.mem_flatMap.1 hu
  simp only [vc, List.mem_cons, List.not_mem_nil, or_false] at hx
  rcases hx with rfl | rfl | rfl | rfl <;> rfl
/-- a row of one's own is a slice -/
theorem Vs.row {w : World} {base : Nat} {v : Value} {l : List Vr} (h : w.ownsRow base 49 4 v l.length (vcs l)) : Vs w v l := by
  rcases h.2 with ⟨rfl, h0⟩ | ⟨g, cap, cur, rfl, _, hg, hnc, _⟩
  · exact ⟨none, 0, by rw [h0], ⟨by omega, fun _ => rfl⟩, .inl (List.eq_nil_of_length_eq_zero h0)⟩
  · refine ⟨some ⟨g, 0, none⟩, cap, rfl, ⟨hnc, fun e => by cases e⟩, .inr ⟨g, 0, rfl, (Array.getElem?_eq_some_iff.1 hg).1, fun j hj => ?_⟩⟩
    have c : ∀ i u, i < 4 → (vc l[j])[i]? = some u → w.cell? ⟨g, 0 + j * 4 + i, none⟩ = some u := fun i u hi hu => by
      rw [Nat.zero_add]
      refine row_cell h ?_
      rw [vcs_get l j i hi, List.getElem?_eq_getElem hj]
      exact hu
    exact ⟨c 0 _ (by omega) rfl, c 1 _ (by omega) rfl, c 2 _ (by omega) rfl, c 3 _ (by omega) rfl⟩
/-- the cells that a slice has -/
theorem Vs.cells {w : World} {l : List Vr} {ad : Addr} {cap : Nat} (h : Vs w (.slice (some ad) l.length cap) l) : ∀ j u, (vcs l)[j]? = some u → w.cell? (ad.add j) = some u := by
  obtain ⟨a, c, e, -, h⟩ := h
  cases e
  rcases h with rfl | ⟨b, off, e, -, hc⟩
  · intro j u hj; simp [vcs] at hj
  · cases e
    intro j u hj
    have e1 : j = j / 4 * 4 + j % 4 := by omega
    have hlt : j < (vcs l).length := (List.getElem?_eq_some_iff.1 hj).1
    rw [vcs_len] at hlt
    have hq : j / 4 < l.length := by omega
    rw [e1, vcs_get l (j / 4) (j % 4) (by omega), List.getElem?_eq_getElem hq] at hj
    rw [Addr.add_lit]
    obtain ⟨c0, c1, c2, c3⟩ := hc (j / 4) hq
    have hm : j % 4 < 4 := by omega
    obtain ⟨m, hmm⟩ : ∃ m, j % 4 = m := ⟨_, rfl⟩
    rw [hmm] at hj hm e1
    match m, hm with
    | 0, _ => rw [e1]; simp [vc] at hj; subst hj; rw [← Nat.add_assoc, Nat.add_zero]; exact c0
    | 1, _ => rw [e1]; simp [vc] at hj; subst hj; rw [← Nat.add_assoc]; exact c1
    | 2, _ => rw [e1]; simp [vc] at hj; subst hj; rw [← Nat.add_assoc]; exact c2
    | 3, _ => rw [e1]; simp [vc] at hj; subst hj; rw [← Nat.add_assoc]; exact c3
theorem infoVar : (Tryd.prog.info? 49).map (fun i => (i.zero, i.size, i.bytes)) = some (some (.agg #[.string ⟨#[]⟩, .int .i64 0, .int .i64 0, .string ⟨#[]⟩]), 4, 48) := by kernel_rfl
theorem own_fresh (W : World) (n c : Nat) (z : Value) (hz : z.cells.size = 4) (hn : n ≤ c) (hc : c ≤ maxLen) (e : TypeId) : (W.alloc (.cells (Builtin.zeroCells z.cells n ++ Builtin.zeroCells z.cells (c - n)) e)).ownsRow W.heap.size e 4 (.slice (some ⟨W.heap.size, 0, none⟩) 0 c) 0 [] := by
  refine ⟨by simp, .inr ⟨W.heap.size, c, _, rfl, Nat.le_refl _, heap_alloc_new W _, Nat.zero_le _, hc, ?_, by simp⟩⟩
  simp [Builtin.zeroCells, hz]
  omega

set_option maxHeartbeats 2000000 in
set_option maxRecDepth 100000 in
theorem Grow_any (n : Nat) (h0 : 0 < n) (hn : n ≤ 1000) (w : World) : Calls Tryd.prog 70 #[.slice none 0 0, .int .i64 (n : Int)] w fun e w' => ∃ v', e = .returned v' ∧ w'.ownsRow w.heap.size 49 4 v' 0 [] ∧ Below w.heap.size w w' := by
  obtain ⟨i0, hi, hz0, hz1, hz2⟩ := info_parts infoVar
  have hn0 : ¬ (n : Int) < 0 := by omega
  have hn1 : (0 : Int) < (n : Int) := by omega
  have hrun := Lib.run_append_nil_zeros (P := Tryd.prog) w 24 3 24 49 i0 _ .i64 .i64 Tryd.underlying24 Tryd.underlying3 hi hz0 n h0 (by omega) (by omega) (by rw [hz2]; omega)
  have hge := grownCap_ge w n 0 49
  have hcm : grownCap w n 0 49 ≤ maxLen := grownCap_le_maxLen w n 0 49 (by unfold maxLen; omega)
  generalize grownCap w n 0 49 = c at *
  have hc0 : (0 : Int) ≤ (c : Int) := by omega
  have HF : Hid ((w.drew.alloc (.cells (Builtin.zeroCells (Value.agg #[.string ⟨#[]⟩, .int .i64 0, .int .i64 0, .string ⟨#[]⟩]).cells n ++ Builtin.zeroCells (Value.agg #[.string ⟨#[]⟩, .int .i64 0, .int .i64 0, .string ⟨#[]⟩]).cells (c - n)) 49)).ownsRow w.heap.size 49 4 (.slice (some ⟨w.heap.size, 0, none⟩) 0 c) 0 []) := own_fresh w.drew n c (.agg #[.string ⟨#[]⟩, .int .i64 0, .int .i64 0, .string ⟨#[]⟩]) rfl hge hcm 49
  have B1 : Hid (Below w.heap.size w (w.drew.alloc (.cells (Builtin.zeroCells (Value.agg #[.string ⟨#[]⟩, .int .i64 0, .int .i64 0, .string ⟨#[]⟩]).cells n ++ Builtin.zeroCells (Value.agg #[.string ⟨#[]⟩, .int .i64 0, .int .i64 0, .string ⟨#[]⟩]).cells (c - n)) 49))) := ((Below.refl _ w).drew).alloc (Nat.le_refl _) _
  generalize Builtin.zeroCells (Value.agg #[.string ⟨#[]⟩, .int .i64 0, .int .i64 0, .string ⟨#[]⟩]).cells n ++ Builtin.zeroCells (Value.agg #[.string ⟨#[]⟩, .int .i64 0, .int .i64 0, .string ⟨#[]⟩]).cells (c - n) = zc at *
  go_enter Tryd.func70, Tryd.ntmps70
  go_wp2_with (at_builtin; refine Lib.wpList_append_run _ rfl _ _ _ _ rfl _ _ rfl rfl _ _ hrun ?_)
  go_ret
  exact ⟨.slice (some ⟨w.heap.size, 0, none⟩) 0 c, rfl, HF.out, B1.out⟩

/-- slices of variables in a row -/
abbrev Prt := Value × List Vr
def tot (us : List Prt) : Nat := (us.map fun x => x.2.length).sum
def cat9 (us : List Prt) : List Vr := us.flatMap fun x => x.2
theorem tot_snoc (us : List Prt) (x : Prt) : tot (us ++ [x]) = tot us + x.2.length := by simp [tot]
theorem cat_snoc9 (us : List Prt) (x : Prt) : cat9 (us ++ [x]) = cat9 us ++ x.2 := by simp [cat9]
theorem tot_take (us : List Prt) (i : Nat) : tot (us.take i) ≤ tot us := by
  have := List.take_append_drop i us
  have h : tot us = tot (us.take i) + tot (us.drop i) := by
    conv => lhs; rw [← this]
    simp only [tot, List.map_append, List.sum_append]
  omega
theorem cat_len9 (us : List Prt) : (cat9 us).length = tot us := by
  unfold cat9 tot
  rw [List.length_flatMap]
structure Pt (w : World) (b : Nat) (us : List Prt) : Prop where
  lt : b < w.heap.size
  c : ∀ (j : Nat) (h : j < us.length), w.cell? ⟨b, j, none⟩ = some us[j].1
  v : ∀ (j : Nat) (h : j < us.length), Vs w us[j].1 us[j].2
theorem Pt.up {w w' : World} {b : Nat} {us : List Prt} (h : Pt w b us) (hb : Below w.heap.size w w') : Pt w' b us :=
  ⟨Nat.lt_of_lt_of_le h.lt hb.size, fun j hj => (hb.cell (p := ⟨b, j, none⟩) h.lt).trans (h.c j hj), fun j hj => (h.v j hj).up hb⟩
theorem fit48 (n : Nat) (h : n ≤ 1000) : (n + n / 4 + 192) * 48 ≤ 281474976710656 := by omega
theorem take_snocP {us : List Prt} {k : Nat} (h : k < us.length) : us.take (k + 1) = us.take k ++ [us[k]] := List.take_succ_eq_append_getElem h

set_option maxHeartbeats 4000000 in
set_option maxRecDepth 100000 in
theorem Concat_any {w : World} {b cap : Nat} {us : List Prt} (h : Pt w b us) (hn : us.length ≤ 1000) (h0 : 0 < tot us) (ht : tot us ≤ 1000) :
    Calls Tryd.prog 50 #[.slice (some ⟨b, 0, none⟩) us.length cap] w fun e w' => ∃ v', e = .returned v' ∧ w'.ownsRow w.heap.size 49 4 v' (cat9 us).length (vcs (cat9 us)) ∧ Below w.heap.size w w' := by
  obtain ⟨i0, hi0, hz0, hz1, hz2⟩ := info_parts infoVar
  have HP : Hid (Pt w b us) := h
  clear h
  go_enter Tryd.func50, Tryd.ntmps50
  go_wp2
  go_loopw [3, 11] (fun v3 v11 wr => ∃ i : Nat, i ≤ us.length ∧ v11 = .int .i64 (i : Int) ∧ v3 = .int .i64 (tot (us.take i) : Int) ∧ wr = w) (fun _ v11 _ => us.length - (intOf v11).toNat)
  case atStart => exact ⟨0, Nat.zero_le _, rfl, rfl, rfl⟩
  case round =>
    obtain ⟨i, hi, rfl, rfl, hwr⟩ := hrel
    rw [hwr]
    clear hwr
    by_cases hlt : i < us.length
    · have hlt' : (i : Int) < (us.length : Int) := by omega
      have hi0' : (0 : Int) ≤ (i : Int) := by omega
      have c0 := HP.out.c i hlt
      obtain ⟨a, cp, hs, -⟩ := HP.out.v i hlt
      rw [hs] at c0
      have e1 : tot (us.take (i + 1)) = tot (us.take i) + us[i].2.length := by rw [take_snocP hlt, tot_snoc]
      have e2 := tot_take us (i + 1)
      have HE : Hid (tot (us.take (i + 1)) = tot (us.take i) + us[i].2.length) := e1
      generalize us[i].2.length = m at *
      generalize tot (us.take i) = q at *
      have e3 : ¬ (q : Int) + (m : Int) < 0 := by omega
      have e4 : (q : Int) + (m : Int) ≤ 1000 := by omega
      clear e1 hs
      go_wp2
      go_roundw
      case rel => exact ⟨i + 1, by omega, by simp, by rw [HE.out]; simp, by simp⟩
      case measure => simp [intOf]; omega
    · obtain rfl : i = us.length := by omega
      have hlt' : ¬ (us.length : Int) < (us.length : Int) := by omega
      rw [List.take_length]
      have CG := Grow_any (tot us) h0 ht w
      go_wp2_with (go_at_call 70; refine CG.mono ?_; rintro e w1 ⟨v1, rfl, hr, b1⟩; have H1 : Hid (w1.ownsRow w.heap.size 49 4 v1 (tot (us.take 0)) (vcs (cat9 (us.take 0))) ∧ Below w.heap.size w w1) := ⟨hr, b1⟩; clear hr b1)
      go_loopw [6, 27] (fun v6 v27 wr => ∃ i : Nat, i ≤ us.length ∧ v27 = .int .i64 (i : Int) ∧ Hid (wr.ownsRow w.heap.size 49 4 v6 (tot (us.take i)) (vcs (cat9 (us.take i))) ∧ Below w.heap.size w wr)) (fun _ v27 _ => us.length - (intOf v27).toNat)
      case atStart => exact ⟨0, Nat.zero_le _, rfl, H1⟩
      case round =>
        clear H1
        obtain ⟨i, hi, rfl, HB⟩ := hrel
        by_cases hlt : i < us.length
        · have hlt' : (i : Int) < (us.length : Int) := by omega
          have hi0' : (0 : Int) ≤ (i : Int) := by omega
          have PB := HP.out.up HB.out.2
          have c0 := PB.c i hlt
          have hvs := PB.v i hlt
          have HR1 : Hid _ := HB.out.1
          have hbw := HB.out.2
          have hsz := hbw.size
          have e2 := tot_take us (i + 1)
          have e1 : tot (us.take (i + 1)) = tot (us.take i) + us[i].2.length := by rw [take_snocP hlt, tot_snoc]
          have HE : Hid (tot (us.take (i + 1)) = tot (us.take i) + us[i].2.length) := e1
          have HC : Hid (vcs (cat9 (us.take (i + 1))) = vcs (cat9 (us.take i)) ++ vcs us[i].2) := by show _ = _; rw [take_snocP hlt, cat_snoc9, vcs_append]
          have hfit := fit48 (tot (us.take i) + us[i].2.length) (by omega)
          have hvl := vcs_len us[i].2
          have hv1 := vcs_one us[i].2
          obtain ⟨a, cp, hs, hcp, -⟩ := id hvs
          rw [hs] at c0 hvs
          generalize us[i].2 = p at *
          generalize us[i].1 = q at *
          clear PB e1 HB
          cases a with
          | none =>
            obtain ⟨hc1, hc2⟩ := hcp
            have hcp0 := hc2 rfl
            subst hcp0
            have hp0 : p = [] := List.eq_nil_of_length_eq_zero (by omega)
            subst hp0
            have HR2 : Hid _ := HR1.out
            go_wp2_with (at_builtin; refine wpList_append_own_none rfl _ _ 24 rfl w.heap.size 49 i0 4 Tryd.underlying24 hi0 _ _ _ rfl HR2.out rfl ?_)
            go_roundw
            case rel => exact ⟨i + 1, by omega, by simp, (by rw [HE.out, HC.out, show vcs [] = [] from rfl, List.append_nil]; exact HR1.out), hbw⟩
            case measure => simp [intOf]; omega
          | some ad =>
            have hcl := hvs.cells
            go_wp2_with (at_builtin; refine wpList_append_own_wide _ rfl _ _ 24 rfl w.heap.size 49 i0 _ 4 48 Tryd.underlying24 hi0 hz0 hz1 hz2 rfl (by decide) _ _ _ rfl HR1.out ad p.length cp (vcs p) rfl hvl hcl hv1 (by unfold maxLen; omega) hfit (by omega) ?_; intro v2 w2 hown2 hgrow2 _; have H2 : Hid (w2.ownsRow w.heap.size 49 4 v2 (tot (us.take (i + 1))) (vcs (cat9 (us.take (i + 1)))) ∧ Below w.heap.size w w2) := ⟨by rw [HE.out, HC.out]; exact hown2, hbw.grown hgrow2 (by omega) (fun k hk => (World.ownsRow.lt HR1.out k hk).1)⟩; clear hown2 hgrow2)
            go_roundw
            case rel => exact ⟨i + 1, by omega, by simp, H2⟩
            case measure => simp [intOf]; omega
        · obtain rfl : i = us.length := by omega
          have hlt' : ¬ (us.length : Int) < (us.length : Int) := by omega
          have HR := HB.out.1
          rw [List.take_length] at HR
          have H3 : Hid (wr.ownsRow w.heap.size 49 4 _ (cat9 us).length (vcs (cat9 us)) ∧ Below w.heap.size w wr) := ⟨by rw [cat_len9]; exact HR, HB.out.2⟩
          clear HB HR
          go_wp2
          go_ret
          exact ⟨_, rfl, H3.out.1, H3.out.2⟩
end Go.Proofs.YtnelekbaniljkaaDoor

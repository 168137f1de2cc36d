/-
  slices.DeleteFunc, and package fold's takeAway: those that are so are taken away, in place.
-/
import Derived.Test.YthmfcloecmnfnaaGreatF13Ix
import Derived.Test.YthmfcloecmnfnaaGreatF13Rows
import Derived.Test.YthmfcloecmnfnaaGreatGClo
namespace Go.Proofs.YthmfcloecmnfnaaGreat.f13
open Go.RowKit Go.Shelf Go.Sort
open Go.Lib hiding intOf

theorem zero_one {z : Value} {k : Nat} (hz : z.cells.size = k) (h0 : 0 < k) (h1 : ∀ u ∈ z.cells.toList, u.oneCell' = true) (n : Nat) : ∀ u ∈ (Builtin.zeroCells z.cells n).toList, u.oneCell' = true := by
  intro u hu
  simp only [Builtin.zeroCells, Array.toList_map, Array.toList_range, List.mem_map] at hu
  obtain ⟨i, -, rfl⟩ := hu
  have hlt : i % z.cells.size < z.cells.size := Nat.mod_lt _ (by omega)
  rw [getElem!_pos z.cells _ hlt]
  exact h1 _ (Array.getElem_mem_toList hlt)
theorem filter_snoc {α : Type} {q : α → Bool} {l : List α} {j : Nat} (hj : j < l.length) : (l.take (j + 1)).filter q = (l.take j).filter q ++ if q l[j] then [l[j]] else [] := by
  rw [List.take_succ_eq_append_getElem hj, List.filter_append]
  cases h : q l[j] <;> simp [h]
theorem set_gap {α : Type} {K mid R : List α} {x : α} (hm : 0 < mid.length) : (K ++ mid ++ x :: R).set K.length x = (K ++ [x]) ++ (mid.tail ++ [x]) ++ R := by
  cases mid with
  | nil => cases hm
  | cons m t => simp

set_option maxHeartbeats 4000000 in
set_option maxRecDepth 100000 in
theorem delTm_any {B : Nat} {w : World} {v : Value} {l : List Tm} {kf : Nat} {caps : Array Value} (q : Tm → Bool) (h : w.ownsRow B 70 3 v l.length (l.flatMap Tm.c)) (hn : l.length ≤ 4611686018427387904) (ek : Ent0 kf) (hq : ∀ x ∈ l, Say (fun g => v.ownBlock = some g) w kf caps #[.agg (Tm.c x).toArray] (q x)) :
    Calls Tryz.prog 192 #[v, .func (.func kf) #[] caps] w fun e w' => ∃ v', e = .returned v' ∧ w'.ownsRow B 70 3 v' (l.filter fun x => !q x).length ((l.filter fun x => !q x).flatMap Tm.c) ∧ Ch (fun g => v.ownBlock = some g) w w' ∧ v'.ownBlock = v.ownBlock := by
  have CI := indexTm_any q (Rr.row Tm.k h) hn ek hq
  have HQ : Hid (∀ x ∈ l, Say (fun g => v.ownBlock = some g) w kf caps #[.agg (Tm.c x).toArray] (q x)) := hq
  unfold Ent0 at ek
  clear hq
  cases hF : l.findIdx? q with
  | none =>
    have e0 : fix q l = -1 := by unfold fix; rw [hF]
    have HFl : Hid ((l.filter fun x => !q x) = l) := by
      show _ = _
      rw [List.filter_eq_self]
      intro x hx
      rw [List.findIdx?_eq_none_iff] at hF
      simp [hF x hx]
    have HR : Hid (w.ownsRow B 70 3 v l.length (l.flatMap Tm.c)) := h
    rw [e0] at CI
    obtain ⟨a, cp, hs, -⟩ := row_slice h
    clear h hF HQ e0
    subst hs
    go_enter Tryz.func192, Tryz.ntmps192
    go_wp2_with (go_at_call 157; refine CI.mono ?_; rintro e w1 ⟨rfl, b1⟩; (have HC : Hid (Ch (fun g => (Value.slice a l.length cp).ownBlock = some g) w w1) := Ch.of_below b1); (have HR1 : Hid (w1.ownsRow B 70 3 (.slice a l.length cp) l.length (l.flatMap Tm.c)) := (Ch.of_below (X := fun _ => False) b1).row HR.out (fun _ _ e => e)); clear b1 CI)
    go_ret
    rw [HFl.out]
    exact ⟨_, rfl, HR1.out, HC.out, rfl⟩
  | some i0 =>
    have e0 : fix q l = (i0 : Int) := by unfold fix; rw [hF]
    obtain ⟨hi0, hqi, hqb⟩ := List.findIdx?_eq_some_iff_getElem.1 hF
    obtain ⟨g, cap, rfl, hcap⟩ := row_any h (by omega)
    have hcm : cap ≤ 9223372036854775807 := by obtain ⟨_, _, e, -, -, h9⟩ := row_slice h; injection e with _ _ e; omega
    obtain ⟨i9, hi9, hz0, hz1, hz2⟩ := info_parts infoTm
    have HR : Hid (w.ownsRow B 70 3 (.slice (some ⟨g, 0, none⟩) l.length cap) l.length (l.flatMap Tm.c)) := h
    have K0 : (l.take i0).filter (fun x => !q x) = l.take i0 := by
      rw [List.filter_eq_self]
      intro x hx
      obtain ⟨n, hn, rfl⟩ := List.getElem_of_mem hx
      rw [List.length_take] at hn
      have := hqb n (by omega)
      rw [List.getElem_take]
      simpa using this
    have HS : Hid (∃ mid : List Tm, mid.length = i0 + 1 - i0 ∧ ((l.take (i0 + 1)).filter fun x => !q x).length = i0 ∧ w.ownsRow B 70 3 (.slice (some ⟨g, 0, none⟩) l.length cap) l.length ((((l.take (i0 + 1)).filter fun x => !q x) ++ mid ++ l.drop (i0 + 1)).flatMap Tm.c)) := by
      refine ⟨[l[i0]], by simp, ?_, ?_⟩
      · rw [filter_snoc hi0, K0, hqi]; simp; omega
      · rw [filter_snoc hi0, K0, hqi]
        have : l.take i0 ++ (if (!true) = true then [l[i0]] else []) ++ [l[i0]] ++ l.drop (i0 + 1) = l := by simp
        rw [this]; exact h
    rw [e0] at CI
    clear h hF K0 e0 hqb hqi
    have hw0 : IntKind.i64.wrap ((i0 : Int) + 1) = (i0 : Int) + 1 := by rw [IntKind.wrap_i64]; omega
    have hne : ((i0 : Int) == -1) = false := by rw [beq_eq_false_iff_ne]; omega
    have hne2 : ¬ (i0 : Int) = -1 := by omega
    go_enter Tryz.func192, Tryz.ntmps192
    go_wp2_with (go_at_call 157; refine CI.mono ?_; rintro e w1 ⟨rfl, b1⟩; (have HC : Hid (Ch (fun g' => (some g : Option Nat) = some g') w w1 ∧ ∃ mid : List Tm, mid.length = i0 + 1 - i0 ∧ ((l.take (i0 + 1)).filter fun x => !q x).length = i0 ∧ w1.ownsRow B 70 3 (.slice (some ⟨g, 0, none⟩) l.length cap) l.length ((((l.take (i0 + 1)).filter fun x => !q x) ++ mid ++ l.drop (i0 + 1)).flatMap Tm.c)) := by (obtain ⟨mid, h1, h2, h3⟩ := HS.out; exact ⟨Ch.of_below b1, mid, h1, h2, (Ch.of_below (X := fun _ => False) b1).row h3 (fun _ _ e => e)⟩)); clear b1 CI HS)
    go_loopw [5, 6] (fun v5 v6 wr => ∃ i j : Nat, v5 = .int .i64 (i : Int) ∧ v6 = .int .i64 (j : Int) ∧ i < j ∧ j ≤ l.length ∧ Hid (Ch (fun g' => (some g : Option Nat) = some g') w wr ∧ ∃ mid : List Tm, mid.length = j - i ∧ ((l.take j).filter fun x => !q x).length = i ∧ wr.ownsRow B 70 3 (.slice (some ⟨g, 0, none⟩) l.length cap) l.length ((((l.take j).filter fun x => !q x) ++ mid ++ l.drop j).flatMap Tm.c))) (fun _ v6 _ => l.length - (intOf v6).toNat)
    case atStart => exact ⟨i0, i0 + 1, rfl, by simp, by omega, by omega, HC.out⟩
    case round =>
      clear HC hne hne2 hw0
      obtain ⟨i, j, rfl, rfl, hij, hjl, HM⟩ := hrel
      by_cases hlt : j < l.length
      · have hlt' : (j : Int) < (l.length : Int) := by omega
        have hj0 : (0 : Int) ≤ (j : Int) := by omega
        have hii : (0 : Int) ≤ (i : Int) := by omega
        have hil : (i : Int) < (l.length : Int) := by omega
        obtain ⟨hC, mid, hmid, hKl, hrow⟩ := HM.out
        have hd : l.drop j = l[j] :: l.drop (j + 1) := (List.getElem_cons_drop (h := hlt)).symm
        have hxj : (((l.take j).filter fun x => !q x) ++ mid ++ l.drop j)[j]? = some l[j] := by
          rw [List.getElem?_append_right (by simp; omega), List.length_append, hKl, hmid, hd, show j - (i + (j - i)) = 0 by omega]; rfl
        have hXl : (((l.take j).filter fun x => !q x) ++ mid ++ l.drop j).length = l.length := by simp [hKl, hmid]; omega
        have hiX : i < (((l.take j).filter fun x => !q x) ++ mid ++ l.drop j).length := by omega
        have m0 : wr.cell? ⟨g, j * 3 + 0, none⟩ = some (.int .u64 (l[j].token : Int)) := row_cell hrow (by rw [fm_get Tm.k _ j 0 (by omega), hxj]; rfl)
        have m1 : wr.cell? ⟨g, j * 3 + 1, none⟩ = some (.int .i64 l[j].node) := row_cell hrow (by rw [fm_get Tm.k _ j 1 (by omega), hxj]; rfl)
        have m2 : wr.cell? ⟨g, j * 3 + 2, none⟩ = some (.int .i64 l[j].at_) := row_cell hrow (by rw [fm_get Tm.k _ j 2 (by omega), hxj]; rfl)
        simp only [Nat.add_zero] at m0
        have CG := HQ.out l[j] (List.getElem_mem hlt)
        have HX : Hid (∀ W, Ch (fun _ => False) wr W → W.ownsRow B 70 3 (.slice (some ⟨g, 0, none⟩) l.length cap) l.length ((((l.take j).filter fun x => !q x) ++ mid ++ l.drop j).flatMap Tm.c) ∧ Ch (fun g' => (some g : Option Nat) = some g') w W) := fun W hW => ⟨hW.row hrow (fun _ _ e => e), hC.trans (hW.mono (fun _ _ e => e.elim))⟩
        by_cases hx : q l[j] = true
        · have HN : Hid (∀ W, Ch (fun _ => False) wr W → Ch (fun g' => (some g : Option Nat) = some g') w W ∧ ∃ mid : List Tm, mid.length = j + 1 - i ∧ ((l.take (j + 1)).filter fun x => !q x).length = i ∧ W.ownsRow B 70 3 (.slice (some ⟨g, 0, none⟩) l.length cap) l.length ((((l.take (j + 1)).filter fun x => !q x) ++ mid ++ l.drop (j + 1)).flatMap Tm.c)) := by
            intro W hW
            obtain ⟨r1, c1⟩ := HX.out W hW
            refine ⟨c1, mid ++ [l[j]], by simp; omega, by rw [filter_snoc hlt, hx]; simpa using hKl, ?_⟩
            rw [filter_snoc hlt, hx]
            have : ((l.take j).filter fun x => !q x) ++ (if (!true) = true then [l[j]] else []) ++ (mid ++ [l[j]]) ++ l.drop (j + 1) = ((l.take j).filter fun x => !q x) ++ mid ++ l.drop j := by rw [hd]; simp
            rw [this]
            exact r1
          have CH := HX
          rw [hx] at CG
          clear hx HM hrow hC hxj hXl hd hKl hmid hiX
          generalize l[j] = x at *
          obtain ⟨x0, x1, x2⟩ := x
          simp only [Tm.c] at m0 m1 m2 CG
          have CG1 := CG _ (HX.out (wr.alloc (.cells #[.int .u64 (x0 : Int), .int .i64 x1, .int .i64 x2] 70)) ((Ch.refl _ wr).alloc _)).2
          clear CG
          go_wp2
          refine CG1.mono ?_
          rintro e w2 ⟨rfl, b2⟩
          have H3 : Hid _ := HN.out w2 (((Ch.refl _ wr).alloc _).trans (Ch.of_below b2))
          clear CG1 HN b2 HX CH
          go_wp2
          go_roundw
          case rel => exact ⟨i, j + 1, rfl, by simp, by omega, by omega, H3.out⟩
          case measure => simp [intOf]; omega
        · have hx' : q l[j] = false := by simpa using hx
          have HN : Hid (∀ W, Ch (fun _ => False) wr W → Ch (fun g' => (some g : Option Nat) = some g') w (W.setCells g (i * 3) (Tm.c l[j])) ∧ ∃ mid : List Tm, mid.length = j + 1 - (i + 1) ∧ ((l.take (j + 1)).filter fun x => !q x).length = i + 1 ∧ (W.setCells g (i * 3) (Tm.c l[j])).ownsRow B 70 3 (.slice (some ⟨g, 0, none⟩) l.length cap) l.length ((((l.take (j + 1)).filter fun x => !q x) ++ mid ++ l.drop (j + 1)).flatMap Tm.c)) := by
            intro W hW
            obtain ⟨r1, c1⟩ := HX.out W hW
            refine ⟨ch_setCells c1 g _ _ (fun _ => rfl), mid.tail ++ [l[j]], by simp; omega, by rw [filter_snoc hlt, hx']; simp [hKl], ?_⟩
            have := row_elem Tm.k r1 i hiX l[j]
            have e2 : (((l.take j).filter fun x => !q x) ++ mid ++ l.drop j).set i l[j] = (((l.take (j + 1)).filter fun x => !q x) ++ (mid.tail ++ [l[j]]) ++ l.drop (j + 1)) := by
              rw [filter_snoc hlt, hx', hd, ← hKl, set_gap (by omega)]; rfl
            rw [e2] at this
            exact this
          have HF : Hid (∀ W, Ch (fun _ => False) wr W → (W.cell? ⟨g, i * 3 + 0, none⟩).isSome = true ∧ W.frozen? ⟨g, i * 3 + 0, none⟩ = false ∧ (W.cell? ⟨g, i * 3 + 1, none⟩).isSome = true ∧ W.frozen? ⟨g, i * 3 + 1, none⟩ = false ∧ (W.cell? ⟨g, i * 3 + 2, none⟩).isSome = true ∧ W.frozen? ⟨g, i * 3 + 2, none⟩ = false) := by
            intro W hW
            have r1 := (HX.out W hW).1
            have cc : ∀ n, n < 3 → (W.cell? ⟨g, i * 3 + n, none⟩).isSome = true := fun n hn => by
              have e3 : ((((l.take j).filter fun x => !q x) ++ mid ++ l.drop j).flatMap Tm.c)[i * 3 + n]? = some ((Tm.c ((((l.take j).filter fun x => !q x) ++ mid ++ l.drop j)[i]))[n]'(by rw [Tm.k]; exact hn)) := by
                rw [fm_get Tm.k _ i n hn, List.getElem?_eq_getElem hiX]
                exact List.getElem?_eq_getElem _
              rw [row_cell r1 e3]; rfl
            exact ⟨cc 0 (by omega), row_fro r1 _, cc 1 (by omega), row_fro r1 _, cc 2 (by omega), row_fro r1 _⟩
          rw [hx'] at CG
          clear hx hx' HM hrow hC hxj hXl hd hKl hmid hiX
          generalize l[j] = x at *
          obtain ⟨x0, x1, x2⟩ := x
          simp only [Tm.c] at m0 m1 m2 CG
          have CG1 := CG _ (HX.out (wr.alloc (.cells #[.int .u64 (x0 : Int), .int .i64 x1, .int .i64 x2] 70)) ((Ch.refl _ wr).alloc _)).2
          clear CG
          go_wp2
          refine CG1.mono ?_
          rintro e w2 ⟨rfl, b2⟩
          have HW2 : Ch (fun _ => False) wr w2 := ((Ch.refl _ wr).alloc _).trans (Ch.of_below b2)
          have H3 : Hid _ := HN.out w2 HW2
          obtain ⟨p0, f0, p1, f1, p2, f2⟩ := HF.out w2 HW2
          have y0 := (b2.cell (p := ⟨wr.heap.size, 0, none⟩) (by simp)).trans (World.cell?_alloc_new wr _ _ _)
          have y1 := (b2.cell (p := ⟨wr.heap.size, 1, none⟩) (by simp)).trans (World.cell?_alloc_new wr _ _ _)
          have y2 := (b2.cell (p := ⟨wr.heap.size, 2, none⟩) (by simp)).trans (World.cell?_alloc_new wr _ _ _)
          simp only [Nat.add_zero, List.getElem?_toArray, List.getElem?_cons_zero, List.getElem?_cons_succ] at p0 f0 y0 y1 y2
          obtain ⟨u0, p0⟩ := Option.isSome_iff_exists.1 p0
          obtain ⟨u1, p1⟩ := Option.isSome_iff_exists.1 p1
          obtain ⟨u2, p2⟩ := Option.isSome_iff_exists.1 p2
          have hw1 : IntKind.i64.wrap ((i : Int) + 1) = (i : Int) + 1 := by rw [IntKind.wrap_i64]; omega
          clear CG1 HN b2 HX HF HW2
          go_wp2
          go_roundw
          case rel => exact ⟨i + 1, j + 1, by simp, by simp, by omega, by omega, H3.out⟩
          case measure => simp [intOf]; omega
      · have hlt' : ¬ (j : Int) < (l.length : Int) := by omega
        obtain rfl : j = l.length := by omega
        obtain ⟨hC, mid, hmid, hKl, hrow⟩ := HM.out
        rw [List.take_length] at hKl hrow
        rw [List.drop_length, List.append_nil, List.flatMap_append] at hrow
        have hzl := zero_len (.agg #[.int .u64 0, .int .i64 0, .int .i64 0]) 3 rfl (l.length - i)
        have hz1' := zero_one (z := .agg #[.int .u64 0, .int .i64 0, .int .i64 0]) (k := 3) rfl (by decide) (by decide) (l.length - i)
        have hlen := hrow.1
        have hcl : Hid (∀ ty cc, (Builtin.clear_ #[27] ty #[.slice (some ⟨g, i * 3, none⟩) (l.length - i) cc]).run Tryz.prog wr = .ok (.tuple #[]) (wr.setCells g (i * 3) (Builtin.zeroCells (.agg #[.int .u64 0, .int .i64 0, .int .i64 0] : Value).cells (l.length - i)).toList)) := fun ty cc =>
          run_clearN wr _ _ ty _ Tryz.underlying27 Tryz.zeroValue70 g (i * 3) (l.length - i) cc (by omega) _ rfl hz1' (fun t ht => by
            have hlt : i * 3 + t < (List.flatMap Tm.c (List.filter (fun x => !q x) l) ++ List.flatMap Tm.c mid).length := by rw [hlen]; omega
            rw [row_cell hrow (List.getElem?_eq_getElem hlt)]; rfl) (fun t ht => row_fro hrow _)
        have HE : Hid ((wr.setCells g (i * 3) (Builtin.zeroCells (.agg #[.int .u64 0, .int .i64 0, .int .i64 0] : Value).cells (l.length - i)).toList).ownsRow B 70 3 (.slice (some ⟨g, 0, none⟩) i cap) (l.filter fun x => !q x).length ((l.filter fun x => !q x).flatMap Tm.c) ∧ Ch (fun g' => (some g : Option Nat) = some g') w (wr.setCells g (i * 3) (Builtin.zeroCells (.agg #[.int .u64 0, .int .i64 0, .int .i64 0] : Value).cells (l.length - i)).toList)) := by
          have r2 := row_puts hrow (i * 3) (Builtin.zeroCells (.agg #[.int .u64 0, .int .i64 0, .int .i64 0] : Value).cells (l.length - i)).toList (by rw [hzl, hlen]; omega)
          have e5 : (List.flatMap Tm.c (List.filter (fun x => !q x) l) ++ List.flatMap Tm.c mid).take (i * 3) = List.flatMap Tm.c (List.filter (fun x => !q x) l) := by
            rw [List.take_append_of_le_length (by rw [fm_len Tm.k, hKl]; exact Nat.le_refl _), List.take_of_length_le (by rw [fm_len Tm.k, hKl]; exact Nat.le_refl _)]
          rw [e5, List.append_assoc] at r2
          refine ⟨?_, ch_setCells hC g _ _ (fun _ => rfl)⟩
          rw [hKl]
          exact row_cut r2 (by rw [fm_len Tm.k, hKl]) (by omega)
        clear HM hrow hC hzl hz1' hlen hmid HQ HR hKl
        have hil : (i : Int) ≤ (l.length : Int) := by omega
        have hii : (0 : Int) ≤ (i : Int) := by omega
        have hic : ¬ cap = i := by omega
        have hlc : (l.length : Int) ≤ (cap : Int) := by omega
        have hil2 : i ≤ l.length := by omega
        generalize (Builtin.zeroCells (.agg #[.int .u64 0, .int .i64 0, .int .i64 0] : Value).cells (l.length - i)).toList = zz at *
        have hcl2 := hcl.out
        clear hcl
        go_wp2
        go_ret
        exact ⟨.slice (some ⟨g, 0, none⟩) i cap, rfl, HE.out.1, HE.out.2, rfl⟩

set_option maxHeartbeats 4000000 in
set_option maxRecDepth 100000 in
theorem delTk_any {B : Nat} {w : World} {v : Value} {l : List Tk} {kf : Nat} {caps : Array Value} (q : Tk → Bool) (h : w.ownsRow B 66 6 v l.length (l.flatMap Tk.c)) (hn : l.length ≤ 4611686018427387904) (ek : Ent0 kf) (hq : ∀ x ∈ l, Say (fun g => v.ownBlock = some g) w kf caps #[.agg (Tk.c x).toArray] (q x)) :
    Calls Tryz.prog 146 #[v, .func (.func kf) #[] caps] w fun e w' => ∃ v', e = .returned v' ∧ w'.ownsRow B 66 6 v' (l.filter fun x => !q x).length ((l.filter fun x => !q x).flatMap Tk.c) ∧ Ch (fun g => v.ownBlock = some g) w w' ∧ v'.ownBlock = v.ownBlock := by
  have CI := indexTk_any q (Rr.row Tk.k h) hn ek hq
  have HQ : Hid (∀ x ∈ l, Say (fun g => v.ownBlock = some g) w kf caps #[.agg (Tk.c x).toArray] (q x)) := hq
  unfold Ent0 at ek
  clear hq
  cases hF : l.findIdx? q with
  | none =>
    have e0 : fix q l = -1 := by unfold fix; rw [hF]
    have HFl : Hid ((l.filter fun x => !q x) = l) := by
      show _ = _
      rw [List.filter_eq_self]
      intro x hx
      rw [List.findIdx?_eq_none_iff] at hF
      simp [hF x hx]
    have HR : Hid (w.ownsRow B 66 6 v l.length (l.flatMap Tk.c)) := h
    rw [e0] at CI
    obtain ⟨a, cp, hs, -⟩ := row_slice h
    clear h hF HQ e0
    subst hs
    go_enter Tryz.func146, Tryz.ntmps146
    go_wp2_with (go_at_call 143; refine CI.mono ?_; rintro e w1 ⟨rfl, b1⟩; (have HC : Hid (Ch (fun g => (Value.slice a l.length cp).ownBlock = some g) w w1) := Ch.of_below b1); (have HR1 : Hid (w1.ownsRow B 66 6 (.slice a l.length cp) l.length (l.flatMap Tk.c)) := (Ch.of_below (X := fun _ => False) b1).row HR.out (fun _ _ e => e)); clear b1 CI)
    go_ret
    rw [HFl.out]
    exact ⟨_, rfl, HR1.out, HC.out, rfl⟩
  | some i0 =>
    have e0 : fix q l = (i0 : Int) := by unfold fix; rw [hF]
    obtain ⟨hi0, hqi, hqb⟩ := List.findIdx?_eq_some_iff_getElem.1 hF
    obtain ⟨g, cap, rfl, hcap⟩ := row_any h (by omega)
    have hcm : cap ≤ 9223372036854775807 := by obtain ⟨_, _, e, -, -, h9⟩ := row_slice h; injection e with _ _ e; omega
    obtain ⟨i9, hi9, hz0, hz1, hz2⟩ := info_parts infoTk
    have HR : Hid (w.ownsRow B 66 6 (.slice (some ⟨g, 0, none⟩) l.length cap) l.length (l.flatMap Tk.c)) := h
    have K0 : (l.take i0).filter (fun x => !q x) = l.take i0 := by
      rw [List.filter_eq_self]
      intro x hx
      obtain ⟨n, hn, rfl⟩ := List.getElem_of_mem hx
      rw [List.length_take] at hn
      have := hqb n (by omega)
      rw [List.getElem_take]
      simpa using this
    have HS : Hid (∃ mid : List Tk, mid.length = i0 + 1 - i0 ∧ ((l.take (i0 + 1)).filter fun x => !q x).length = i0 ∧ w.ownsRow B 66 6 (.slice (some ⟨g, 0, none⟩) l.length cap) l.length ((((l.take (i0 + 1)).filter fun x => !q x) ++ mid ++ l.drop (i0 + 1)).flatMap Tk.c)) := by
      refine ⟨[l[i0]], by simp, ?_, ?_⟩
      · rw [filter_snoc hi0, K0, hqi]; simp; omega
      · rw [filter_snoc hi0, K0, hqi]
        have : l.take i0 ++ (if (!true) = true then [l[i0]] else []) ++ [l[i0]] ++ l.drop (i0 + 1) = l := by simp
        rw [this]; exact h
    rw [e0] at CI
    clear h hF K0 e0 hqb hqi
    have hw0 : IntKind.i64.wrap ((i0 : Int) + 1) = (i0 : Int) + 1 := by rw [IntKind.wrap_i64]; omega
    have hne : ((i0 : Int) == -1) = false := by rw [beq_eq_false_iff_ne]; omega
    have hne2 : ¬ (i0 : Int) = -1 := by omega
    go_enter Tryz.func146, Tryz.ntmps146
    go_wp2_with (go_at_call 143; refine CI.mono ?_; rintro e w1 ⟨rfl, b1⟩; (have HC : Hid (Ch (fun g' => (some g : Option Nat) = some g') w w1 ∧ ∃ mid : List Tk, mid.length = i0 + 1 - i0 ∧ ((l.take (i0 + 1)).filter fun x => !q x).length = i0 ∧ w1.ownsRow B 66 6 (.slice (some ⟨g, 0, none⟩) l.length cap) l.length ((((l.take (i0 + 1)).filter fun x => !q x) ++ mid ++ l.drop (i0 + 1)).flatMap Tk.c)) := by (obtain ⟨mid, h1, h2, h3⟩ := HS.out; exact ⟨Ch.of_below b1, mid, h1, h2, (Ch.of_below (X := fun _ => False) b1).row h3 (fun _ _ e => e)⟩)); clear b1 CI HS)
    go_loopw [5, 6] (fun v5 v6 wr => ∃ i j : Nat, v5 = .int .i64 (i : Int) ∧ v6 = .int .i64 (j : Int) ∧ i < j ∧ j ≤ l.length ∧ Hid (Ch (fun g' => (some g : Option Nat) = some g') w wr ∧ ∃ mid : List Tk, mid.length = j - i ∧ ((l.take j).filter fun x => !q x).length = i ∧ wr.ownsRow B 66 6 (.slice (some ⟨g, 0, none⟩) l.length cap) l.length ((((l.take j).filter fun x => !q x) ++ mid ++ l.drop j).flatMap Tk.c))) (fun _ v6 _ => l.length - (intOf v6).toNat)
    case atStart => exact ⟨i0, i0 + 1, rfl, by simp, by omega, by omega, HC.out⟩
    case round =>
      clear HC hne hne2 hw0
      obtain ⟨i, j, rfl, rfl, hij, hjl, HM⟩ := hrel
      by_cases hlt : j < l.length
      · have hlt' : (j : Int) < (l.length : Int) := by omega
        have hj0 : (0 : Int) ≤ (j : Int) := by omega
        have hii : (0 : Int) ≤ (i : Int) := by omega
        have hil : (i : Int) < (l.length : Int) := by omega
        obtain ⟨hC, mid, hmid, hKl, hrow⟩ := HM.out
        have hd : l.drop j = l[j] :: l.drop (j + 1) := (List.getElem_cons_drop (h := hlt)).symm
        have hxj : (((l.take j).filter fun x => !q x) ++ mid ++ l.drop j)[j]? = some l[j] := by
          rw [List.getElem?_append_right (by simp; omega), List.length_append, hKl, hmid, hd, show j - (i + (j - i)) = 0 by omega]; rfl
        have hXl : (((l.take j).filter fun x => !q x) ++ mid ++ l.drop j).length = l.length := by simp [hKl, hmid]; omega
        have hiX : i < (((l.take j).filter fun x => !q x) ++ mid ++ l.drop j).length := by omega
        have m0 : wr.cell? ⟨g, j * 6 + 0, none⟩ = some (.int .u64 (l[j].key : Int)) := row_cell hrow (by rw [fm_get Tk.k _ j 0 (by omega), hxj]; rfl)
        have m1 : wr.cell? ⟨g, j * 6 + 1, none⟩ = some (.int .u64 (l[j].inst : Int)) := row_cell hrow (by rw [fm_get Tk.k _ j 1 (by omega), hxj]; rfl)
        have m2 : wr.cell? ⟨g, j * 6 + 2, none⟩ = some (.int .u64 (l[j].scope : Int)) := row_cell hrow (by rw [fm_get Tk.k _ j 2 (by omega), hxj]; rfl)
        have m3 : wr.cell? ⟨g, j * 6 + 3, none⟩ = some (.int .i64 l[j].node) := row_cell hrow (by rw [fm_get Tk.k _ j 3 (by omega), hxj]; rfl)
        have m4 : wr.cell? ⟨g, j * 6 + 4, none⟩ = some (.int .i64 l[j].flow) := row_cell hrow (by rw [fm_get Tk.k _ j 4 (by omega), hxj]; rfl)
        have m5 : wr.cell? ⟨g, j * 6 + 5, none⟩ = some (.string (S l[j].stuck)) := row_cell hrow (by rw [fm_get Tk.k _ j 5 (by omega), hxj]; rfl)
        simp only [Nat.add_zero] at m0
        have CG := HQ.out l[j] (List.getElem_mem hlt)
        have HX : Hid (∀ W, Ch (fun _ => False) wr W → W.ownsRow B 66 6 (.slice (some ⟨g, 0, none⟩) l.length cap) l.length ((((l.take j).filter fun x => !q x) ++ mid ++ l.drop j).flatMap Tk.c) ∧ Ch (fun g' => (some g : Option Nat) = some g') w W) := fun W hW => ⟨hW.row hrow (fun _ _ e => e), hC.trans (hW.mono (fun _ _ e => e.elim))⟩
        by_cases hx : q l[j] = true
        · have HN : Hid (∀ W, Ch (fun _ => False) wr W → Ch (fun g' => (some g : Option Nat) = some g') w W ∧ ∃ mid : List Tk, mid.length = j + 1 - i ∧ ((l.take (j + 1)).filter fun x => !q x).length = i ∧ W.ownsRow B 66 6 (.slice (some ⟨g, 0, none⟩) l.length cap) l.length ((((l.take (j + 1)).filter fun x => !q x) ++ mid ++ l.drop (j + 1)).flatMap Tk.c)) := by
            intro W hW
            obtain ⟨r1, c1⟩ := HX.out W hW
            refine ⟨c1, mid ++ [l[j]], by simp; omega, by rw [filter_snoc hlt, hx]; simpa using hKl, ?_⟩
            rw [filter_snoc hlt, hx]
            have : ((l.take j).filter fun x => !q x) ++ (if (!true) = true then [l[j]] else []) ++ (mid ++ [l[j]]) ++ l.drop (j + 1) = ((l.take j).filter fun x => !q x) ++ mid ++ l.drop j := by rw [hd]; simp
            rw [this]
            exact r1
          have CH := HX
          rw [hx] at CG
          clear hx HM hrow hC hxj hXl hd hKl hmid hiX
          generalize l[j] = x at *
          obtain ⟨x0, x1, x2, x3, x4, x5⟩ := x
          simp only [Tk.c] at m0 m1 m2 m3 m4 m5 CG
          have CG1 := CG _ (HX.out (wr.alloc (.cells #[.int .u64 (x0 : Int), .int .u64 (x1 : Int), .int .u64 (x2 : Int), .int .i64 x3, .int .i64 x4, .string (S x5)] 66)) ((Ch.refl _ wr).alloc _)).2
          clear CG
          go_wp2
          refine CG1.mono ?_
          rintro e w2 ⟨rfl, b2⟩
          have H3 : Hid _ := HN.out w2 (((Ch.refl _ wr).alloc _).trans (Ch.of_below b2))
          clear CG1 HN b2 HX CH
          go_wp2
          go_roundw
          case rel => exact ⟨i, j + 1, rfl, by simp, by omega, by omega, H3.out⟩
          case measure => simp [intOf]; omega
        · have hx' : q l[j] = false := by simpa using hx
          have HN : Hid (∀ W, Ch (fun _ => False) wr W → Ch (fun g' => (some g : Option Nat) = some g') w (W.setCells g (i * 6) (Tk.c l[j])) ∧ ∃ mid : List Tk, mid.length = j + 1 - (i + 1) ∧ ((l.take (j + 1)).filter fun x => !q x).length = i + 1 ∧ (W.setCells g (i * 6) (Tk.c l[j])).ownsRow B 66 6 (.slice (some ⟨g, 0, none⟩) l.length cap) l.length ((((l.take (j + 1)).filter fun x => !q x) ++ mid ++ l.drop (j + 1)).flatMap Tk.c)) := by
            intro W hW
            obtain ⟨r1, c1⟩ := HX.out W hW
            refine ⟨ch_setCells c1 g _ _ (fun _ => rfl), mid.tail ++ [l[j]], by simp; omega, by rw [filter_snoc hlt, hx']; simp [hKl], ?_⟩
            have := row_elem Tk.k r1 i hiX l[j]
            have e2 : (((l.take j).filter fun x => !q x) ++ mid ++ l.drop j).set i l[j] = (((l.take (j + 1)).filter fun x => !q x) ++ (mid.tail ++ [l[j]]) ++ l.drop (j + 1)) := by
              rw [filter_snoc hlt, hx', hd, ← hKl, set_gap (by omega)]; rfl
            rw [e2] at this
            exact this
          have HF : Hid (∀ W, Ch (fun _ => False) wr W → (W.cell? ⟨g, i * 6 + 0, none⟩).isSome = true ∧ W.frozen? ⟨g, i * 6 + 0, none⟩ = false ∧ (W.cell? ⟨g, i * 6 + 1, none⟩).isSome = true ∧ W.frozen? ⟨g, i * 6 + 1, none⟩ = false ∧ (W.cell? ⟨g, i * 6 + 2, none⟩).isSome = true ∧ W.frozen? ⟨g, i * 6 + 2, none⟩ = false ∧ (W.cell? ⟨g, i * 6 + 3, none⟩).isSome = true ∧ W.frozen? ⟨g, i * 6 + 3, none⟩ = false ∧ (W.cell? ⟨g, i * 6 + 4, none⟩).isSome = true ∧ W.frozen? ⟨g, i * 6 + 4, none⟩ = false ∧ (W.cell? ⟨g, i * 6 + 5, none⟩).isSome = true ∧ W.frozen? ⟨g, i * 6 + 5, none⟩ = false) := by
            intro W hW
            have r1 := (HX.out W hW).1
            have cc : ∀ n, n < 6 → (W.cell? ⟨g, i * 6 + n, none⟩).isSome = true := fun n hn => by
              have e3 : ((((l.take j).filter fun x => !q x) ++ mid ++ l.drop j).flatMap Tk.c)[i * 6 + n]? = some ((Tk.c ((((l.take j).filter fun x => !q x) ++ mid ++ l.drop j)[i]))[n]'(by rw [Tk.k]; exact hn)) := by
                rw [fm_get Tk.k _ i n hn, List.getElem?_eq_getElem hiX]
                exact List.getElem?_eq_getElem _
              rw [row_cell r1 e3]; rfl
            exact ⟨cc 0 (by omega), row_fro r1 _, cc 1 (by omega), row_fro r1 _, cc 2 (by omega), row_fro r1 _, cc 3 (by omega), row_fro r1 _, cc 4 (by omega), row_fro r1 _, cc 5 (by omega), row_fro r1 _⟩
          rw [hx'] at CG
          clear hx hx' HM hrow hC hxj hXl hd hKl hmid hiX
          generalize l[j] = x at *
          obtain ⟨x0, x1, x2, x3, x4, x5⟩ := x
          simp only [Tk.c] at m0 m1 m2 m3 m4 m5 CG
          have CG1 := CG _ (HX.out (wr.alloc (.cells #[.int .u64 (x0 : Int), .int .u64 (x1 : Int), .int .u64 (x2 : Int), .int .i64 x3, .int .i64 x4, .string (S x5)] 66)) ((Ch.refl _ wr).alloc _)).2
          clear CG
          go_wp2
          refine CG1.mono ?_
          rintro e w2 ⟨rfl, b2⟩
          have HW2 : Ch (fun _ => False) wr w2 := ((Ch.refl _ wr).alloc _).trans (Ch.of_below b2)
          have H3 : Hid _ := HN.out w2 HW2
          obtain ⟨p0, f0, p1, f1, p2, f2, p3, f3, p4, f4, p5, f5⟩ := HF.out w2 HW2
          have y0 := (b2.cell (p := ⟨wr.heap.size, 0, none⟩) (by simp)).trans (World.cell?_alloc_new wr _ _ _)
          have y1 := (b2.cell (p := ⟨wr.heap.size, 1, none⟩) (by simp)).trans (World.cell?_alloc_new wr _ _ _)
          have y2 := (b2.cell (p := ⟨wr.heap.size, 2, none⟩) (by simp)).trans (World.cell?_alloc_new wr _ _ _)
          have y3 := (b2.cell (p := ⟨wr.heap.size, 3, none⟩) (by simp)).trans (World.cell?_alloc_new wr _ _ _)
          have y4 := (b2.cell (p := ⟨wr.heap.size, 4, none⟩) (by simp)).trans (World.cell?_alloc_new wr _ _ _)
          have y5 := (b2.cell (p := ⟨wr.heap.size, 5, none⟩) (by simp)).trans (World.cell?_alloc_new wr _ _ _)
          simp only [Nat.add_zero, List.getElem?_toArray, List.getElem?_cons_zero, List.getElem?_cons_succ] at p0 f0 y0 y1 y2 y3 y4 y5
          obtain ⟨u0, p0⟩ := Option.isSome_iff_exists.1 p0
          obtain ⟨u1, p1⟩ := Option.isSome_iff_exists.1 p1
          obtain ⟨u2, p2⟩ := Option.isSome_iff_exists.1 p2
          obtain ⟨u3, p3⟩ := Option.isSome_iff_exists.1 p3
          obtain ⟨u4, p4⟩ := Option.isSome_iff_exists.1 p4
          obtain ⟨u5, p5⟩ := Option.isSome_iff_exists.1 p5
          have hw1 : IntKind.i64.wrap ((i : Int) + 1) = (i : Int) + 1 := by rw [IntKind.wrap_i64]; omega
          clear CG1 HN b2 HX HF HW2
          go_wp2
          go_roundw
          case rel => exact ⟨i + 1, j + 1, by simp, by simp, by omega, by omega, H3.out⟩
          case measure => simp [intOf]; omega
      · have hlt' : ¬ (j : Int) < (l.length : Int) := by omega
        obtain rfl : j = l.length := by omega
        obtain ⟨hC, mid, hmid, hKl, hrow⟩ := HM.out
        rw [List.take_length] at hKl hrow
        rw [List.drop_length, List.append_nil, List.flatMap_append] at hrow
        have hzl := zero_len (.agg #[.int .u64 0, .int .u64 0, .int .u64 0, .int .i64 0, .int .i64 0, .string ⟨#[]⟩]) 6 rfl (l.length - i)
        have hz1' := zero_one (z := .agg #[.int .u64 0, .int .u64 0, .int .u64 0, .int .i64 0, .int .i64 0, .string ⟨#[]⟩]) (k := 6) rfl (by decide) (by decide) (l.length - i)
        have hlen := hrow.1
        have hcl : Hid (∀ ty cc, (Builtin.clear_ #[25] ty #[.slice (some ⟨g, i * 6, none⟩) (l.length - i) cc]).run Tryz.prog wr = .ok (.tuple #[]) (wr.setCells g (i * 6) (Builtin.zeroCells (.agg #[.int .u64 0, .int .u64 0, .int .u64 0, .int .i64 0, .int .i64 0, .string ⟨#[]⟩] : Value).cells (l.length - i)).toList)) := fun ty cc =>
          run_clearN wr _ _ ty _ Tryz.underlying25 Tryz.zeroValue66 g (i * 6) (l.length - i) cc (by omega) _ rfl hz1' (fun t ht => by
            have hlt : i * 6 + t < (List.flatMap Tk.c (List.filter (fun x => !q x) l) ++ List.flatMap Tk.c mid).length := by rw [hlen]; omega
            rw [row_cell hrow (List.getElem?_eq_getElem hlt)]; rfl) (fun t ht => row_fro hrow _)
        have HE : Hid ((wr.setCells g (i * 6) (Builtin.zeroCells (.agg #[.int .u64 0, .int .u64 0, .int .u64 0, .int .i64 0, .int .i64 0, .string ⟨#[]⟩] : Value).cells (l.length - i)).toList).ownsRow B 66 6 (.slice (some ⟨g, 0, none⟩) i cap) (l.filter fun x => !q x).length ((l.filter fun x => !q x).flatMap Tk.c) ∧ Ch (fun g' => (some g : Option Nat) = some g') w (wr.setCells g (i * 6) (Builtin.zeroCells (.agg #[.int .u64 0, .int .u64 0, .int .u64 0, .int .i64 0, .int .i64 0, .string ⟨#[]⟩] : Value).cells (l.length - i)).toList)) := by
          have r2 := row_puts hrow (i * 6) (Builtin.zeroCells (.agg #[.int .u64 0, .int .u64 0, .int .u64 0, .int .i64 0, .int .i64 0, .string ⟨#[]⟩] : Value).cells (l.length - i)).toList (by rw [hzl, hlen]; omega)
          have e5 : (List.flatMap Tk.c (List.filter (fun x => !q x) l) ++ List.flatMap Tk.c mid).take (i * 6) = List.flatMap Tk.c (List.filter (fun x => !q x) l) := by
            rw [List.take_append_of_le_length (by rw [fm_len Tk.k, hKl]; exact Nat.le_refl _), List.take_of_length_le (by rw [fm_len Tk.k, hKl]; exact Nat.le_refl _)]
          rw [e5, List.append_assoc] at r2
          refine ⟨?_, ch_setCells hC g _ _ (fun _ => rfl)⟩
          rw [hKl]
          exact row_cut r2 (by rw [fm_len Tk.k, hKl]) (by omega)
        clear HM hrow hC hzl hz1' hlen hmid HQ HR hKl
        have hil : (i : Int) ≤ (l.length : Int) := by omega
        have hii : (0 : Int) ≤ (i : Int) := by omega
        have hic : ¬ cap = i := by omega
        have hlc : (l.length : Int) ≤ (cap : Int) := by omega
        have hil2 : i ≤ l.length := by omega
        generalize (Builtin.zeroCells (.agg #[.int .u64 0, .int .u64 0, .int .u64 0, .int .i64 0, .int .i64 0, .string ⟨#[]⟩] : Value).cells (l.length - i)).toList = zz at *
        have hcl2 := hcl.out
        clear hcl
        go_wp2
        go_ret
        exact ⟨.slice (some ⟨g, 0, none⟩) i cap, rfl, HE.out.1, HE.out.2, rfl⟩

set_option maxHeartbeats 4000000 in
set_option maxRecDepth 100000 in
theorem delJb_any {B : Nat} {w : World} {v : Value} {l : List Jb} {kf : Nat} {caps : Array Value} (q : Jb → Bool) (h : w.ownsRow B 46 6 v l.length (l.flatMap Jb.c)) (hn : l.length ≤ 4611686018427387904) (ek : Ent0 kf) (hq : ∀ x ∈ l, Say (fun g => v.ownBlock = some g) w kf caps #[.agg (Jb.c x).toArray] (q x)) :
    Calls Tryz.prog 191 #[v, .func (.func kf) #[] caps] w fun e w' => ∃ v', e = .returned v' ∧ w'.ownsRow B 46 6 v' (l.filter fun x => !q x).length ((l.filter fun x => !q x).flatMap Jb.c) ∧ Ch (fun g => v.ownBlock = some g) w w' ∧ v'.ownBlock = v.ownBlock := by
  have CI := indexJb_any q (Rr.row Jb.k h) hn ek hq
  have HQ : Hid (∀ x ∈ l, Say (fun g => v.ownBlock = some g) w kf caps #[.agg (Jb.c x).toArray] (q x)) := hq
  unfold Ent0 at ek
  clear hq
  cases hF : l.findIdx? q with
  | none =>
    have e0 : fix q l = -1 := by unfold fix; rw [hF]
    have HFl : Hid ((l.filter fun x => !q x) = l) := by
      show _ = _
      rw [List.filter_eq_self]
      intro x hx
      rw [List.findIdx?_eq_none_iff] at hF
      simp [hF x hx]
    have HR : Hid (w.ownsRow B 46 6 v l.length (l.flatMap Jb.c)) := h
    rw [e0] at CI
    obtain ⟨a, cp, hs, -⟩ := row_slice h
    clear h hF HQ e0
    subst hs
    go_enter Tryz.func191, Tryz.ntmps191
    go_wp2_with (go_at_call 79; refine CI.mono ?_; rintro e w1 ⟨rfl, b1⟩; (have HC : Hid (Ch (fun g => (Value.slice a l.length cp).ownBlock = some g) w w1) := Ch.of_below b1); (have HR1 : Hid (w1.ownsRow B 46 6 (.slice a l.length cp) l.length (l.flatMap Jb.c)) := (Ch.of_below (X := fun _ => False) b1).row HR.out (fun _ _ e => e)); clear b1 CI)
    go_ret
    rw [HFl.out]
    exact ⟨_, rfl, HR1.out, HC.out, rfl⟩
  | some i0 =>
    have e0 : fix q l = (i0 : Int) := by unfold fix; rw [hF]
    obtain ⟨hi0, hqi, hqb⟩ := List.findIdx?_eq_some_iff_getElem.1 hF
    obtain ⟨g, cap, rfl, hcap⟩ := row_any h (by omega)
    have hcm : cap ≤ 9223372036854775807 := by obtain ⟨_, _, e, -, -, h9⟩ := row_slice h; injection e with _ _ e; omega
    obtain ⟨i9, hi9, hz0, hz1, hz2⟩ := info_parts infoJb
    have HR : Hid (w.ownsRow B 46 6 (.slice (some ⟨g, 0, none⟩) l.length cap) l.length (l.flatMap Jb.c)) := h
    have K0 : (l.take i0).filter (fun x => !q x) = l.take i0 := by
      rw [List.filter_eq_self]
      intro x hx
      obtain ⟨n, hn, rfl⟩ := List.getElem_of_mem hx
      rw [List.length_take] at hn
      have := hqb n (by omega)
      rw [List.getElem_take]
      simpa using this
    have HS : Hid (∃ mid : List Jb, mid.length = i0 + 1 - i0 ∧ ((l.take (i0 + 1)).filter fun x => !q x).length = i0 ∧ w.ownsRow B 46 6 (.slice (some ⟨g, 0, none⟩) l.length cap) l.length ((((l.take (i0 + 1)).filter fun x => !q x) ++ mid ++ l.drop (i0 + 1)).flatMap Jb.c)) := by
      refine ⟨[l[i0]], by simp, ?_, ?_⟩
      · rw [filter_snoc hi0, K0, hqi]; simp; omega
      · rw [filter_snoc hi0, K0, hqi]
        have : l.take i0 ++ (if (!true) = true then [l[i0]] else []) ++ [l[i0]] ++ l.drop (i0 + 1) = l := by simp
        rw [this]; exact h
    rw [e0] at CI
    clear h hF K0 e0 hqb hqi
    have hw0 : IntKind.i64.wrap ((i0 : Int) + 1) = (i0 : Int) + 1 := by rw [IntKind.wrap_i64]; omega
    have hne : ((i0 : Int) == -1) = false := by rw [beq_eq_false_iff_ne]; omega
    have hne2 : ¬ (i0 : Int) = -1 := by omega
    go_enter Tryz.func191, Tryz.ntmps191
    go_wp2_with (go_at_call 79; refine CI.mono ?_; rintro e w1 ⟨rfl, b1⟩; (have HC : Hid (Ch (fun g' => (some g : Option Nat) = some g') w w1 ∧ ∃ mid : List Jb, mid.length = i0 + 1 - i0 ∧ ((l.take (i0 + 1)).filter fun x => !q x).length = i0 ∧ w1.ownsRow B 46 6 (.slice (some ⟨g, 0, none⟩) l.length cap) l.length ((((l.take (i0 + 1)).filter fun x => !q x) ++ mid ++ l.drop (i0 + 1)).flatMap Jb.c)) := by (obtain ⟨mid, h1, h2, h3⟩ := HS.out; exact ⟨Ch.of_below b1, mid, h1, h2, (Ch.of_below (X := fun _ => False) b1).row h3 (fun _ _ e => e)⟩)); clear b1 CI HS)
    go_loopw [5, 6] (fun v5 v6 wr => ∃ i j : Nat, v5 = .int .i64 (i : Int) ∧ v6 = .int .i64 (j : Int) ∧ i < j ∧ j ≤ l.length ∧ Hid (Ch (fun g' => (some g : Option Nat) = some g') w wr ∧ ∃ mid : List Jb, mid.length = j - i ∧ ((l.take j).filter fun x => !q x).length = i ∧ wr.ownsRow B 46 6 (.slice (some ⟨g, 0, none⟩) l.length cap) l.length ((((l.take j).filter fun x => !q x) ++ mid ++ l.drop j).flatMap Jb.c))) (fun _ v6 _ => l.length - (intOf v6).toNat)
    case atStart => exact ⟨i0, i0 + 1, rfl, by simp, by omega, by omega, HC.out⟩
    case round =>
      clear HC hne hne2 hw0
      obtain ⟨i, j, rfl, rfl, hij, hjl, HM⟩ := hrel
      by_cases hlt : j < l.length
      · have hlt' : (j : Int) < (l.length : Int) := by omega
        have hj0 : (0 : Int) ≤ (j : Int) := by omega
        have hii : (0 : Int) ≤ (i : Int) := by omega
        have hil : (i : Int) < (l.length : Int) := by omega
        obtain ⟨hC, mid, hmid, hKl, hrow⟩ := HM.out
        have hd : l.drop j = l[j] :: l.drop (j + 1) := (List.getElem_cons_drop (h := hlt)).symm
        have hxj : (((l.take j).filter fun x => !q x) ++ mid ++ l.drop j)[j]? = some l[j] := by
          rw [List.getElem?_append_right (by simp; omega), List.length_append, hKl, hmid, hd, show j - (i + (j - i)) = 0 by omega]; rfl
        have hXl : (((l.take j).filter fun x => !q x) ++ mid ++ l.drop j).length = l.length := by simp [hKl, hmid]; omega
        have hiX : i < (((l.take j).filter fun x => !q x) ++ mid ++ l.drop j).length := by omega
        have m0 : wr.cell? ⟨g, j * 6 + 0, none⟩ = some (.int .u64 (l[j].key : Int)) := row_cell hrow (by rw [fm_get Jb.k _ j 0 (by omega), hxj]; rfl)
        have m1 : wr.cell? ⟨g, j * 6 + 1, none⟩ = some (.int .u64 (l[j].token : Int)) := row_cell hrow (by rw [fm_get Jb.k _ j 1 (by omega), hxj]; rfl)
        have m2 : wr.cell? ⟨g, j * 6 + 2, none⟩ = some (.string (S l[j].typ)) := row_cell hrow (by rw [fm_get Jb.k _ j 2 (by omega), hxj]; rfl)
        have m3 : wr.cell? ⟨g, j * 6 + 3, none⟩ = some (.int .i64 l[j].retr) := row_cell hrow (by rw [fm_get Jb.k _ j 3 (by omega), hxj]; rfl)
        have m4 : wr.cell? ⟨g, j * 6 + 4, none⟩ = some (.string (S l[j].wkr)) := row_cell hrow (by rw [fm_get Jb.k _ j 4 (by omega), hxj]; rfl)
        have m5 : wr.cell? ⟨g, j * 6 + 5, none⟩ = some (.int .i64 l[j].unt) := row_cell hrow (by rw [fm_get Jb.k _ j 5 (by omega), hxj]; rfl)
        simp only [Nat.add_zero] at m0
        have CG := HQ.out l[j] (List.getElem_mem hlt)
        have HX : Hid (∀ W, Ch (fun _ => False) wr W → W.ownsRow B 46 6 (.slice (some ⟨g, 0, none⟩) l.length cap) l.length ((((l.take j).filter fun x => !q x) ++ mid ++ l.drop j).flatMap Jb.c) ∧ Ch (fun g' => (some g : Option Nat) = some g') w W) := fun W hW => ⟨hW.row hrow (fun _ _ e => e), hC.trans (hW.mono (fun _ _ e => e.elim))⟩
        by_cases hx : q l[j] = true
        · have HN : Hid (∀ W, Ch (fun _ => False) wr W → Ch (fun g' => (some g : Option Nat) = some g') w W ∧ ∃ mid : List Jb, mid.length = j + 1 - i ∧ ((l.take (j + 1)).filter fun x => !q x).length = i ∧ W.ownsRow B 46 6 (.slice (some ⟨g, 0, none⟩) l.length cap) l.length ((((l.take (j + 1)).filter fun x => !q x) ++ mid ++ l.drop (j + 1)).flatMap Jb.c)) := by
            intro W hW
            obtain ⟨r1, c1⟩ := HX.out W hW
            refine ⟨c1, mid ++ [l[j]], by simp; omega, by rw [filter_snoc hlt, hx]; simpa using hKl, ?_⟩
            rw [filter_snoc hlt, hx]
            have : ((l.take j).filter fun x => !q x) ++ (if (!true) = true then [l[j]] else []) ++ (mid ++ [l[j]]) ++ l.drop (j + 1) = ((l.take j).filter fun x => !q x) ++ mid ++ l.drop j := by rw [hd]; simp
            rw [this]
            exact r1
          have CH := HX
          rw [hx] at CG
          clear hx HM hrow hC hxj hXl hd hKl hmid hiX
          generalize l[j] = x at *
          obtain ⟨x0, x1, x2, x3, x4, x5⟩ := x
          simp only [Jb.c] at m0 m1 m2 m3 m4 m5 CG
          have CG1 := CG _ (HX.out (wr.alloc (.cells #[.int .u64 (x0 : Int), .int .u64 (x1 : Int), .string (S x2), .int .i64 x3, .string (S x4), .int .i64 x5] 46)) ((Ch.refl _ wr).alloc _)).2
          clear CG
          go_wp2
          refine CG1.mono ?_
          rintro e w2 ⟨rfl, b2⟩
          have H3 : Hid _ := HN.out w2 (((Ch.refl _ wr).alloc _).trans (Ch.of_below b2))
          clear CG1 HN b2 HX CH
          go_wp2
          go_roundw
          case rel => exact ⟨i, j + 1, rfl, by simp, by omega, by omega, H3.out⟩
          case measure => simp [intOf]; omega
        · have hx' : q l[j] = false := by simpa using hx
          have HN : Hid (∀ W, Ch (fun _ => False) wr W → Ch (fun g' => (some g : Option Nat) = some g') w (W.setCells g (i * 6) (Jb.c l[j])) ∧ ∃ mid : List Jb, mid.length = j + 1 - (i + 1) ∧ ((l.take (j + 1)).filter fun x => !q x).length = i + 1 ∧ (W.setCells g (i * 6) (Jb.c l[j])).ownsRow B 46 6 (.slice (some ⟨g, 0, none⟩) l.length cap) l.length ((((l.take (j + 1)).filter fun x => !q x) ++ mid ++ l.drop (j + 1)).flatMap Jb.c)) := by
            intro W hW
            obtain ⟨r1, c1⟩ := HX.out W hW
            refine ⟨ch_setCells c1 g _ _ (fun _ => rfl), mid.tail ++ [l[j]], by simp; omega, by rw [filter_snoc hlt, hx']; simp [hKl], ?_⟩
            have := row_elem Jb.k r1 i hiX l[j]
            have e2 : (((l.take j).filter fun x => !q x) ++ mid ++ l.drop j).set i l[j] = (((l.take (j + 1)).filter fun x => !q x) ++ (mid.tail ++ [l[j]]) ++ l.drop (j + 1)) := by
              rw [filter_snoc hlt, hx', hd, ← hKl, set_gap (by omega)]; rfl
            rw [e2] at this
            exact this
          have HF : Hid (∀ W, Ch (fun _ => False) wr W → (W.cell? ⟨g, i * 6 + 0, none⟩).isSome = true ∧ W.frozen? ⟨g, i * 6 + 0, none⟩ = false ∧ (W.cell? ⟨g, i * 6 + 1, none⟩).isSome = true ∧ W.frozen? ⟨g, i * 6 + 1, none⟩ = false ∧ (W.cell? ⟨g, i * 6 + 2, none⟩).isSome = true ∧ W.frozen? ⟨g, i * 6 + 2, none⟩ = false ∧ (W.cell? ⟨g, i * 6 + 3, none⟩).isSome = true ∧ W.frozen? ⟨g, i * 6 + 3, none⟩ = false ∧ (W.cell? ⟨g, i * 6 + 4, none⟩).isSome = true ∧ W.frozen? ⟨g, i * 6 + 4, none⟩ = false ∧ (W.cell? ⟨g, i * 6 + 5, none⟩).isSome = true ∧ W.frozen? ⟨g, i * 6 + 5, none⟩ = false) := by
            intro W hW
            have r1 := (HX.out W hW).1
            have cc : ∀ n, n < 6 → (W.cell? ⟨g, i * 6 + n, none⟩).isSome = true := fun n hn => by
              have e3 : ((((l.take j).filter fun x => !q x) ++ mid ++ l.drop j).flatMap Jb.c)[i * 6 + n]? = some ((Jb.c ((((l.take j).filter fun x => !q x) ++ mid ++ l.drop j)[i]))[n]'(by rw [Jb.k]; exact hn)) := by
                rw [fm_get Jb.k _ i n hn, List.getElem?_eq_getElem hiX]
                exact List.getElem?_eq_getElem _
              rw [row_cell r1 e3]; rfl
            exact ⟨cc 0 (by omega), row_fro r1 _, cc 1 (by omega), row_fro r1 _, cc 2 (by omega), row_fro r1 _, cc 3 (by omega), row_fro r1 _, cc 4 (by omega), row_fro r1 _, cc 5 (by omega), row_fro r1 _⟩
          rw [hx'] at CG
          clear hx hx' HM hrow hC hxj hXl hd hKl hmid hiX
          generalize l[j] = x at *
          obtain ⟨x0, x1, x2, x3, x4, x5⟩ := x
          simp only [Jb.c] at m0 m1 m2 m3 m4 m5 CG
          have CG1 := CG _ (HX.out (wr.alloc (.cells #[.int .u64 (x0 : Int), .int .u64 (x1 : Int), .string (S x2), .int .i64 x3, .string (S x4), .int .i64 x5] 46)) ((Ch.refl _ wr).alloc _)).2
          clear CG
          go_wp2
          refine CG1.mono ?_
          rintro e w2 ⟨rfl, b2⟩
          have HW2 : Ch (fun _ => False) wr w2 := ((Ch.refl _ wr).alloc _).trans (Ch.of_below b2)
          have H3 : Hid _ := HN.out w2 HW2
          obtain ⟨p0, f0, p1, f1, p2, f2, p3, f3, p4, f4, p5, f5⟩ := HF.out w2 HW2
          have y0 := (b2.cell (p := ⟨wr.heap.size, 0, none⟩) (by simp)).trans (World.cell?_alloc_new wr _ _ _)
          have y1 := (b2.cell (p := ⟨wr.heap.size, 1, none⟩) (by simp)).trans (World.cell?_alloc_new wr _ _ _)
          have y2 := (b2.cell (p := ⟨wr.heap.size, 2, none⟩) (by simp)).trans (World.cell?_alloc_new wr _ _ _)
          have y3 := (b2.cell (p := ⟨wr.heap.size, 3, none⟩) (by simp)).trans (World.cell?_alloc_new wr _ _ _)
          have y4 := (b2.cell (p := ⟨wr.heap.size, 4, none⟩) (by simp)).trans (World.cell?_alloc_new wr _ _ _)
          have y5 := (b2.cell (p := ⟨wr.heap.size, 5, none⟩) (by simp)).trans (World.cell?_alloc_new wr _ _ _)
          simp only [Nat.add_zero, List.getElem?_toArray, List.getElem?_cons_zero, List.getElem?_cons_succ] at p0 f0 y0 y1 y2 y3 y4 y5
          obtain ⟨u0, p0⟩ := Option.isSome_iff_exists.1 p0
          obtain ⟨u1, p1⟩ := Option.isSome_iff_exists.1 p1
          obtain ⟨u2, p2⟩ := Option.isSome_iff_exists.1 p2
          obtain ⟨u3, p3⟩ := Option.isSome_iff_exists.1 p3
          obtain ⟨u4, p4⟩ := Option.isSome_iff_exists.1 p4
          obtain ⟨u5, p5⟩ := Option.isSome_iff_exists.1 p5
          have hw1 : IntKind.i64.wrap ((i : Int) + 1) = (i : Int) + 1 := by rw [IntKind.wrap_i64]; omega
          clear CG1 HN b2 HX HF HW2
          go_wp2
          go_roundw
          case rel => exact ⟨i + 1, j + 1, by simp, by simp, by omega, by omega, H3.out⟩
          case measure => simp [intOf]; omega
      · have hlt' : ¬ (j : Int) < (l.length : Int) := by omega
        obtain rfl : j = l.length := by omega
        obtain ⟨hC, mid, hmid, hKl, hrow⟩ := HM.out
        rw [List.take_length] at hKl hrow
        rw [List.drop_length, List.append_nil, List.flatMap_append] at hrow
        have hzl := zero_len (.agg #[.int .u64 0, .int .u64 0, .string ⟨#[]⟩, .int .i64 0, .string ⟨#[]⟩, .int .i64 0]) 6 rfl (l.length - i)
        have hz1' := zero_one (z := .agg #[.int .u64 0, .int .u64 0, .string ⟨#[]⟩, .int .i64 0, .string ⟨#[]⟩, .int .i64 0]) (k := 6) rfl (by decide) (by decide) (l.length - i)
        have hlen := hrow.1
        have hcl : Hid (∀ ty cc, (Builtin.clear_ #[26] ty #[.slice (some ⟨g, i * 6, none⟩) (l.length - i) cc]).run Tryz.prog wr = .ok (.tuple #[]) (wr.setCells g (i * 6) (Builtin.zeroCells (.agg #[.int .u64 0, .int .u64 0, .string ⟨#[]⟩, .int .i64 0, .string ⟨#[]⟩, .int .i64 0] : Value).cells (l.length - i)).toList)) := fun ty cc =>
          run_clearN wr _ _ ty _ Tryz.underlying26 Tryz.zeroValue46 g (i * 6) (l.length - i) cc (by omega) _ rfl hz1' (fun t ht => by
            have hlt : i * 6 + t < (List.flatMap Jb.c (List.filter (fun x => !q x) l) ++ List.flatMap Jb.c mid).length := by rw [hlen]; omega
            rw [row_cell hrow (List.getElem?_eq_getElem hlt)]; rfl) (fun t ht => row_fro hrow _)
        have HE : Hid ((wr.setCells g (i * 6) (Builtin.zeroCells (.agg #[.int .u64 0, .int .u64 0, .string ⟨#[]⟩, .int .i64 0, .string ⟨#[]⟩, .int .i64 0] : Value).cells (l.length - i)).toList).ownsRow B 46 6 (.slice (some ⟨g, 0, none⟩) i cap) (l.filter fun x => !q x).length ((l.filter fun x => !q x).flatMap Jb.c) ∧ Ch (fun g' => (some g : Option Nat) = some g') w (wr.setCells g (i * 6) (Builtin.zeroCells (.agg #[.int .u64 0, .int .u64 0, .string ⟨#[]⟩, .int .i64 0, .string ⟨#[]⟩, .int .i64 0] : Value).cells (l.length - i)).toList)) := by
          have r2 := row_puts hrow (i * 6) (Builtin.zeroCells (.agg #[.int .u64 0, .int .u64 0, .string ⟨#[]⟩, .int .i64 0, .string ⟨#[]⟩, .int .i64 0] : Value).cells (l.length - i)).toList (by rw [hzl, hlen]; omega)
          have e5 : (List.flatMap Jb.c (List.filter (fun x => !q x) l) ++ List.flatMap Jb.c mid).take (i * 6) = List.flatMap Jb.c (List.filter (fun x => !q x) l) := by
            rw [List.take_append_of_le_length (by rw [fm_len Jb.k, hKl]; exact Nat.le_refl _), List.take_of_length_le (by rw [fm_len Jb.k, hKl]; exact Nat.le_refl _)]
          rw [e5, List.append_assoc] at r2
          refine ⟨?_, ch_setCells hC g _ _ (fun _ => rfl)⟩
          rw [hKl]
          exact row_cut r2 (by rw [fm_len Jb.k, hKl]) (by omega)
        clear HM hrow hC hzl hz1' hlen hmid HQ HR hKl
        have hil : (i : Int) ≤ (l.length : Int) := by omega
        have hii : (0 : Int) ≤ (i : Int) := by omega
        have hic : ¬ cap = i := by omega
        have hlc : (l.length : Int) ≤ (cap : Int) := by omega
        have hil2 : i ≤ l.length := by omega
        generalize (Builtin.zeroCells (.agg #[.int .u64 0, .int .u64 0, .string ⟨#[]⟩, .int .i64 0, .string ⟨#[]⟩, .int .i64 0] : Value).cells (l.length - i)).toList = zz at *
        have hcl2 := hcl.out
        clear hcl
        go_wp2
        go_ret
        exact ⟨.slice (some ⟨g, 0, none⟩) i cap, rfl, HE.out.1, HE.out.2, rfl⟩

set_option maxHeartbeats 4000000 in
set_option maxRecDepth 100000 in
theorem delSb_any {B : Nat} {w : World} {v : Value} {l : List Sb} {kf : Nat} {caps : Array Value} (q : Sb → Bool) (h : w.ownsRow B 107 6 v l.length (l.flatMap Sb.c)) (hn : l.length ≤ 4611686018427387904) (ek : Ent0 kf) (hq : ∀ x ∈ l, Say (fun g => v.ownBlock = some g) w kf caps #[.agg (Sb.c x).toArray] (q x)) :
    Calls Tryz.prog 193 #[v, .func (.func kf) #[] caps] w fun e w' => ∃ v', e = .returned v' ∧ w'.ownsRow B 107 6 v' (l.filter fun x => !q x).length ((l.filter fun x => !q x).flatMap Sb.c) ∧ Ch (fun g => v.ownBlock = some g) w w' ∧ v'.ownBlock = v.ownBlock := by
  have CI := indexSb_any q (Rr.row Sb.k h) hn ek hq
  have HQ : Hid (∀ x ∈ l, Say (fun g => v.ownBlock = some g) w kf caps #[.agg (Sb.c x).toArray] (q x)) := hq
  unfold Ent0 at ek
  clear hq
  cases hF : l.findIdx? q with
  | none =>
    have e0 : fix q l = -1 := by unfold fix; rw [hF]
    have HFl : Hid ((l.filter fun x => !q x) = l) := by
      show _ = _
      rw [List.filter_eq_self]
      intro x hx
      rw [List.findIdx?_eq_none_iff] at hF
      simp [hF x hx]
    have HR : Hid (w.ownsRow B 107 6 v l.length (l.flatMap Sb.c)) := h
    rw [e0] at CI
    obtain ⟨a, cp, hs, -⟩ := row_slice h
    clear h hF HQ e0
    subst hs
    go_enter Tryz.func193, Tryz.ntmps193
    go_wp2_with (go_at_call 164; refine CI.mono ?_; rintro e w1 ⟨rfl, b1⟩; (have HC : Hid (Ch (fun g => (Value.slice a l.length cp).ownBlock = some g) w w1) := Ch.of_below b1); (have HR1 : Hid (w1.ownsRow B 107 6 (.slice a l.length cp) l.length (l.flatMap Sb.c)) := (Ch.of_below (X := fun _ => False) b1).row HR.out (fun _ _ e => e)); clear b1 CI)
    go_ret
    rw [HFl.out]
    exact ⟨_, rfl, HR1.out, HC.out, rfl⟩
  | some i0 =>
    have e0 : fix q l = (i0 : Int) := by unfold fix; rw [hF]
    obtain ⟨hi0, hqi, hqb⟩ := List.findIdx?_eq_some_iff_getElem.1 hF
    obtain ⟨g, cap, rfl, hcap⟩ := row_any h (by omega)
    have hcm : cap ≤ 9223372036854775807 := by obtain ⟨_, _, e, -, -, h9⟩ := row_slice h; injection e with _ _ e; omega
    obtain ⟨i9, hi9, hz0, hz1, hz2⟩ := info_parts infoSb
    have HR : Hid (w.ownsRow B 107 6 (.slice (some ⟨g, 0, none⟩) l.length cap) l.length (l.flatMap Sb.c)) := h
    have K0 : (l.take i0).filter (fun x => !q x) = l.take i0 := by
      rw [List.filter_eq_self]
      intro x hx
      obtain ⟨n, hn, rfl⟩ := List.getElem_of_mem hx
      rw [List.length_take] at hn
      have := hqb n (by omega)
      rw [List.getElem_take]
      simpa using this
    have HS : Hid (∃ mid : List Sb, mid.length = i0 + 1 - i0 ∧ ((l.take (i0 + 1)).filter fun x => !q x).length = i0 ∧ w.ownsRow B 107 6 (.slice (some ⟨g, 0, none⟩) l.length cap) l.length ((((l.take (i0 + 1)).filter fun x => !q x) ++ mid ++ l.drop (i0 + 1)).flatMap Sb.c)) := by
      refine ⟨[l[i0]], by simp, ?_, ?_⟩
      · rw [filter_snoc hi0, K0, hqi]; simp; omega
      · rw [filter_snoc hi0, K0, hqi]
        have : l.take i0 ++ (if (!true) = true then [l[i0]] else []) ++ [l[i0]] ++ l.drop (i0 + 1) = l := by simp
        rw [this]; exact h
    rw [e0] at CI
    clear h hF K0 e0 hqb hqi
    have hw0 : IntKind.i64.wrap ((i0 : Int) + 1) = (i0 : Int) + 1 := by rw [IntKind.wrap_i64]; omega
    have hne : ((i0 : Int) == -1) = false := by rw [beq_eq_false_iff_ne]; omega
    have hne2 : ¬ (i0 : Int) = -1 := by omega
    go_enter Tryz.func193, Tryz.ntmps193
    go_wp2_with (go_at_call 164; refine CI.mono ?_; rintro e w1 ⟨rfl, b1⟩; (have HC : Hid (Ch (fun g' => (some g : Option Nat) = some g') w w1 ∧ ∃ mid : List Sb, mid.length = i0 + 1 - i0 ∧ ((l.take (i0 + 1)).filter fun x => !q x).length = i0 ∧ w1.ownsRow B 107 6 (.slice (some ⟨g, 0, none⟩) l.length cap) l.length ((((l.take (i0 + 1)).filter fun x => !q x) ++ mid ++ l.drop (i0 + 1)).flatMap Sb.c)) := by (obtain ⟨mid, h1, h2, h3⟩ := HS.out; exact ⟨Ch.of_below b1, mid, h1, h2, (Ch.of_below (X := fun _ => False) b1).row h3 (fun _ _ e => e)⟩)); clear b1 CI HS)
    go_loopw [5, 6] (fun v5 v6 wr => ∃ i j : Nat, v5 = .int .i64 (i : Int) ∧ v6 = .int .i64 (j : Int) ∧ i < j ∧ j ≤ l.length ∧ Hid (Ch (fun g' => (some g : Option Nat) = some g') w wr ∧ ∃ mid : List Sb, mid.length = j - i ∧ ((l.take j).filter fun x => !q x).length = i ∧ wr.ownsRow B 107 6 (.slice (some ⟨g, 0, none⟩) l.length cap) l.length ((((l.take j).filter fun x => !q x) ++ mid ++ l.drop j).flatMap Sb.c))) (fun _ v6 _ => l.length - (intOf v6).toNat)
    case atStart => exact ⟨i0, i0 + 1, rfl, by simp, by omega, by omega, HC.out⟩
    case round =>
      clear HC hne hne2 hw0
      obtain ⟨i, j, rfl, rfl, hij, hjl, HM⟩ := hrel
      by_cases hlt : j < l.length
      · have hlt' : (j : Int) < (l.length : Int) := by omega
        have hj0 : (0 : Int) ≤ (j : Int) := by omega
        have hii : (0 : Int) ≤ (i : Int) := by omega
        have hil : (i : Int) < (l.length : Int) := by omega
        obtain ⟨hC, mid, hmid, hKl, hrow⟩ := HM.out
        have hd : l.drop j = l[j] :: l.drop (j + 1) := (List.getElem_cons_drop (h := hlt)).symm
        have hxj : (((l.take j).filter fun x => !q x) ++ mid ++ l.drop j)[j]? = some l[j] := by
          rw [List.getElem?_append_right (by simp; omega), List.length_append, hKl, hmid, hd, show j - (i + (j - i)) = 0 by omega]; rfl
        have hXl : (((l.take j).filter fun x => !q x) ++ mid ++ l.drop j).length = l.length := by simp [hKl, hmid]; omega
        have hiX : i < (((l.take j).filter fun x => !q x) ++ mid ++ l.drop j).length := by omega
        have m0 : wr.cell? ⟨g, j * 6 + 0, none⟩ = some (.int .u64 (l[j].token : Int)) := row_cell hrow (by rw [fm_get Sb.k _ j 0 (by omega), hxj]; rfl)
        have m1 : wr.cell? ⟨g, j * 6 + 1, none⟩ = some (.int .u64 (l[j].inst : Int)) := row_cell hrow (by rw [fm_get Sb.k _ j 1 (by omega), hxj]; rfl)
        have m2 : wr.cell? ⟨g, j * 6 + 2, none⟩ = some (.int .i64 l[j].node) := row_cell hrow (by rw [fm_get Sb.k _ j 2 (by omega), hxj]; rfl)
        have m3 : wr.cell? ⟨g, j * 6 + 3, none⟩ = some (.string (S l[j].name)) := row_cell hrow (by rw [fm_get Sb.k _ j 3 (by omega), hxj]; rfl)
        have m4 : wr.cell? ⟨g, j * 6 + 4, none⟩ = some (.string (S l[j].key)) := row_cell hrow (by rw [fm_get Sb.k _ j 4 (by omega), hxj]; rfl)
        have m5 : wr.cell? ⟨g, j * 6 + 5, none⟩ = some (.bool l[j].opn) := row_cell hrow (by rw [fm_get Sb.k _ j 5 (by omega), hxj]; rfl)
        simp only [Nat.add_zero] at m0
        have CG := HQ.out l[j] (List.getElem_mem hlt)
        have HX : Hid (∀ W, Ch (fun _ => False) wr W → W.ownsRow B 107 6 (.slice (some ⟨g, 0, none⟩) l.length cap) l.length ((((l.take j).filter fun x => !q x) ++ mid ++ l.drop j).flatMap Sb.c) ∧ Ch (fun g' => (some g : Option Nat) = some g') w W) := fun W hW => ⟨hW.row hrow (fun _ _ e => e), hC.trans (hW.mono (fun _ _ e => e.elim))⟩
        by_cases hx : q l[j] = true
        · have HN : Hid (∀ W, Ch (fun _ => False) wr W → Ch (fun g' => (some g : Option Nat) = some g') w W ∧ ∃ mid : List Sb, mid.length = j + 1 - i ∧ ((l.take (j + 1)).filter fun x => !q x).length = i ∧ W.ownsRow B 107 6 (.slice (some ⟨g, 0, none⟩) l.length cap) l.length ((((l.take (j + 1)).filter fun x => !q x) ++ mid ++ l.drop (j + 1)).flatMap Sb.c)) := by
            intro W hW
            obtain ⟨r1, c1⟩ := HX.out W hW
            refine ⟨c1, mid ++ [l[j]], by simp; omega, by rw [filter_snoc hlt, hx]; simpa using hKl, ?_⟩
            rw [filter_snoc hlt, hx]
            have : ((l.take j).filter fun x => !q x) ++ (if (!true) = true then [l[j]] else []) ++ (mid ++ [l[j]]) ++ l.drop (j + 1) = ((l.take j).filter fun x => !q x) ++ mid ++ l.drop j := by rw [hd]; simp
            rw [this]
            exact r1
          have CH := HX
          rw [hx] at CG
          clear hx HM hrow hC hxj hXl hd hKl hmid hiX
          generalize l[j] = x at *
          obtain ⟨x0, x1, x2, x3, x4, x5⟩ := x
          simp only [Sb.c] at m0 m1 m2 m3 m4 m5 CG
          have CG1 := CG _ (HX.out (wr.alloc (.cells #[.int .u64 (x0 : Int), .int .u64 (x1 : Int), .int .i64 x2, .string (S x3), .string (S x4), .bool x5] 107)) ((Ch.refl _ wr).alloc _)).2
          clear CG
          go_wp2
          refine CG1.mono ?_
          rintro e w2 ⟨rfl, b2⟩
          have H3 : Hid _ := HN.out w2 (((Ch.refl _ wr).alloc _).trans (Ch.of_below b2))
          clear CG1 HN b2 HX CH
          go_wp2
          go_roundw
          case rel => exact ⟨i, j + 1, rfl, by simp, by omega, by omega, H3.out⟩
          case measure => simp [intOf]; omega
        · have hx' : q l[j] = false := by simpa using hx
          have HN : Hid (∀ W, Ch (fun _ => False) wr W → Ch (fun g' => (some g : Option Nat) = some g') w (W.setCells g (i * 6) (Sb.c l[j])) ∧ ∃ mid : List Sb, mid.length = j + 1 - (i + 1) ∧ ((l.take (j + 1)).filter fun x => !q x).length = i + 1 ∧ (W.setCells g (i * 6) (Sb.c l[j])).ownsRow B 107 6 (.slice (some ⟨g, 0, none⟩) l.length cap) l.length ((((l.take (j + 1)).filter fun x => !q x) ++ mid ++ l.drop (j + 1)).flatMap Sb.c)) := by
            intro W hW
            obtain ⟨r1, c1⟩ := HX.out W hW
            refine ⟨ch_setCells c1 g _ _ (fun _ => rfl), mid.tail ++ [l[j]], by simp; omega, by rw [filter_snoc hlt, hx']; simp [hKl], ?_⟩
            have := row_elem Sb.k r1 i hiX l[j]
            have e2 : (((l.take j).filter fun x => !q x) ++ mid ++ l.drop j).set i l[j] = (((l.take (j + 1)).filter fun x => !q x) ++ (mid.tail ++ [l[j]]) ++ l.drop (j + 1)) := by
              rw [filter_snoc hlt, hx', hd, ← hKl, set_gap (by omega)]; rfl
            rw [e2] at this
            exact this
          have HF : Hid (∀ W, Ch (fun _ => False) wr W → (W.cell? ⟨g, i * 6 + 0, none⟩).isSome = true ∧ W.frozen? ⟨g, i * 6 + 0, none⟩ = false ∧ (W.cell? ⟨g, i * 6 + 1, none⟩).isSome = true ∧ W.frozen? ⟨g, i * 6 + 1, none⟩ = false ∧ (W.cell? ⟨g, i * 6 + 2, none⟩).isSome = true ∧ W.frozen? ⟨g, i * 6 + 2, none⟩ = false ∧ (W.cell? ⟨g, i * 6 + 3, none⟩).isSome = true ∧ W.frozen? ⟨g, i * 6 + 3, none⟩ = false ∧ (W.cell? ⟨g, i * 6 + 4, none⟩).isSome = true ∧ W.frozen? ⟨g, i * 6 + 4, none⟩ = false ∧ (W.cell? ⟨g, i * 6 + 5, none⟩).isSome = true ∧ W.frozen? ⟨g, i * 6 + 5, none⟩ = false) := by
            intro W hW
            have r1 := (HX.out W hW).1
            have cc : ∀ n, n < 6 → (W.cell? ⟨g, i * 6 + n, none⟩).isSome = true := fun n hn => by
              have e3 : ((((l.take j).filter fun x => !q x) ++ mid ++ l.drop j).flatMap Sb.c)[i * 6 + n]? = some ((Sb.c ((((l.take j).filter fun x => !q x) ++ mid ++ l.drop j)[i]))[n]'(by rw [Sb.k]; exact hn)) := by
                rw [fm_get Sb.k _ i n hn, List.getElem?_eq_getElem hiX]
                exact List.getElem?_eq_getElem _
              rw [row_cell r1 e3]; rfl
            exact ⟨cc 0 (by omega), row_fro r1 _, cc 1 (by omega), row_fro r1 _, cc 2 (by omega), row_fro r1 _, cc 3 (by omega), row_fro r1 _, cc 4 (by omega), row_fro r1 _, cc 5 (by omega), row_fro r1 _⟩
          rw [hx'] at CG
          clear hx hx' HM hrow hC hxj hXl hd hKl hmid hiX
          generalize l[j] = x at *
          obtain ⟨x0, x1, x2, x3, x4, x5⟩ := x
          simp only [Sb.c] at m0 m1 m2 m3 m4 m5 CG
          have CG1 := CG _ (HX.out (wr.alloc (.cells #[.int .u64 (x0 : Int), .int .u64 (x1 : Int), .int .i64 x2, .string (S x3), .string (S x4), .bool x5] 107)) ((Ch.refl _ wr).alloc _)).2
          clear CG
          go_wp2
          refine CG1.mono ?_
          rintro e w2 ⟨rfl, b2⟩
          have HW2 : Ch (fun _ => False) wr w2 := ((Ch.refl _ wr).alloc _).trans (Ch.of_below b2)
          have H3 : Hid _ := HN.out w2 HW2
          obtain ⟨p0, f0, p1, f1, p2, f2, p3, f3, p4, f4, p5, f5⟩ := HF.out w2 HW2
          have y0 := (b2.cell (p := ⟨wr.heap.size, 0, none⟩) (by simp)).trans (World.cell?_alloc_new wr _ _ _)
          have y1 := (b2.cell (p := ⟨wr.heap.size, 1, none⟩) (by simp)).trans (World.cell?_alloc_new wr _ _ _)
          have y2 := (b2.cell (p := ⟨wr.heap.size, 2, none⟩) (by simp)).trans (World.cell?_alloc_new wr _ _ _)
          have y3 := (b2.cell (p := ⟨wr.heap.size, 3, none⟩) (by simp)).trans (World.cell?_alloc_new wr _ _ _)
          have y4 := (b2.cell (p := ⟨wr.heap.size, 4, none⟩) (by simp)).trans (World.cell?_alloc_new wr _ _ _)
          have y5 := (b2.cell (p := ⟨wr.heap.size, 5, none⟩) (by simp)).trans (World.cell?_alloc_new wr _ _ _)
          simp only [Nat.add_zero, List.getElem?_toArray, List.getElem?_cons_zero, List.getElem?_cons_succ] at p0 f0 y0 y1 y2 y3 y4 y5
          obtain ⟨u0, p0⟩ := Option.isSome_iff_exists.1 p0
          obtain ⟨u1, p1⟩ := Option.isSome_iff_exists.1 p1
          obtain ⟨u2, p2⟩ := Option.isSome_iff_exists.1 p2
          obtain ⟨u3, p3⟩ := Option.isSome_iff_exists.1 p3
          obtain ⟨u4, p4⟩ := Option.isSome_iff_exists.1 p4
          obtain ⟨u5, p5⟩ := Option.isSome_iff_exists.1 p5
          have hw1 : IntKind.i64.wrap ((i : Int) + 1) = (i : Int) + 1 := by rw [IntKind.wrap_i64]; omega
          clear CG1 HN b2 HX HF HW2
          go_wp2
          go_roundw
          case rel => exact ⟨i + 1, j + 1, by simp, by simp, by omega, by omega, H3.out⟩
          case measure => simp [intOf]; omega
      · have hlt' : ¬ (j : Int) < (l.length : Int) := by omega
        obtain rfl : j = l.length := by omega
        obtain ⟨hC, mid, hmid, hKl, hrow⟩ := HM.out
        rw [List.take_length] at hKl hrow
        rw [List.drop_length, List.append_nil, List.flatMap_append] at hrow
        have hzl := zero_len (.agg #[.int .u64 0, .int .u64 0, .int .i64 0, .string ⟨#[]⟩, .string ⟨#[]⟩, .bool false]) 6 rfl (l.length - i)
        have hz1' := zero_one (z := .agg #[.int .u64 0, .int .u64 0, .int .i64 0, .string ⟨#[]⟩, .string ⟨#[]⟩, .bool false]) (k := 6) rfl (by decide) (by decide) (l.length - i)
        have hlen := hrow.1
        have hcl : Hid (∀ ty cc, (Builtin.clear_ #[28] ty #[.slice (some ⟨g, i * 6, none⟩) (l.length - i) cc]).run Tryz.prog wr = .ok (.tuple #[]) (wr.setCells g (i * 6) (Builtin.zeroCells (.agg #[.int .u64 0, .int .u64 0, .int .i64 0, .string ⟨#[]⟩, .string ⟨#[]⟩, .bool false] : Value).cells (l.length - i)).toList)) := fun ty cc =>
          run_clearN wr _ _ ty _ Tryz.underlying28 Tryz.zeroValue107 g (i * 6) (l.length - i) cc (by omega) _ rfl hz1' (fun t ht => by
            have hlt : i * 6 + t < (List.flatMap Sb.c (List.filter (fun x => !q x) l) ++ List.flatMap Sb.c mid).length := by rw [hlen]; omega
            rw [row_cell hrow (List.getElem?_eq_getElem hlt)]; rfl) (fun t ht => row_fro hrow _)
        have HE : Hid ((wr.setCells g (i * 6) (Builtin.zeroCells (.agg #[.int .u64 0, .int .u64 0, .int .i64 0, .string ⟨#[]⟩, .string ⟨#[]⟩, .bool false] : Value).cells (l.length - i)).toList).ownsRow B 107 6 (.slice (some ⟨g, 0, none⟩) i cap) (l.filter fun x => !q x).length ((l.filter fun x => !q x).flatMap Sb.c) ∧ Ch (fun g' => (some g : Option Nat) = some g') w (wr.setCells g (i * 6) (Builtin.zeroCells (.agg #[.int .u64 0, .int .u64 0, .int .i64 0, .string ⟨#[]⟩, .string ⟨#[]⟩, .bool false] : Value).cells (l.length - i)).toList)) := by
          have r2 := row_puts hrow (i * 6) (Builtin.zeroCells (.agg #[.int .u64 0, .int .u64 0, .int .i64 0, .string ⟨#[]⟩, .string ⟨#[]⟩, .bool false] : Value).cells (l.length - i)).toList (by rw [hzl, hlen]; omega)
          have e5 : (List.flatMap Sb.c (List.filter (fun x => !q x) l) ++ List.flatMap Sb.c mid).take (i * 6) = List.flatMap Sb.c (List.filter (fun x => !q x) l) := by
            rw [List.take_append_of_le_length (by rw [fm_len Sb.k, hKl]; exact Nat.le_refl _), List.take_of_length_le (by rw [fm_len Sb.k, hKl]; exact Nat.le_refl _)]
          rw [e5, List.append_assoc] at r2
          refine ⟨?_, ch_setCells hC g _ _ (fun _ => rfl)⟩
          rw [hKl]
          exact row_cut r2 (by rw [fm_len Sb.k, hKl]) (by omega)
        clear HM hrow hC hzl hz1' hlen hmid HQ HR hKl
        have hil : (i : Int) ≤ (l.length : Int) := by omega
        have hii : (0 : Int) ≤ (i : Int) := by omega
        have hic : ¬ cap = i := by omega
        have hlc : (l.length : Int) ≤ (cap : Int) := by omega
        have hil2 : i ≤ l.length := by omega
        generalize (Builtin.zeroCells (.agg #[.int .u64 0, .int .u64 0, .int .i64 0, .string ⟨#[]⟩, .string ⟨#[]⟩, .bool false] : Value).cells (l.length - i)).toList = zz at *
        have hcl2 := hcl.out
        clear hcl
        go_wp2
        go_ret
        exact ⟨.slice (some ⟨g, 0, none⟩) i cap, rfl, HE.out.1, HE.out.2, rfl⟩

/-- what taking away comes to -/
def DlTm (B : Nat) (w : World) (v : Value) (l : List Tm) (e : Ending) (w' : World) : Prop := ∃ v', e = .returned v' ∧ w'.ownsRow B 70 3 v' l.length (l.flatMap Tm.c) ∧ Ch (fun g => v.ownBlock = some g) w w' ∧ v'.ownBlock = v.ownBlock
set_option maxHeartbeats 400000 in
theorem takeTm_any {B : Nat} {w : World} {v : Value} {l : List Tm} {kf : Nat} {caps : Array Value} (q : Tm → Bool) (h : w.ownsRow B 70 3 v l.length (l.flatMap Tm.c)) (hn : l.length ≤ 4611686018427387904) (ek : Ent0 kf) (hq : ∀ x ∈ l, Say (fun g => v.ownBlock = some g) w kf caps #[.agg (Tm.c x).toArray] (q x)) :
    Calls Tryz.prog 150 #[v, .func (.func kf) #[] caps] w (DlTm B w v (l.filter fun x => !q x)) := by
  have CD := delTm_any q h hn ek hq
  obtain ⟨a, cp, hs, -⟩ := row_slice h
  clear h hq ek
  subst hs
  generalize (l.filter fun x => !q x) = l' at *
  go_enter Tryz.func150, Tryz.ntmps150
  go_wp2_with (go_at_call 192; refine CD.mono ?_; rintro e w1 ⟨v1, rfl, r1, c1, o1⟩; (have H1 : Hid (w1.ownsRow B 70 3 v1 l'.length (l'.flatMap Tm.c) ∧ Ch (fun g => (Value.slice a l.length cp).ownBlock = some g) w w1 ∧ v1.ownBlock = (Value.slice a l.length cp).ownBlock) := ⟨r1, c1, o1⟩); clear r1 c1 o1 CD)
  go_ret
  exact ⟨_, rfl, H1.out⟩

/-- what taking away comes to -/
def DlTk (B : Nat) (w : World) (v : Value) (l : List Tk) (e : Ending) (w' : World) : Prop := ∃ v', e = .returned v' ∧ w'.ownsRow B 66 6 v' l.length (l.flatMap Tk.c) ∧ Ch (fun g => v.ownBlock = some g) w w' ∧ v'.ownBlock = v.ownBlock
set_option maxHeartbeats 400000 in
theorem takeTk_any {B : Nat} {w : World} {v : Value} {l : List Tk} {kf : Nat} {caps : Array Value} (q : Tk → Bool) (h : w.ownsRow B 66 6 v l.length (l.flatMap Tk.c)) (hn : l.length ≤ 4611686018427387904) (ek : Ent0 kf) (hq : ∀ x ∈ l, Say (fun g => v.ownBlock = some g) w kf caps #[.agg (Tk.c x).toArray] (q x)) :
    Calls Tryz.prog 89 #[v, .func (.func kf) #[] caps] w (DlTk B w v (l.filter fun x => !q x)) := by
  have CD := delTk_any q h hn ek hq
  obtain ⟨a, cp, hs, -⟩ := row_slice h
  clear h hq ek
  subst hs
  generalize (l.filter fun x => !q x) = l' at *
  go_enter Tryz.func89, Tryz.ntmps89
  go_wp2_with (go_at_call 146; refine CD.mono ?_; rintro e w1 ⟨v1, rfl, r1, c1, o1⟩; (have H1 : Hid (w1.ownsRow B 66 6 v1 l'.length (l'.flatMap Tk.c) ∧ Ch (fun g => (Value.slice a l.length cp).ownBlock = some g) w w1 ∧ v1.ownBlock = (Value.slice a l.length cp).ownBlock) := ⟨r1, c1, o1⟩); clear r1 c1 o1 CD)
  go_ret
  exact ⟨_, rfl, H1.out⟩

/-- what taking away comes to -/
def DlJb (B : Nat) (w : World) (v : Value) (l : List Jb) (e : Ending) (w' : World) : Prop := ∃ v', e = .returned v' ∧ w'.ownsRow B 46 6 v' l.length (l.flatMap Jb.c) ∧ Ch (fun g => v.ownBlock = some g) w w' ∧ v'.ownBlock = v.ownBlock
set_option maxHeartbeats 400000 in
theorem takeJb_any {B : Nat} {w : World} {v : Value} {l : List Jb} {kf : Nat} {caps : Array Value} (q : Jb → Bool) (h : w.ownsRow B 46 6 v l.length (l.flatMap Jb.c)) (hn : l.length ≤ 4611686018427387904) (ek : Ent0 kf) (hq : ∀ x ∈ l, Say (fun g => v.ownBlock = some g) w kf caps #[.agg (Jb.c x).toArray] (q x)) :
    Calls Tryz.prog 148 #[v, .func (.func kf) #[] caps] w (DlJb B w v (l.filter fun x => !q x)) := by
  have CD := delJb_any q h hn ek hq
  obtain ⟨a, cp, hs, -⟩ := row_slice h
  clear h hq ek
  subst hs
  generalize (l.filter fun x => !q x) = l' at *
  go_enter Tryz.func148, Tryz.ntmps148
  go_wp2_with (go_at_call 191; refine CD.mono ?_; rintro e w1 ⟨v1, rfl, r1, c1, o1⟩; (have H1 : Hid (w1.ownsRow B 46 6 v1 l'.length (l'.flatMap Jb.c) ∧ Ch (fun g => (Value.slice a l.length cp).ownBlock = some g) w w1 ∧ v1.ownBlock = (Value.slice a l.length cp).ownBlock) := ⟨r1, c1, o1⟩); clear r1 c1 o1 CD)
  go_ret
  exact ⟨_, rfl, H1.out⟩

/-- what taking away comes to -/
def DlSb (B : Nat) (w : World) (v : Value) (l : List Sb) (e : Ending) (w' : World) : Prop := ∃ v', e = .returned v' ∧ w'.ownsRow B 107 6 v' l.length (l.flatMap Sb.c) ∧ Ch (fun g => v.ownBlock = some g) w w' ∧ v'.ownBlock = v.ownBlock
set_option maxHeartbeats 400000 in
theorem takeSb_any {B : Nat} {w : World} {v : Value} {l : List Sb} {kf : Nat} {caps : Array Value} (q : Sb → Bool) (h : w.ownsRow B 107 6 v l.length (l.flatMap Sb.c)) (hn : l.length ≤ 4611686018427387904) (ek : Ent0 kf) (hq : ∀ x ∈ l, Say (fun g => v.ownBlock = some g) w kf caps #[.agg (Sb.c x).toArray] (q x)) :
    Calls Tryz.prog 152 #[v, .func (.func kf) #[] caps] w (DlSb B w v (l.filter fun x => !q x)) := by
  have CD := delSb_any q h hn ek hq
  obtain ⟨a, cp, hs, -⟩ := row_slice h
  clear h hq ek
  subst hs
  generalize (l.filter fun x => !q x) = l' at *
  go_enter Tryz.func152, Tryz.ntmps152
  go_wp2_with (go_at_call 193; refine CD.mono ?_; rintro e w1 ⟨v1, rfl, r1, c1, o1⟩; (have H1 : Hid (w1.ownsRow B 107 6 v1 l'.length (l'.flatMap Sb.c) ∧ Ch (fun g => (Value.slice a l.length cp).ownBlock = some g) w w1 ∧ v1.ownBlock = (Value.slice a l.length cp).ownBlock) := ⟨r1, c1, o1⟩); clear r1 c1 o1 CD)
  go_ret
  exact ⟨_, rfl, H1.out⟩
end Go.Proofs.YthmfcloecmnfnaaGreat.f13

/-
  Package model's places and firstWrong, for whatever functions they are handed.
-/
import Derived.Test.YtlmdoiagjepmbaaGreatDoorM11Sml
import Derived.OwnWalk
namespace Go.Proofs.YtlmdoiagjepmbaaGreatDoor.m11
open Go.Proofs.YtlmdoiagjepmbaaGreatDoor.x10
open Go.RowKit Go.Shelf Go.Sort
open Go.Lib hiding intOf

theorem infoI : (Tryz.prog.info? 3).map (fun i => (i.zero, i.size, i.bytes)) = some (some (.int .i64 0), 1, 8) := by kernel_rfl
def iv (f : List Int) : List Value := f.map (fun x => Value.int .i64 x)
theorem iv_snoc (f : List Int) (x : Int) : iv f ++ [.int .i64 x] = iv (f ++ [x]) := by simp [iv]
theorem shd_below {w w2 w5 : World} {rv : Value} {k : Nat} {xs : List Value} {o : Obj} (hb : Below w.heap.size w w2) (hr : w2.ownsRow w.heap.size 3 1 rv k xs) (hg : (w2.alloc o).grownBy w5 rv.ownBlock) : Below w.heap.size w w5 :=
  (hb.alloc hb.size _).grown hg (by have := hb.size; simp; omega) (fun k hk => (hr.lt k hk).1)
theorem row_is {w : World} {B : Nat} {fa : Option Addr} {fc : Nat} {f : List Int} (h : w.ownsRow B 3 1 (.slice fa f.length fc) f.length (iv f)) : Is w (.slice fa f.length fc) f := by
  obtain ⟨h1, h2⟩ := h
  rcases h2 with ⟨-, h3⟩ | ⟨g, cap, cur, h3, h4, h5, h6, h7, h8, h9⟩
  · exact ⟨_, _, rfl, .inl (List.eq_nil_of_length_eq_zero h3)⟩
  · cases h3
    refine ⟨_, _, rfl, .inr ⟨g, 0, rfl, (Array.getElem?_eq_some_iff.1 h5).1, fun j hj => ?_⟩⟩
    have h10 : (iv f)[j]? = some (.int .i64 f[j]) := by simp [iv, hj]
    rw [← h9, List.getElem?_take] at h10
    split at h10
    · rw [Array.getElem?_toList] at h10
      simpa [World.cell?, h5] using h10
    · cases h10
theorem plc_snoc {α : Type} (q : α → Bool) (l : List α) (x : α) : plc q (l ++ [x]) = plc q l ++ (if q x then [(l.length : Int)] else []) := by
  unfold plc
  rw [List.length_append, List.length_singleton, List.range_succ, List.filter_append, List.map_append]
  congr 1
  · congr 1
    apply List.filter_congr
    intro i hi
    rw [List.getElem?_append_left (List.mem_range.1 hi)]
  · cases h : q x <;> simp [h]
theorem plc_le {α : Type} (q : α → Bool) (l : List α) : (plc q l).length ≤ l.length := by
  unfold plc
  rw [List.length_map]
  exact Nat.le_trans (List.length_filter_le _ _) (by simp)
theorem tk_succ {α : Type} {l : List α} {k : Nat} (h : k < l.length) : l.take (k + 1) = l.take k ++ [l[k]] := List.take_succ_eq_append_getElem h
theorem plc_next {α : Type} (q : α → Bool) {l : List α} {k : Nat} (h : k < l.length) : plc q (l.take (k + 1)) = plc q (l.take k) ++ (if q l[k] then [(k : Int)] else []) := by
  rw [tk_succ h, plc_snoc]
  congr 2
  simp; omega

set_option maxHeartbeats 2000000 in
set_option maxRecDepth 100000 in
theorem placesRowNode {w : World} {v : Value} {l : List Nd} {kf : Nat} {caps : Array Value} (q : Nd → Bool) (hv : Ns w v l) (hn : l.length ≤ 4398046511104) (ek : Ent0 kf) (hq : ∀ x ∈ l, Say w kf caps #[nA x] (q x)) :
    Calls Tryz.prog 18 #[v, .func (.func kf) #[] caps] w fun e w' => ∃ a c, e = .returned (.slice a (plc q l).length c) ∧ w'.ownsRow w.heap.size 3 1 (.slice a (plc q l).length c) (plc q l).length (iv (plc q l)) ∧ Below w.heap.size w w' := by
  obtain ⟨i0, hi0, hz0, hz1, hz2⟩ := info_parts infoI
  have HV : Hid (Ns w v l) := hv
  have HQ : Hid (∀ x ∈ l, Say w kf caps #[nA x] (q x)) := hq
  obtain ⟨a, cap, rfl, -⟩ := hv
  unfold Ent0 at ek
  clear hq
  go_enter Tryz.func18, Tryz.ntmps18
  go_wp2
  go_loopw [10, 5] (fun v10 v5 wr => ∃ (j : Nat) (f : List Int) (fa : Option Addr) (fc : Nat), v10 = .int .i64 (j : Int) ∧ v5 = .slice fa f.length fc ∧ j ≤ l.length ∧ f.length ≤ j ∧ Hid (wr.ownsRow w.heap.size 3 1 (.slice fa f.length fc) f.length (iv f)) ∧ Hid (Below w.heap.size w wr) ∧ Hid (f = plc q (l.take j))) (fun v10 _ _ => l.length - (intOf v10).toNat)
  case atStart => exact ⟨0, [], none, 0, rfl, rfl, Nat.zero_le _, Nat.zero_le _, ⟨rfl, .inl ⟨rfl, rfl⟩⟩, Below.refl _ _, rfl⟩
  case round =>
    obtain ⟨j, f, fa, fc, rfl, rfl, hj, hf, HF, HB, HP⟩ := hrel
    by_cases hjl : j < l.length
    · have hjl' : (j : Int) < (l.length : Int) := by omega
      have hj0 : (0 : Int) ≤ (j : Int) := by omega
      obtain ⟨b', off, cap', hsl, -, hbl, hcell⟩ := HV.out.at hjl
      cases hsl
      have HC : Hid _ := hcell wr HB.out j hjl
      obtain ⟨m0, m1, m2, m3, m4, m5, m6⟩ := HC.out
      have HS : Hid (Say w kf caps #[nA l[j]] (q l[j])) := HQ.out l[j] (List.getElem_mem hjl)
      have HN : Hid (plc q (l.take (j + 1)) = f ++ (if q l[j] then [(j : Int)] else [])) := by show _ = _; rw [HP.out]; exact plc_next q hjl
      clear HC hcell HP HQ HV
      generalize l[j] = x at *
      obtain ⟨x0, x1, x2, x3, x4, x5, x6⟩ := x
      simp only at m0 m1 m2 m3 m4 m5 m6
      have ha1 : Below wr.heap.size wr (wr.alloc (.cells #[.int .i64 x0, .int .i64 x1, .int .i64 x2, .string (S x3), .string (S x4), .string (S x5), .int .i64 x6] 32)) := (Below.refl _ wr).alloc (Nat.le_refl _) _
      have hB1 : Below w.heap.size w (wr.alloc (.cells #[.int .i64 x0, .int .i64 x1, .int .i64 x2, .string (S x3), .string (S x4), .string (S x5), .int .i64 x6] 32)) := bel_of HB.out ha1 (Nat.le_refl _)
      have CG := HS.out _ hB1
      unfold nA at CG
      have HY0 : Hid (∀ w2, Below (wr.alloc (.cells #[.int .i64 x0, .int .i64 x1, .int .i64 x2, .string (S x3), .string (S x4), .string (S x5), .int .i64 x6] 32)).heap.size (wr.alloc (.cells #[.int .i64 x0, .int .i64 x1, .int .i64 x2, .string (S x3), .string (S x4), .string (S x5), .int .i64 x6] 32)) w2 → Below w.heap.size w w2 ∧ w2.ownsRow w.heap.size 3 1 (.slice fa f.length fc) f.length (iv f)) := fun w2 hb => ⟨bel_of hB1 hb (Nat.le_refl _), (Ch.of_below (X := fun _ => False) (ha1.trans (hb.mono ha1.size))).row HF.out (fun _ _ e => e)⟩
      clear HS ha1 hB1
      cases hx : q ⟨x0, x1, x2, x3, x4, x5, x6⟩ with
      | false =>
        rw [hx] at CG HN
        clear hx
        go_wp2
        refine CG.mono ?_
        rintro e w1 ⟨rfl, b1⟩
        have HY : Hid _ := HY0.out w1 b1
        clear b1 CG HY0
        go_wp2
        go_roundw
        case rel => exact ⟨j + 1, f, fa, fc, by simp, rfl, by omega, by omega, HY.out.2, HY.out.1, by show _ = _; rw [HN.out]; simp⟩
        case measure => simp [intOf]; omega
      | true =>
        rw [hx] at CG HN
        clear hx
        go_wp2
        refine CG.mono ?_
        rintro e w2 ⟨rfl, b1⟩
        have HY : Hid _ := HY0.out w2 b1
        clear b1 CG HY0
        go_wp2_with (at_builtin; refine wpList_append_own _ rfl _ _ 46 rfl w.heap.size 3 i0 _ 1 8 Tryz.underlying46 hi0 hz0 hz1 hz2 rfl (by decide) _ f.length (iv f) rfl (HY.out.2.alloc _) ⟨w2.heap.size, 0, none⟩ 1 1 [.int .i64 (j : Int)] rfl rfl (new_one _ _ rfl _ _) (by simp [Value.oneCell']) (by unfold maxLen; omega) (by omega) (by have := HY.out.1.size; simp; omega) ?_; intro v5 w5 ho5 hg5 _; have HO5 : Hid _ := ho5; have HG5 : Hid _ := hg5; obtain ⟨a5, c5', rfl, -⟩ := row_slice ho5; clear ho5 hg5)
        go_roundw
        case rel =>
          have hlen : (f ++ [(j : Int)]).length = f.length + 1 := by rw [List.length_append, List.length_singleton]
          refine ⟨j + 1, f ++ [(j : Int)], a5, c5', by simp, by rw [hlen], by omega, by rw [hlen]; omega, ?_, shd_below HY.out.1 HY.out.2 HG5.out, by show _ = _; rw [HN.out]; simp⟩
          show World.ownsRow _ _ _ _ _ _ _
          rw [hlen, ← iv_snoc]
          exact HO5.out
        case measure => simp [intOf]; omega
    · have hjl' : ¬ (j : Int) < (l.length : Int) := by omega
      obtain rfl : j = l.length := by omega
      have HE : Hid (plc q l = f) := by show _ = _; rw [HP.out, List.take_length]
      clear HQ HV HP
      go_wp2
      go_ret
      rw [HE.out]
      exact ⟨_, _, rfl, HF.out, HB.out⟩
theorem placesNode {w : World} {v : Value} {l : List Nd} {kf : Nat} {caps : Array Value} (q : Nd → Bool) (hv : Ns w v l) (hn : l.length ≤ 4398046511104) (ek : Ent0 kf) (hq : ∀ x ∈ l, Say w kf caps #[nA x] (q x)) :
    Calls Tryz.prog 18 #[v, .func (.func kf) #[] caps] w fun e w' => ∃ a c, e = .returned (.slice a (plc q l).length c) ∧ Is w' (.slice a (plc q l).length c) (plc q l) ∧ Below w.heap.size w w' :=
  (placesRowNode q hv hn ek hq).mono fun _ _ ⟨a, c, h1, h2, h3⟩ => ⟨a, c, h1, row_is h2, h3⟩

set_option maxHeartbeats 4000000 in
set_option maxRecDepth 100000 in
theorem firstWrongNode {w : World} {v : Value} {l : List Nd} (R : List (Nat × Array Value)) (q : Nat → Nat → Bool) (hv : Ns w v l) (hn : l.length ≤ 4398046511104) (hm : R.length ≤ 100) {rb : Nat} (hrb : rb < w.heap.size) (hR : ∀ (j : Nat) (h : j < R.length), w.cell? ⟨rb, j, none⟩ = some (.func (.func R[j].1) #[] R[j].2) ∧ Ent0 R[j].1)
    (hq : ∀ (i : Nat) (hi : i < l.length) (j : Nat) (hj : j < R.length), (∀ j', j' < j → q j' i = true) → Say w R[j].1 R[j].2 #[.int .i64 (i : Int), nA l[i]] (q j i)) :
    Calls Tryz.prog 32 #[v, .slice (some ⟨rb, 0, none⟩) R.length R.length] w fun e w' => e = .returned (.tuple #[.int .i64 (((fwr q R.length l.length).map fun (i : Nat) => (i : Int)).getD 0), .bool (fwr q R.length l.length).isSome]) ∧ Below w.heap.size w w' := by
  have HV : Hid (Ns w v l) := hv
  have HQ : Hid (∀ (i : Nat) (hi : i < l.length) (j : Nat) (hj : j < R.length), (∀ j', j' < j → q j' i = true) → Say w R[j].1 R[j].2 #[.int .i64 (i : Int), nA l[i]] (q j i)) := hq
  have HR : Hid (∀ (j : Nat) (h : j < R.length), w.cell? ⟨rb, j, none⟩ = some (.func (.func R[j].1) #[] R[j].2) ∧ Ent0 R[j].1) := hR
  obtain ⟨a, cap, rfl, -⟩ := hv
  clear hq hR
  go_enter Tryz.func32, Tryz.ntmps32
  go_wp2
  go_loopw [12] (fun v12 wr => ∃ i : Nat, v12 = .int .i64 (i : Int) ∧ i ≤ l.length ∧ Hid (Below w.heap.size w wr ∧ ∀ i', i' < i → allQ q R.length i' = true)) (fun v12 _ => l.length - (intOf v12).toNat)
  case atStart => exact ⟨0, rfl, Nat.zero_le _, Below.refl _ _, fun i hi => by omega⟩
  case round =>
    obtain ⟨i, rfl, hi, HB⟩ := hrel
    obtain ⟨wo, hwo⟩ : ∃ wo : World, wo = wr := ⟨_, rfl⟩
    subst hwo
    by_cases hil : i < l.length
    · have hil' : (i : Int) < (l.length : Int) := by omega
      have hi0 : (0 : Int) ≤ (i : Int) := by omega
      obtain ⟨b', off, cap', hsl, -, hbl, hcell⟩ := HV.out.at hil
      cases hsl
      have HC : Hid _ := hcell wo HB.out.1 i hil
      obtain ⟨m0, m1, m2, m3, m4, m5, m6⟩ := HC.out
      have HQi : Hid (∀ (j : Nat) (hj : j < R.length), (∀ j', j' < j → q j' i = true) → Say w R[j].1 R[j].2 #[.int .i64 (i : Int), nA l[i]] (q j i)) := HQ.out i hil
      clear HC hcell HQ
      generalize l[i] = x at *
      obtain ⟨x0, x1, x2, x3, x4, x5, x6⟩ := x
      simp only at m0 m1 m2 m3 m4 m5 m6
      unfold nA at HQi
      have ha1 : Below wo.heap.size wo (wo.alloc (.cells #[.int .i64 x0, .int .i64 x1, .int .i64 x2, .string (S x3), .string (S x4), .string (S x5), .int .i64 x6] 32)) := (Below.refl _ wo).alloc (Nat.le_refl _) _
      have HB1 : Hid (Below w.heap.size w (wo.alloc (.cells #[.int .i64 x0, .int .i64 x1, .int .i64 x2, .string (S x3), .string (S x4), .string (S x5), .int .i64 x6] 32))) := bel_of HB.out.1 ha1 (Nat.le_refl _)
      have HX : Hid (∀ w2, Below (wo.heap.size + 1) (wo.alloc (.cells #[.int .i64 x0, .int .i64 x1, .int .i64 x2, .string (S x3), .string (S x4), .string (S x5), .int .i64 x6] 32)) w2 → Nc w2 wo.heap.size 0 ⟨x0, x1, x2, x3, x4, x5, x6⟩) := fun w2 hb => (Nc.below (b := wo.heap.size) (o := 0) (x := ⟨x0, x1, x2, x3, x4, x5, x6⟩) ⟨World.cell?_alloc_new _ _ _ _, World.cell?_alloc_new _ _ _ _, World.cell?_alloc_new _ _ _ _, World.cell?_alloc_new _ _ _ _, World.cell?_alloc_new _ _ _ _, World.cell?_alloc_new _ _ _ _, World.cell?_alloc_new _ _ _ _⟩ hb (by omega))
      clear ha1
      go_wp2
      go_loopw [19] (fun v19 wr => ∃ j : Nat, v19 = .int .i64 (j : Int) ∧ j ≤ R.length ∧ Hid (Below (wo.heap.size + 1) (wo.alloc (.cells #[.int .i64 x0, .int .i64 x1, .int .i64 x2, .string (S x3), .string (S x4), .string (S x5), .int .i64 x6] 32)) wr ∧ ∀ j', j' < j → q j' i = true)) (fun v19 _ => R.length - (intOf v19).toNat)
      case atStart => exact ⟨0, rfl, Nat.zero_le _, Below.refl _ _, fun j hj => by omega⟩
      case round =>
        obtain ⟨j, rfl, hj, HJ⟩ := hrel
        by_cases hjl : j < R.length
        · have hjl' : (j : Int) < (R.length : Int) := by omega
          have hj0 : (0 : Int) ≤ (j : Int) := by omega
          have HBq : Hid (Below w.heap.size w wr) := bel_of HB1.out HJ.out.1 (by simp)
          obtain ⟨d0, ek⟩ := HR.out j hjl
          rw [← HBq.out.cell (p := ⟨rb, j, none⟩) hrb] at d0
          have CG := HQi.out j hjl HJ.out.2 wr HBq.out
          obtain ⟨e0, e1, e2, e3, e4, e5, e6⟩ := HX.out wr HJ.out.1
          simp only at e0 e1 e2 e3 e4 e5 e6
          generalize R[j] = r at *
          obtain ⟨kf, caps⟩ := r
          simp only at d0 ek CG
          unfold Ent0 at ek
          cases hx : q j i with
          | false =>
            rw [hx] at CG
            have HE : Hid (fwr q R.length l.length = some i) := fwr_some hil (by rw [← Bool.not_eq_true]; intro h; rw [allQ_iff.1 h j hjl] at hx; cases hx) HB.out.2
            clear hx HQi HR HX HJ HV HB
            go_wp2
            refine CG.mono ?_
            rintro e w1 ⟨rfl, b1⟩
            have B1 : Hid (Below w.heap.size w w1) := bel_of HBq.out b1 (Nat.le_refl _)
            clear b1 CG
            go_wp2
            go_ret2
            rw [HE.out]
            exact ⟨rfl, B1.out⟩
          | true =>
            rw [hx] at CG
            have HJ' : Hid (∀ j', j' < j + 1 → q j' i = true) := fun j' hj' => by
              by_cases e : j' = j
              · subst e; exact hx
              · exact HJ.out.2 j' (by omega)
            have HB2 : Hid (Below (wo.heap.size + 1) (wo.alloc (.cells #[.int .i64 x0, .int .i64 x1, .int .i64 x2, .string (S x3), .string (S x4), .string (S x5), .int .i64 x6] 32)) wr) := HJ.out.1
            clear hx HQi HR HX HJ HV HB
            go_wp2
            refine CG.mono ?_
            rintro e w1 ⟨rfl, b1⟩
            have B1 : Hid (Below (wo.heap.size + 1) (wo.alloc (.cells #[.int .i64 x0, .int .i64 x1, .int .i64 x2, .string (S x3), .string (S x4), .string (S x5), .int .i64 x6] 32)) w1) := HB2.out.trans (b1.mono (by have := HB2.out.size; simp at this; omega))
            clear b1 CG
            go_wp2
            go_roundw
            case rel => exact ⟨j + 1, by simp, by omega, B1.out, HJ'.out⟩
            case measure => simp [intOf]; omega
        · have hjl' : ¬ (j : Int) < (R.length : Int) := by omega
          have HN : Hid (∀ i', i' < i + 1 → allQ q R.length i' = true) := fun i' hi' => by
            by_cases e : i' = i
            · subst e; exact allQ_iff.2 fun j' hj' => HJ.out.2 j' (by omega)
            · exact HB.out.2 i' (by omega)
          have B2 : Hid (Below w.heap.size w wr) := bel_of HB1.out HJ.out.1 (by simp)
          clear HQi HR HX HJ HV HB HB1
          go_wp2
          go_roundw
          case rel => exact ⟨i + 1, by simp, by omega, B2.out, HN.out⟩
          case measure => simp [intOf]; omega
    · have hil' : ¬ (i : Int) < (l.length : Int) := by omega
      have HE : Hid (fwr q R.length l.length = none) := fwr_none fun j hj => HB.out.2 j (by omega)
      have B2 : Hid (Below w.heap.size w wo) := HB.out.1
      clear HQ HR HV HB
      go_wp2
      go_ret2
      rw [HE.out]
      exact ⟨rfl, B2.out⟩

set_option maxHeartbeats 2000000 in
set_option maxRecDepth 100000 in
theorem placesRowFlow {w : World} {v : Value} {l : List Fl} {kf : Nat} {caps : Array Value} (q : Fl → Bool) (hv : Fs w v l) (hn : l.length ≤ 4398046511104) (ek : Ent0 kf) (hq : ∀ x ∈ l, Say w kf caps #[fA x] (q x)) :
    Calls Tryz.prog 82 #[v, .func (.func kf) #[] caps] w fun e w' => ∃ a c, e = .returned (.slice a (plc q l).length c) ∧ w'.ownsRow w.heap.size 3 1 (.slice a (plc q l).length c) (plc q l).length (iv (plc q l)) ∧ Below w.heap.size w w' := by
  obtain ⟨i0, hi0, hz0, hz1, hz2⟩ := info_parts infoI
  have HV : Hid (Fs w v l) := hv
  have HQ : Hid (∀ x ∈ l, Say w kf caps #[fA x] (q x)) := hq
  obtain ⟨a, cap, rfl, -⟩ := hv
  unfold Ent0 at ek
  clear hq
  go_enter Tryz.func82, Tryz.ntmps82
  go_wp2
  go_loopw [10, 5] (fun v10 v5 wr => ∃ (j : Nat) (f : List Int) (fa : Option Addr) (fc : Nat), v10 = .int .i64 (j : Int) ∧ v5 = .slice fa f.length fc ∧ j ≤ l.length ∧ f.length ≤ j ∧ Hid (wr.ownsRow w.heap.size 3 1 (.slice fa f.length fc) f.length (iv f)) ∧ Hid (Below w.heap.size w wr) ∧ Hid (f = plc q (l.take j))) (fun v10 _ _ => l.length - (intOf v10).toNat)
  case atStart => exact ⟨0, [], none, 0, rfl, rfl, Nat.zero_le _, Nat.zero_le _, ⟨rfl, .inl ⟨rfl, rfl⟩⟩, Below.refl _ _, rfl⟩
  case round =>
    obtain ⟨j, f, fa, fc, rfl, rfl, hj, hf, HF, HB, HP⟩ := hrel
    by_cases hjl : j < l.length
    · have hjl' : (j : Int) < (l.length : Int) := by omega
      have hj0 : (0 : Int) ≤ (j : Int) := by omega
      obtain ⟨b', off, cap', hsl, -, hbl, hcell⟩ := HV.out.at hjl
      cases hsl
      have HC : Hid _ := hcell wr HB.out j hjl
      obtain ⟨m0, m1, m2⟩ := HC.out
      have HS : Hid (Say w kf caps #[fA l[j]] (q l[j])) := HQ.out l[j] (List.getElem_mem hjl)
      have HN : Hid (plc q (l.take (j + 1)) = f ++ (if q l[j] then [(j : Int)] else [])) := by show _ = _; rw [HP.out]; exact plc_next q hjl
      clear HC hcell HP HQ HV
      generalize l[j] = x at *
      obtain ⟨x0, x1, x2⟩ := x
      simp only at m0 m1 m2
      have ha1 : Below wr.heap.size wr (wr.alloc (.cells #[.int .i64 x0, .int .i64 x1, .string (S x2)] 37)) := (Below.refl _ wr).alloc (Nat.le_refl _) _
      have hB1 : Below w.heap.size w (wr.alloc (.cells #[.int .i64 x0, .int .i64 x1, .string (S x2)] 37)) := bel_of HB.out ha1 (Nat.le_refl _)
      have CG := HS.out _ hB1
      unfold fA at CG
      have HY0 : Hid (∀ w2, Below (wr.alloc (.cells #[.int .i64 x0, .int .i64 x1, .string (S x2)] 37)).heap.size (wr.alloc (.cells #[.int .i64 x0, .int .i64 x1, .string (S x2)] 37)) w2 → Below w.heap.size w w2 ∧ w2.ownsRow w.heap.size 3 1 (.slice fa f.length fc) f.length (iv f)) := fun w2 hb => ⟨bel_of hB1 hb (Nat.le_refl _), (Ch.of_below (X := fun _ => False) (ha1.trans (hb.mono ha1.size))).row HF.out (fun _ _ e => e)⟩
      clear HS ha1 hB1
      cases hx : q ⟨x0, x1, x2⟩ with
      | false =>
        rw [hx] at CG HN
        clear hx
        go_wp2
        refine CG.mono ?_
        rintro e w1 ⟨rfl, b1⟩
        have HY : Hid _ := HY0.out w1 b1
        clear b1 CG HY0
        go_wp2
        go_roundw
        case rel => exact ⟨j + 1, f, fa, fc, by simp, rfl, by omega, by omega, HY.out.2, HY.out.1, by show _ = _; rw [HN.out]; simp⟩
        case measure => simp [intOf]; omega
      | true =>
        rw [hx] at CG HN
        clear hx
        go_wp2
        refine CG.mono ?_
        rintro e w2 ⟨rfl, b1⟩
        have HY : Hid _ := HY0.out w2 b1
        clear b1 CG HY0
        go_wp2_with (at_builtin; refine wpList_append_own _ rfl _ _ 46 rfl w.heap.size 3 i0 _ 1 8 Tryz.underlying46 hi0 hz0 hz1 hz2 rfl (by decide) _ f.length (iv f) rfl (HY.out.2.alloc _) ⟨w2.heap.size, 0, none⟩ 1 1 [.int .i64 (j : Int)] rfl rfl (new_one _ _ rfl _ _) (by simp [Value.oneCell']) (by unfold maxLen; omega) (by omega) (by have := HY.out.1.size; simp; omega) ?_; intro v5 w5 ho5 hg5 _; have HO5 : Hid _ := ho5; have HG5 : Hid _ := hg5; obtain ⟨a5, c5', rfl, -⟩ := row_slice ho5; clear ho5 hg5)
        go_roundw
        case rel =>
          have hlen : (f ++ [(j : Int)]).length = f.length + 1 := by rw [List.length_append, List.length_singleton]
          refine ⟨j + 1, f ++ [(j : Int)], a5, c5', by simp, by rw [hlen], by omega, by rw [hlen]; omega, ?_, shd_below HY.out.1 HY.out.2 HG5.out, by show _ = _; rw [HN.out]; simp⟩
          show World.ownsRow _ _ _ _ _ _ _
          rw [hlen, ← iv_snoc]
          exact HO5.out
        case measure => simp [intOf]; omega
    · have hjl' : ¬ (j : Int) < (l.length : Int) := by omega
      obtain rfl : j = l.length := by omega
      have HE : Hid (plc q l = f) := by show _ = _; rw [HP.out, List.take_length]
      clear HQ HV HP
      go_wp2
      go_ret
      rw [HE.out]
      exact ⟨_, _, rfl, HF.out, HB.out⟩
theorem placesFlow {w : World} {v : Value} {l : List Fl} {kf : Nat} {caps : Array Value} (q : Fl → Bool) (hv : Fs w v l) (hn : l.length ≤ 4398046511104) (ek : Ent0 kf) (hq : ∀ x ∈ l, Say w kf caps #[fA x] (q x)) :
    Calls Tryz.prog 82 #[v, .func (.func kf) #[] caps] w fun e w' => ∃ a c, e = .returned (.slice a (plc q l).length c) ∧ Is w' (.slice a (plc q l).length c) (plc q l) ∧ Below w.heap.size w w' :=
  (placesRowFlow q hv hn ek hq).mono fun _ _ ⟨a, c, h1, h2, h3⟩ => ⟨a, c, h1, row_is h2, h3⟩

set_option maxHeartbeats 4000000 in
set_option maxRecDepth 100000 in
theorem firstWrongFlow {w : World} {v : Value} {l : List Fl} (R : List (Nat × Array Value)) (q : Nat → Nat → Bool) (hv : Fs w v l) (hn : l.length ≤ 4398046511104) (hm : R.length ≤ 100) {rb : Nat} (hrb : rb < w.heap.size) (hR : ∀ (j : Nat) (h : j < R.length), w.cell? ⟨rb, j, none⟩ = some (.func (.func R[j].1) #[] R[j].2) ∧ Ent0 R[j].1)
    (hq : ∀ (i : Nat) (hi : i < l.length) (j : Nat) (hj : j < R.length), (∀ j', j' < j → q j' i = true) → Say w R[j].1 R[j].2 #[.int .i64 (i : Int), fA l[i]] (q j i)) :
    Calls Tryz.prog 38 #[v, .slice (some ⟨rb, 0, none⟩) R.length R.length] w fun e w' => e = .returned (.tuple #[.int .i64 (((fwr q R.length l.length).map fun (i : Nat) => (i : Int)).getD 0), .bool (fwr q R.length l.length).isSome]) ∧ Below w.heap.size w w' := by
  have HV : Hid (Fs w v l) := hv
  have HQ : Hid (∀ (i : Nat) (hi : i < l.length) (j : Nat) (hj : j < R.length), (∀ j', j' < j → q j' i = true) → Say w R[j].1 R[j].2 #[.int .i64 (i : Int), fA l[i]] (q j i)) := hq
  have HR : Hid (∀ (j : Nat) (h : j < R.length), w.cell? ⟨rb, j, none⟩ = some (.func (.func R[j].1) #[] R[j].2) ∧ Ent0 R[j].1) := hR
  obtain ⟨a, cap, rfl, -⟩ := hv
  clear hq hR
  go_enter Tryz.func38, Tryz.ntmps38
  go_wp2
  go_loopw [12] (fun v12 wr => ∃ i : Nat, v12 = .int .i64 (i : Int) ∧ i ≤ l.length ∧ Hid (Below w.heap.size w wr ∧ ∀ i', i' < i → allQ q R.length i' = true)) (fun v12 _ => l.length - (intOf v12).toNat)
  case atStart => exact ⟨0, rfl, Nat.zero_le _, Below.refl _ _, fun i hi => by omega⟩
  case round =>
    obtain ⟨i, rfl, hi, HB⟩ := hrel
    obtain ⟨wo, hwo⟩ : ∃ wo : World, wo = wr := ⟨_, rfl⟩
    subst hwo
    by_cases hil : i < l.length
    · have hil' : (i : Int) < (l.length : Int) := by omega
      have hi0 : (0 : Int) ≤ (i : Int) := by omega
      obtain ⟨b', off, cap', hsl, -, hbl, hcell⟩ := HV.out.at hil
      cases hsl
      have HC : Hid _ := hcell wo HB.out.1 i hil
      obtain ⟨m0, m1, m2⟩ := HC.out
      have HQi : Hid (∀ (j : Nat) (hj : j < R.length), (∀ j', j' < j → q j' i = true) → Say w R[j].1 R[j].2 #[.int .i64 (i : Int), fA l[i]] (q j i)) := HQ.out i hil
      clear HC hcell HQ
      generalize l[i] = x at *
      obtain ⟨x0, x1, x2⟩ := x
      simp only at m0 m1 m2
      unfold fA at HQi
      have ha1 : Below wo.heap.size wo (wo.alloc (.cells #[.int .i64 x0, .int .i64 x1, .string (S x2)] 37)) := (Below.refl _ wo).alloc (Nat.le_refl _) _
      have HB1 : Hid (Below w.heap.size w (wo.alloc (.cells #[.int .i64 x0, .int .i64 x1, .string (S x2)] 37))) := bel_of HB.out.1 ha1 (Nat.le_refl _)
      have HX : Hid (∀ w2, Below (wo.heap.size + 1) (wo.alloc (.cells #[.int .i64 x0, .int .i64 x1, .string (S x2)] 37)) w2 → Fc w2 wo.heap.size 0 ⟨x0, x1, x2⟩) := fun w2 hb => (Fc.below (b := wo.heap.size) (o := 0) (x := ⟨x0, x1, x2⟩) ⟨World.cell?_alloc_new _ _ _ _, World.cell?_alloc_new _ _ _ _, World.cell?_alloc_new _ _ _ _⟩ hb (by omega))
      clear ha1
      go_wp2
      go_loopw [19] (fun v19 wr => ∃ j : Nat, v19 = .int .i64 (j : Int) ∧ j ≤ R.length ∧ Hid (Below (wo.heap.size + 1) (wo.alloc (.cells #[.int .i64 x0, .int .i64 x1, .string (S x2)] 37)) wr ∧ ∀ j', j' < j → q j' i = true)) (fun v19 _ => R.length - (intOf v19).toNat)
      case atStart => exact ⟨0, rfl, Nat.zero_le _, Below.refl _ _, fun j hj => by omega⟩
      case round =>
        obtain ⟨j, rfl, hj, HJ⟩ := hrel
        by_cases hjl : j < R.length
        · have hjl' : (j : Int) < (R.length : Int) := by omega
          have hj0 : (0 : Int) ≤ (j : Int) := by omega
          have HBq : Hid (Below w.heap.size w wr) := bel_of HB1.out HJ.out.1 (by simp)
          obtain ⟨d0, ek⟩ := HR.out j hjl
          rw [← HBq.out.cell (p := ⟨rb, j, none⟩) hrb] at d0
          have CG := HQi.out j hjl HJ.out.2 wr HBq.out
          obtain ⟨e0, e1, e2⟩ := HX.out wr HJ.out.1
          simp only at e0 e1 e2
          generalize R[j] = r at *
          obtain ⟨kf, caps⟩ := r
          simp only at d0 ek CG
          unfold Ent0 at ek
          cases hx : q j i with
          | false =>
            rw [hx] at CG
            have HE : Hid (fwr q R.length l.length = some i) := fwr_some hil (by rw [← Bool.not_eq_true]; intro h; rw [allQ_iff.1 h j hjl] at hx; cases hx) HB.out.2
            clear hx HQi HR HX HJ HV HB
            go_wp2
            refine CG.mono ?_
            rintro e w1 ⟨rfl, b1⟩
            have B1 : Hid (Below w.heap.size w w1) := bel_of HBq.out b1 (Nat.le_refl _)
            clear b1 CG
            go_wp2
            go_ret2
            rw [HE.out]
            exact ⟨rfl, B1.out⟩
          | true =>
            rw [hx] at CG
            have HJ' : Hid (∀ j', j' < j + 1 → q j' i = true) := fun j' hj' => by
              by_cases e : j' = j
              · subst e; exact hx
              · exact HJ.out.2 j' (by omega)
            have HB2 : Hid (Below (wo.heap.size + 1) (wo.alloc (.cells #[.int .i64 x0, .int .i64 x1, .string (S x2)] 37)) wr) := HJ.out.1
            clear hx HQi HR HX HJ HV HB
            go_wp2
            refine CG.mono ?_
            rintro e w1 ⟨rfl, b1⟩
            have B1 : Hid (Below (wo.heap.size + 1) (wo.alloc (.cells #[.int .i64 x0, .int .i64 x1, .string (S x2)] 37)) w1) := HB2.out.trans (b1.mono (by have := HB2.out.size; simp at this; omega))
            clear b1 CG
            go_wp2
            go_roundw
            case rel => exact ⟨j + 1, by simp, by omega, B1.out, HJ'.out⟩
            case measure => simp [intOf]; omega
        · have hjl' : ¬ (j : Int) < (R.length : Int) := by omega
          have HN : Hid (∀ i', i' < i + 1 → allQ q R.length i' = true) := fun i' hi' => by
            by_cases e : i' = i
            · subst e; exact allQ_iff.2 fun j' hj' => HJ.out.2 j' (by omega)
            · exact HB.out.2 i' (by omega)
          have B2 : Hid (Below w.heap.size w wr) := bel_of HB1.out HJ.out.1 (by simp)
          clear HQi HR HX HJ HV HB HB1
          go_wp2
          go_roundw
          case rel => exact ⟨i + 1, by simp, by omega, B2.out, HN.out⟩
          case measure => simp [intOf]; omega
    · have hil' : ¬ (i : Int) < (l.length : Int) := by omega
      have HE : Hid (fwr q R.length l.length = none) := fwr_none fun j hj => HB.out.2 j (by omega)
      have B2 : Hid (Below w.heap.size w wo) := HB.out.1
      clear HQ HR HV HB
      go_wp2
      go_ret2
      rw [HE.out]
      exact ⟨rfl, B2.out⟩
end Go.Proofs.YtlmdoiagjepmbaaGreatDoor.m11

/-
  Package expr: do the parts stand as those of a text.
-/
import Derived.Test.YtpbfdaijnndilaaGreatDoorGExprH
namespace Go.Proofs.YtpbfdaijnndilaaGreatDoor.x10
open Go.RowKit Go.Shelf Go.Sort
open Go.Lib hiding intOf

/-- the places of the parts that none is of, behind these parts -/
def shpS : List P10 → Nat → List Int → Option (List Int)
  | [], _, f => some f
  | p :: t, i, f =>
    if hnd p.1 < 0 ∨ (f.length : Int) < hnd p.1 ∨ hol p = false then none
    else if isO p (f.drop (f.length - (hnd p.1).toNat)) = false then none
    else shpS t (i + 1) (f.take (f.length - (hnd p.1).toNat) ++ [(i : Int)])
def shpF (r : Option (List Int)) : Bool := match r with
  | some f => decide (f.length = 1)
  | none => false
def shp (l : List P10) : Bool := decide (l.length ≤ 100) && shpF (shpS l 0 [])
theorem infoInt : (Tryz.prog.info? 3).map (fun i => (i.zero, i.size, i.bytes)) = some (some (.int .i64 0), 1, 8) := by kernel_rfl
def iv (f : List Int) : List Value := f.map (fun x => Value.int .i64 x)
/-- a row of numbers is a slice of them, from a place on -/
theorem is_tail {w : World} {B g cap : Nat} {f : List Int} (h : w.ownsRow B 3 1 (.slice (some ⟨g, 0, none⟩) f.length cap) f.length (iv f)) (k c : Nat) {m : Nat} (hm : m = f.length - k) : Is w (.slice (some ⟨g, k, none⟩) m c) (f.drop k) := by
  obtain ⟨h1, h2⟩ := h
  subst hm
  refine ⟨_, c, by rw [List.length_drop], .inr ⟨g, k, rfl, ?_⟩⟩
  rcases h2 with ⟨h3, -⟩ | ⟨g', cap', cur, h3, h4, h5, h6, h7, h8, h9⟩
  · cases h3
  · cases h3
    refine ⟨(Array.getElem?_eq_some_iff.1 h5).1, fun j hj => ?_⟩
    rw [List.length_drop] at hj
    have h10 : (iv f)[k + j]? = some (.int .i64 (f.drop k)[j]) := by simp [iv]
    rw [← h9, List.getElem?_take] at h10
    split at h10
    · rw [Array.getElem?_toList] at h10
      simpa [World.cell?, h5] using h10
    · cases h10
/-- its beginning is a row too -/
theorem row_head {w : World} {B g cap : Nat} {f : List Int} (h : w.ownsRow B 3 1 (.slice (some ⟨g, 0, none⟩) f.length cap) f.length (iv f)) (k : Nat) (hk : k ≤ f.length) : w.ownsRow B 3 1 (.slice (some ⟨g, 0, none⟩) k cap) k (iv (f.take k)) := by
  obtain ⟨h1, h2⟩ := h
  rcases h2 with ⟨h3, -⟩ | ⟨g', cap', cur, h3, h4, h5, h6, h7, h8, h9⟩
  · cases h3
  · cases h3
    refine ⟨by simp [iv]; omega, .inr ⟨g, cap, cur, rfl, h4, h5, by omega, h7, h8, ?_⟩⟩
    have : (iv f).take k = iv (f.take k) := by simp [iv, List.map_take]
    rw [← this, ← h9, List.take_take]
    congr 1
    omega
theorem shpS_cons (p : P10) (t : List P10) (i : Nat) (f : List Int) : shpS (p :: t) i f = if hnd p.1 < 0 ∨ (f.length : Int) < hnd p.1 ∨ hol p = false then none else if isO p (f.drop (f.length - (hnd p.1).toNat)) = false then none else shpS t (i + 1) (f.take (f.length - (hnd p.1).toNat) ++ [(i : Int)]) := rfl
theorem shd_below {w w2 w5 : World} {rv : Value} {k : Nat} {xs : List Value} {o : Obj} (hb : Below w.heap.size w w2) (hr : w2.ownsRow w.heap.size 3 1 rv k xs) (hg : (w2.alloc o).grownBy w5 rv.ownBlock) : Below w.heap.size w w5 :=
  (hb.alloc hb.size _).grown hg (by have := hb.size; simp; omega) (fun k hk => (hr.lt k hk).1)
theorem is_nil (w : World) : Is w (.slice none 0 0) [] := ⟨none, 0, rfl, .inl rfl⟩
theorem iv_snoc (f : List Int) (x : Int) : iv f ++ [.int .i64 x] = iv (f ++ [x]) := by simp [iv]
theorem hnd_le (o : Int) : -1 ≤ hnd o ∧ hnd o ≤ 2 := by
  unfold hnd
  split
  · omega
  · split
    · omega
    · split <;> omega
end Go.Proofs.YtpbfdaijnndilaaGreatDoor.x10
namespace Go.Proofs.YtpbfdaijnndilaaGreatDoor.x10
open Go.RowKit Go.Shelf Go.Sort
open Go.Lib hiding intOf

set_option maxHeartbeats 2000000 in
set_option maxRecDepth 100000 in
theorem shaped_any {w : World} {v : Value} {l : List P10} (hE : Es w v l) (hsz : ∀ p ∈ l, p.2.2.2.2.2.length ≤ 4611686018427387904) (hn : l.length ≤ 4611686018427387904) : Calls Tryz.prog 30 #[v] w fun e w' => e = .returned (.bool (shp l)) ∧ Below w.heap.size w w' := by
  obtain ⟨i0, hi0, hz0, hz1, hz2⟩ := info_parts infoInt
  have HE : Hid (Es w v l) := hE
  obtain ⟨va, vcap, hv, -, -⟩ := hE
  by_cases h100 : 100 < l.length
  · have HR : Hid (shp l = false) := by
      show _ = _
      unfold shp
      rw [decide_eq_false (by omega), Bool.false_and]
    subst hv
    have hgt : (100 : Int) < (l.length : Int) := by omega
    clear hsz h100
    go_enter Tryz.func30, Tryz.ntmps30
    go_wp2
    go_ret
    rw [HR.out]
    exact ⟨rfl, Below.refl _ _⟩
  have hle : ¬ (100 : Int) < (l.length : Int) := by omega
  obtain ⟨R, hR⟩ : ∃ R, shpF (shpS l 0 []) = R := ⟨_, rfl⟩
  have HR : Hid (shp l = R) := by
    show _ = _
    unfold shp
    rw [decide_eq_true (by omega), Bool.true_and, hR]
  have HSZ : Hid (∀ p ∈ l, p.2.2.2.2.2.length ≤ 4611686018427387904) := hsz
  rw [HR.out]
  subst hv
  clear HR hsz
  go_enter Tryz.func30, Tryz.ntmps30
  go_wp2
  go_loopw [14, 3] (fun v14 v3 wr => ∃ (i : Nat) (f : List Int) (fa : Option Addr) (fc : Nat), v14 = .int .i64 (i : Int) ∧ v3 = .slice fa f.length fc ∧ i ≤ l.length ∧ f.length ≤ i ∧ Hid (wr.ownsRow w.heap.size 3 1 (.slice fa f.length fc) f.length (iv f)) ∧ Hid (Below w.heap.size w wr) ∧ Hid (shpF (shpS (l.drop i) i f) = R)) (fun v14 _ _ => l.length - (intOf v14).toNat)
  case atStart => exact ⟨0, [], none, 0, rfl, rfl, Nat.zero_le _, Nat.le_refl _, ⟨rfl, .inl ⟨rfl, rfl⟩⟩, Below.refl _ _, hR⟩
  case round =>
    obtain ⟨i, f, fa, fc, rfl, rfl, hi, hfi, HF, HB, HS⟩ := hrel
    clear hR
    by_cases hlt : i < l.length
    · obtain ⟨p, hp⟩ : ∃ p, l[i] = p := ⟨_, rfl⟩
      have hdr : l.drop i = p :: l.drop (i + 1) := by rw [← hp]; exact List.drop_eq_getElem_cons hlt
      have HS1 : Hid (shpF (shpS (p :: l.drop (i + 1)) i f) = R) := by show _ = _; rw [← hdr]; exact HS.out
      obtain ⟨bl, off, cap, hv, hbl, hc⟩ := HE.out.at hlt
      obtain ⟨c0, c1, c2, c3, c4, c5⟩ := hc i hlt
      have hw' : ∀ o, wr.cell? ⟨bl, o, none⟩ = w.cell? ⟨bl, o, none⟩ := fun o => HB.out.cell (p := ⟨bl, o, none⟩) hbl
      rw [← hw', hp] at c0 c1 c2 c3 c4 c5
      cases hv
      have hblw : bl < wr.heap.size := Nat.lt_of_lt_of_le hbl HB.out.size
      have hpz := HSZ.out p (by rw [← hp]; exact List.getElem_mem hlt)
      clear hc hw' HS hdr hp
      have CH := hands_any p.1
      have CO := fun w => holds_any p hpz w
      have i1 : (0 : Int) ≤ (i : Int) := by omega
      have i2 : (i : Int) < (l.length : Int) := by omega
      have hin : IntKind.i64.wrap ((i : Int) + 1) = ((i + 1 : Nat) : Int) := by rw [IntKind.wrap_i64]; omega
      obtain ⟨p1, p2, p3, p4, p5, p6⟩ := p
      unfold pA at CO
      simp only at c0 c1 c2 c3 c4 c5 CH CO hpz
      rw [shpS_cons] at HS1
      simp only at HS1
      have hhb := hnd_le p1
      generalize hnd p1 = h at *
      by_cases hneg : h < 0
      · have HE1 : Hid (R = false) := by
          show _ = _
          rw [← HS1.out, if_pos (Or.inl hneg)]; rfl
        clear HS1 CO
        go_wp2_with (first
          | (go_at_call 59; refine (CH _).mono ?_; rintro e w1 ⟨rfl, hw1⟩; rw [hw1]; clear hw1 CH))
        go_ret
        rw [HE1.out]
        exact ⟨rfl, HB.out.alloc HB.out.size _⟩
      by_cases hbig : (f.length : Int) < h
      · have HE1 : Hid (R = false) := by
          show _ = _
          rw [← HS1.out, if_pos (Or.inr (Or.inl hbig))]; rfl
        clear HS1 CO
        go_wp2_with (first
          | (go_at_call 59; refine (CH _).mono ?_; rintro e w1 ⟨rfl, hw1⟩; rw [hw1]; clear hw1 CH))
        go_ret
        rw [HE1.out]
        exact ⟨rfl, HB.out.alloc HB.out.size _⟩
      have HWX : Hid (∀ w1, Below (wr.heap.size + 1) (wr.alloc (.cells #[.int .i64 p1, .int .i64 p2, .int .i64 p3, .int .i64 p4, .int .i64 p5, .string (S p6)] 68)) w1 → (w1.cell? ⟨wr.heap.size, 0, none⟩ = some (.int .i64 p1) ∧ w1.cell? ⟨wr.heap.size, 1, none⟩ = some (.int .i64 p2) ∧ w1.cell? ⟨wr.heap.size, 2, none⟩ = some (.int .i64 p3) ∧ w1.cell? ⟨wr.heap.size, 3, none⟩ = some (.int .i64 p4) ∧ w1.cell? ⟨wr.heap.size, 4, none⟩ = some (.int .i64 p5) ∧ w1.cell? ⟨wr.heap.size, 5, none⟩ = some (.string (S p6))) ∧ wr.heap.size < w1.heap.size ∧ Hid (Below w.heap.size w w1 ∧ w1.ownsRow w.heap.size 3 1 (.slice fa f.length fc) f.length (iv f))) := fun w1 hb => by
        have ha := (Below.refl wr.heap.size wr).alloc (Nat.le_refl _) (.cells #[.int .i64 p1, .int .i64 p2, .int .i64 p3, .int .i64 p4, .int .i64 p5, .string (S p6)] 68)
        have hb2 : Below wr.heap.size wr w1 := ha.trans (hb.mono (Nat.le_succ _))
        have hcx := fun k => (hb.cell (p := ⟨wr.heap.size, k, none⟩) (Nat.lt_succ_self _)).trans (World.cell?_alloc_new wr #[.int .i64 p1, .int .i64 p2, .int .i64 p3, .int .i64 p4, .int .i64 p5, .string (S p6)] 68 k)
        refine ⟨⟨hcx 0, hcx 1, hcx 2, hcx 3, hcx 4, hcx 5⟩, ?_, HB.out.trans (hb2.mono HB.out.size), (Ch.of_below (X := fun _ => False) hb2).row HF.out (fun _ _ e => e)⟩
        have := hb.size
        rw [World.size_alloc] at this
        omega
      cases hho : hol (p1, p2, p3, p4, p5, p6) with
      | false =>
        have HE1 : Hid (R = false) := by
          show _ = _
          rw [← HS1.out, if_pos (Or.inr (Or.inr hho))]; rfl
        clear HS1
        rw [hho] at CO
        clear hho
        go_wp2_with (first
          | (go_at_call 59; refine (CH _).mono ?_; rintro e w1 ⟨rfl, hw1⟩; rw [hw1]; clear hw1 CH)
          | (go_at_call 60; refine (CO _).mono ?_; rintro e w1 ⟨rfl, hb1⟩; rw [World.size_alloc] at hb1; obtain ⟨⟨d0, d1, d2, d3, d4, d5⟩, hl1, HX⟩ := HWX.out w1 hb1; clear hb1 CO))
        go_ret
        rw [HE1.out]
        exact ⟨rfl, HX.out.1⟩
      | true =>
        rw [hho] at CO
        have hcond : ¬ (h < 0 ∨ (f.length : Int) < h ∨ hol (p1, p2, p3, p4, p5, p6) = false) := fun e => by
          rcases e with e | e | e
          · exact hneg e
          · exact hbig e
          · rw [hho] at e; cases e
        rw [if_neg hcond] at HS1
        clear hcond hho
        obtain ⟨k, hk⟩ : ∃ k, f.length - h.toNat = k := ⟨_, rfl⟩
        rw [hk] at HS1
        have hkw : IntKind.i64.wrap ((f.length : Int) - h) = (k : Int) := by rw [IntKind.wrap_i64]; omega
        have k1 : (0 : Int) ≤ (k : Int) := by omega
        have k2 : (k : Int) ≤ (f.length : Int) := by omega
        have hkf : k ≤ f.length := by omega
        obtain ⟨-, hF⟩ := HF.out
        rcases hF with ⟨hF, hF0⟩ | ⟨g, cp, cur, hF, hg1, hg2, hg3, hg4, hg5, hg6⟩
        · have hf0 : f = [] := List.length_eq_zero_iff.1 hF0
          have hk0 : k = 0 := by omega
          subst hf0
          subst hk0
          cases hF
          have nil0 : ∀ w1 : World, w1.ownsRow w.heap.size 3 1 (.slice none 0 0) 0 (iv (([] : List Int).take 0)) := fun w1 => ⟨rfl, .inl ⟨rfl, rfl⟩⟩
          have hh0 : h = 0 := by simp only [List.length_nil] at hbig; omega
          subst hh0
          simp only [List.length_nil] at *
          have HIS : Hid (∀ (w1 : World) (n : Nat), (Below w.heap.size w w1 ∧ w1.ownsRow w.heap.size 3 1 (.slice none 0 0) 0 (iv [])) → Calls Tryz.prog 61 #[.agg #[.int .i64 p1, .int .i64 p2, .int .i64 p3, .int .i64 p4, .int .i64 p5, .string (S p6)], .slice none 0 0] (w1.drewN n) fun e w' => e = .returned (.bool (isO (p1, p2, p3, p4, p5, p6) (([] : List Int).drop 0))) ∧ Below w1.heap.size w1 w') := fun w1 n h1 => by
            refine (isOf_any (p1, p2, p3, p4, p5, p6) (w1.drewN n) (l := ([] : List Int).drop 0) ?_ (by simp)).mono ?_
            · exact is_nil _
            · rintro e w' ⟨rfl, hb⟩
              exact ⟨rfl, (below_drewN (Below.refl _ w1) n).trans hb⟩
          have HNX : Hid (∀ w1 w2 : World, (Below w.heap.size w w1 ∧ w1.ownsRow w.heap.size 3 1 (.slice none 0 0) 0 (iv [])) → Below w1.heap.size w1 w2 → Below w.heap.size w w2 ∧ w2.ownsRow w.heap.size 3 1 (.slice none 0 0) 0 (iv (([] : List Int).take 0))) := fun w1 w2 h1 hb => ⟨h1.1.trans (hb.mono h1.1.size), (Ch.of_below (X := fun _ => False) hb).row (nil0 w1) (fun _ _ e => e)⟩
          cases hio : isO (p1, p2, p3, p4, p5, p6) (([] : List Int).drop 0) with
          | false =>
            rw [if_pos hio] at HS1
            have HE1 : Hid (R = false) := HS1.out.symm
            rw [hio] at HIS
            clear HS1 hio
            go_wp2_with (first
              | (go_at_call 59; refine (CH _).mono ?_; rintro e w1 ⟨rfl, hw1⟩; rw [hw1]; clear hw1 CH)
              | (go_at_call 60; refine (CO _).mono ?_; rintro e w1 ⟨rfl, hb1⟩; rw [World.size_alloc] at hb1; obtain ⟨⟨d0, d1, d2, d3, d4, d5⟩, hl1, HX⟩ := HWX.out w1 hb1; clear hb1 CO))
            go_quiet (fail)
            go_wp2_with (go_at_call 61; refine (HIS.out w1 _ HX.out).mono ?_; rintro e w2 ⟨rfl, hb2⟩; have HY := (HNX.out w1 w2 HX.out hb2).1; clear hb2)
            go_ret
            rw [HE1.out]
            exact ⟨rfl, HY⟩
          | true =>
            rw [if_neg (by rw [hio]; simp)] at HS1
            rw [hio] at HIS
            clear hio
            go_wp2_with (first
              | (go_at_call 59; refine (CH _).mono ?_; rintro e w1 ⟨rfl, hw1⟩; rw [hw1]; clear hw1 CH)
              | (go_at_call 60; refine (CO _).mono ?_; rintro e w1 ⟨rfl, hb1⟩; rw [World.size_alloc] at hb1; obtain ⟨⟨d0, d1, d2, d3, d4, d5⟩, hl1, HX⟩ := HWX.out w1 hb1; clear hb1 CO))
            go_quiet (fail)
            go_wp2_with (first
              | (go_at_call 61; refine (HIS.out w1 _ HX.out).mono ?_; rintro e w2 ⟨rfl, hb2⟩; have HY : Hid _ := HNX.out w1 w2 HX.out hb2; clear hb2)
              | (at_builtin; refine wpList_append_own _ rfl _ _ 83 rfl w.heap.size 3 i0 _ 1 8 Tryz.underlying83 hi0 hz0 hz1 hz2 rfl (by decide) _ 0 (iv (([] : List Int).take 0)) rfl (HY.out.2.alloc _) ⟨w2.heap.size, 0, none⟩ 1 1 [.int .i64 (i : Int)] rfl rfl (new_one _ _ rfl _ _) (by simp [Value.oneCell']) (by unfold maxLen; omega) (by omega) (by have := HY.out.1.size; simp; omega) ?_; intro v5 w5 ho5 hg5 _; have HO5 : Hid _ := ho5; have HG5 : Hid _ := hg5; obtain ⟨a5, c5', rfl, -⟩ := row_slice ho5; clear ho5 hg5))
            go_roundw
            case rel =>
              have hlen : (([] : List Int).take 0 ++ [(i : Int)]).length = 0 + 1 := rfl
              refine ⟨i + 1, ([] : List Int).take 0 ++ [(i : Int)], a5, c5', by simp, by rw [hlen], by omega, by rw [hlen]; omega, ?_, shd_below HY.out.1 HY.out.2 HG5.out, HS1⟩
              show World.ownsRow _ _ _ _ _ _ _
              rw [hlen, ← iv_snoc]
              exact HO5.out
            case measure => simp [intOf]; omega
        · cases hF
          have k3 : (f.length : Int) ≤ (fc : Int) := by omega
          have k4 : (k : Int) ≤ (fc : Int) := by omega
          clear hg6 hg5 hg2
          by_cases hkc : k = fc
          · subst hkc
            obtain rfl : k = f.length := by omega
            obtain rfl : h = 0 := by omega
            clear k1 k2 k3 k4 hkf hk
            have HIS : Hid (∀ (w1 : World) (n : Nat), (Below w.heap.size w w1 ∧ w1.ownsRow w.heap.size 3 1 (.slice (some ⟨g, 0, none⟩) f.length f.length) f.length (iv f)) → Calls Tryz.prog 61 #[.agg #[.int .i64 p1, .int .i64 p2, .int .i64 p3, .int .i64 p4, .int .i64 p5, .string (S p6)], .slice (some ⟨g, 0, none⟩) 0 0] (w1.drewN n) fun e w' => e = .returned (.bool (isO (p1, p2, p3, p4, p5, p6) (f.drop f.length))) ∧ Below w1.heap.size w1 w') := fun w1 n h1 => by
              refine (isOf_any (p1, p2, p3, p4, p5, p6) (w1.drewN n) (l := f.drop f.length) ?_ (by simp)).mono ?_
              · exact ⟨_, 0, by rw [List.length_drop, Nat.sub_self], .inl (List.drop_eq_nil_of_le (Nat.le_refl _))⟩
              · rintro e w' ⟨rfl, hb⟩
                exact ⟨rfl, (below_drewN (Below.refl _ w1) n).trans hb⟩
            have HNX : Hid (∀ w1 w2 : World, (Below w.heap.size w w1 ∧ w1.ownsRow w.heap.size 3 1 (.slice (some ⟨g, 0, none⟩) f.length f.length) f.length (iv f)) → Below w1.heap.size w1 w2 → Below w.heap.size w w2 ∧ w2.ownsRow w.heap.size 3 1 (.slice (some ⟨g, 0, none⟩) f.length f.length) f.length (iv (f.take f.length))) := fun w1 w2 h1 hb => ⟨h1.1.trans (hb.mono h1.1.size), (Ch.of_below (X := fun _ => False) hb).row (row_head h1.2 f.length (Nat.le_refl _)) (fun _ _ e => e)⟩
            cases hio : isO (p1, p2, p3, p4, p5, p6) (f.drop f.length) with
            | false =>
              rw [if_pos hio] at HS1
              have HE1 : Hid (R = false) := HS1.out.symm
              rw [hio] at HIS
              clear HS1 hio
              go_wp2_with (first
                | (go_at_call 59; refine (CH _).mono ?_; rintro e w1 ⟨rfl, hw1⟩; rw [hw1]; clear hw1 CH)
                | (go_at_call 60; refine (CO _).mono ?_; rintro e w1 ⟨rfl, hb1⟩; rw [World.size_alloc] at hb1; obtain ⟨⟨d0, d1, d2, d3, d4, d5⟩, hl1, HX⟩ := HWX.out w1 hb1; clear hb1 CO))
              go_quiet (fail)
              go_wp2_with (go_at_call 61; refine (HIS.out w1 _ HX.out).mono ?_; rintro e w2 ⟨rfl, hb2⟩; have HY := (HNX.out w1 w2 HX.out hb2).1; clear hb2)
              go_ret
              rw [HE1.out]
              exact ⟨rfl, HY⟩
            | true =>
              rw [if_neg (by rw [hio]; simp)] at HS1
              rw [hio] at HIS
              clear hio
              go_wp2_with (first
                | (go_at_call 59; refine (CH _).mono ?_; rintro e w1 ⟨rfl, hw1⟩; rw [hw1]; clear hw1 CH)
                | (go_at_call 60; refine (CO _).mono ?_; rintro e w1 ⟨rfl, hb1⟩; rw [World.size_alloc] at hb1; obtain ⟨⟨d0, d1, d2, d3, d4, d5⟩, hl1, HX⟩ := HWX.out w1 hb1; clear hb1 CO))
              go_quiet (fail)
              go_wp2_with (first
                | (go_at_call 61; refine (HIS.out w1 _ HX.out).mono ?_; rintro e w2 ⟨rfl, hb2⟩; have HY : Hid _ := HNX.out w1 w2 HX.out hb2; clear hb2)
                | (at_builtin; refine wpList_append_own _ rfl _ _ 83 rfl w.heap.size 3 i0 _ 1 8 Tryz.underlying83 hi0 hz0 hz1 hz2 rfl (by decide) _ f.length (iv (f.take f.length)) rfl (HY.out.2.alloc _) ⟨w2.heap.size, 0, none⟩ 1 1 [.int .i64 (i : Int)] rfl rfl (new_one _ _ rfl _ _) (by simp [Value.oneCell']) (by unfold maxLen; omega) (by omega) (by have := HY.out.1.size; simp; omega) ?_; intro v5 w5 ho5 hg5 _; have HO5 : Hid _ := ho5; have HG5 : Hid _ := hg5; obtain ⟨a5, c5', rfl, -⟩ := row_slice ho5; clear ho5 hg5))
              go_roundw
              case rel =>
                have hlen : (f.take f.length ++ [(i : Int)]).length = f.length + 1 := by rw [List.length_append, List.length_take, List.length_singleton]; omega
                refine ⟨i + 1, f.take f.length ++ [(i : Int)], a5, c5', by simp, by rw [hlen], by omega, by rw [hlen]; omega, ?_, shd_below HY.out.1 HY.out.2 HG5.out, HS1⟩
                show World.ownsRow _ _ _ _ _ _ _
                rw [hlen, ← iv_snoc]
                exact HO5.out
              case measure => simp [intOf]; omega
          · have hkc' : ¬ fc = k := fun e => hkc e.symm
            have hkc2 : ¬ (k : Int) = (fc : Int) := by omega
            have hkc3 : ¬ (fc : Int) = (k : Int) := by omega
            have hkc4 : ¬ fc - k = 0 := by omega
            have HIS : Hid (∀ (w1 : World) (n : Nat), (Below w.heap.size w w1 ∧ w1.ownsRow w.heap.size 3 1 (.slice (some ⟨g, 0, none⟩) f.length fc) f.length (iv f)) → Calls Tryz.prog 61 #[.agg #[.int .i64 p1, .int .i64 p2, .int .i64 p3, .int .i64 p4, .int .i64 p5, .string (S p6)], .slice (some ⟨g, k, none⟩) (f.length - k) (fc - k)] (w1.drewN n) fun e w' => e = .returned (.bool (isO (p1, p2, p3, p4, p5, p6) (f.drop k))) ∧ Below w1.heap.size w1 w') := fun w1 n h1 => by
              refine (isOf_any (p1, p2, p3, p4, p5, p6) (w1.drewN n) (l := f.drop k) ?_ (by rw [List.length_drop]; omega)).mono ?_
              · exact is_tail ((Ch.of_below (X := fun _ => False) (below_drewN (Below.refl _ w1) n)).row h1.2 (fun _ _ e => e)) k (fc - k) rfl
              · rintro e w' ⟨rfl, hb⟩
                exact ⟨rfl, (below_drewN (Below.refl _ w1) n).trans hb⟩
            have HNX : Hid (∀ w1 w2 : World, (Below w.heap.size w w1 ∧ w1.ownsRow w.heap.size 3 1 (.slice (some ⟨g, 0, none⟩) f.length fc) f.length (iv f)) → Below w1.heap.size w1 w2 → Below w.heap.size w w2 ∧ w2.ownsRow w.heap.size 3 1 (.slice (some ⟨g, 0, none⟩) k fc) k (iv (f.take k))) := fun w1 w2 h1 hb => ⟨h1.1.trans (hb.mono h1.1.size), (Ch.of_below (X := fun _ => False) hb).row (row_head h1.2 k hkf) (fun _ _ e => e)⟩
            cases hio : isO (p1, p2, p3, p4, p5, p6) (f.drop k) with
            | false =>
              rw [if_pos hio] at HS1
              have HE1 : Hid (R = false) := HS1.out.symm
              rw [hio] at HIS
              clear HS1 hio
              go_wp2_with (first
                | (go_at_call 59; refine (CH _).mono ?_; rintro e w1 ⟨rfl, hw1⟩; rw [hw1]; clear hw1 CH)
                | (go_at_call 60; refine (CO _).mono ?_; rintro e w1 ⟨rfl, hb1⟩; rw [World.size_alloc] at hb1; obtain ⟨⟨d0, d1, d2, d3, d4, d5⟩, hl1, HX⟩ := HWX.out w1 hb1; clear hb1 CO))
              go_quiet (fail)
              go_wp2_with (go_at_call 61; refine (HIS.out w1 _ HX.out).mono ?_; rintro e w2 ⟨rfl, hb2⟩; have HY := (HNX.out w1 w2 HX.out hb2).1; clear hb2)
              go_ret
              rw [HE1.out]
              exact ⟨rfl, HY⟩
            | true =>
              rw [if_neg (by rw [hio]; simp)] at HS1
              rw [hio] at HIS
              clear hio
              go_wp2_with (first
                | (go_at_call 59; refine (CH _).mono ?_; rintro e w1 ⟨rfl, hw1⟩; rw [hw1]; clear hw1 CH)
                | (go_at_call 60; refine (CO _).mono ?_; rintro e w1 ⟨rfl, hb1⟩; rw [World.size_alloc] at hb1; obtain ⟨⟨d0, d1, d2, d3, d4, d5⟩, hl1, HX⟩ := HWX.out w1 hb1; clear hb1 CO))
              go_quiet (fail)
              go_wp2_with (first
                | (go_at_call 61; refine (HIS.out w1 _ HX.out).mono ?_; rintro e w2 ⟨rfl, hb2⟩; have HY : Hid _ := HNX.out w1 w2 HX.out hb2; clear hb2)
                | (at_builtin; refine wpList_append_own _ rfl _ _ 83 rfl w.heap.size 3 i0 _ 1 8 Tryz.underlying83 hi0 hz0 hz1 hz2 rfl (by decide) _ k (iv (f.take k)) rfl (HY.out.2.alloc _) ⟨w2.heap.size, 0, none⟩ 1 1 [.int .i64 (i : Int)] rfl rfl (new_one _ _ rfl _ _) (by simp [Value.oneCell']) (by unfold maxLen; omega) (by omega) (by have := HY.out.1.size; simp; omega) ?_; intro v5 w5 ho5 hg5 _; have HO5 : Hid _ := ho5; have HG5 : Hid _ := hg5; obtain ⟨a5, c5', rfl, -⟩ := row_slice ho5; clear ho5 hg5))
              go_roundw
              case rel =>
                have hlen : (f.take k ++ [(i : Int)]).length = k + 1 := by rw [List.length_append, List.length_take, List.length_singleton]; omega
                refine ⟨i + 1, f.take k ++ [(i : Int)], a5, c5', by simp, by rw [hlen], by omega, by rw [hlen]; omega, ?_, shd_below HY.out.1 HY.out.2 HG5.out, HS1⟩
                show World.ownsRow _ _ _ _ _ _ _
                rw [hlen, ← iv_snoc]
                exact HO5.out
              case measure => simp [intOf]; omega
    · have hnl : ¬ (i : Int) < (l.length : Int) := by omega
      obtain rfl : i = l.length := by omega
      have HE1 : Hid (R = decide (f.length = 1)) := by
        show _ = _
        rw [← HS.out, List.drop_length]
        rfl
      clear HS
      by_cases h1 : f.length = 1
      · have h1' : ((f.length : Int) == 1) = true := by rw [h1]; rfl
        generalize f.length = n at *
        subst h1
        go_wp2
        go_ret
        rw [HE1.out]
        exact ⟨rfl, HB.out⟩
      · have h1' : ((f.length : Int) == 1) = false := by simp; omega
        go_wp2
        go_ret
        rw [HE1.out, decide_eq_false h1]
        exact ⟨rfl, HB.out⟩
end Go.Proofs.YtpbfdaijnndilaaGreatDoor.x10

/-
  Package expr: May.
-/
import Derived.Test.YtpbfdaijnndilaaGreatDoorGShpD
namespace Go.Proofs.YtpbfdaijnndilaaGreatDoor.x10

/-- a part at place i, by itself -/
structure Wg (i : Nat) (p : P10) : Prop where
  h : 0 ≤ hnd p.1
  z : hnd p.1 = 0 → p.2.1 = -1 ∧ p.2.2.1 = -1
  o : hnd p.1 = 1 → (∃ a : Nat, a < i ∧ p.2.1 = (a : Int)) ∧ p.2.2.1 = -1
  t : hnd p.1 = 2 → (∃ a : Nat, a < i ∧ p.2.1 = (a : Int)) ∧ ∃ b : Nat, b < i ∧ p.2.2.1 = (b : Int)
  v : hol p = true
theorem isO_eq {p : P10} {l : List Int} (h : isO p l = true) : p.2.1 = l[0]?.getD (-1) ∧ p.2.2.1 = l[1]?.getD (-1) := by
  unfold isO at h
  rw [Bool.and_eq_true] at h
  exact ⟨eq_of_beq h.1, eq_of_beq h.2⟩
theorem wg_of {i : Nat} {p : P10} {f : List Int} (h0 : ¬ (hnd p.1 < 0 ∨ (f.length : Int) < hnd p.1 ∨ hol p = false)) (h1 : ¬ isO p (f.drop (f.length - (hnd p.1).toNat)) = false) (hf : ∀ x ∈ f, ∃ a : Nat, a < i ∧ x = (a : Int)) : Wg i p := by
  have ha : 0 ≤ hnd p.1 := by omega
  have hb : hnd p.1 ≤ (f.length : Int) := by omega
  have hv : hol p = true := by
    cases q : hol p with
    | true => rfl
    | false => exact absurd (Or.inr (Or.inr q)) h0
  have hi : isO p (f.drop (f.length - (hnd p.1).toNat)) = true := by
    cases q : isO p (f.drop (f.length - (hnd p.1).toNat)) with
    | true => rfl
    | false => exact absurd q h1
  obtain ⟨e1, e2⟩ := isO_eq hi
  have at' : ∀ j : Nat, f.length - (hnd p.1).toNat + j < f.length → ∃ a : Nat, a < i ∧ (f.drop (f.length - (hnd p.1).toNat))[j]?.getD (-1) = (a : Int) := fun j hj => by
    rw [List.getElem?_drop, List.getElem?_eq_getElem hj, Option.getD_some]
    exact hf _ (List.getElem_mem hj)
  have no' : ∀ j : Nat, f.length ≤ f.length - (hnd p.1).toNat + j → (f.drop (f.length - (hnd p.1).toNat))[j]?.getD (-1) = -1 := fun j hj => by
    rw [List.getElem?_drop, List.getElem?_eq_none hj, Option.getD_none]
  refine ⟨ha, fun hh => ⟨e1.trans (no' 0 (by omega)), e2.trans (no' 1 (by omega))⟩, fun hh => ⟨?_, e2.trans (no' 1 (by omega))⟩, fun hh => ⟨?_, ?_⟩, hv⟩
  · rw [e1]; exact at' 0 (by omega)
  · rw [e1]; exact at' 0 (by omega)
  · rw [e2]; exact at' 1 (by omega)
theorem shpS_wg : ∀ (rest : List P10) (i : Nat) (f : List Int) (r : List Int), shpS rest i f = some r → (∀ x ∈ f, ∃ a : Nat, a < i ∧ x = (a : Int)) → ∀ (j : Nat) (h : j < rest.length), Wg (i + j) rest[j]
  | [], _, _, _, _, _, _, h => absurd h (Nat.not_lt_zero _)
  | p :: t, i, f, r, hr, hf, j, h => by
    rw [shpS_cons] at hr
    split at hr
    · cases hr
    · rename_i h0
      split at hr
      · cases hr
      · rename_i h1
        cases j with
        | zero => exact wg_of h0 h1 hf
        | succ j =>
          have := shpS_wg t (i + 1) _ r hr (fun x hx => by
            rcases List.mem_append.1 hx with hx | hx
            · obtain ⟨a, h2, h3⟩ := hf x (List.mem_of_mem_take hx)
              exact ⟨a, by omega, h3⟩
            · rw [List.mem_singleton] at hx
              exact ⟨i, by omega, hx⟩) j (by simpa using h)
          rw [show i + 1 + j = i + (j + 1) by omega] at this
          exact this
theorem shp_wg {l : List P10} (h : shp l = true) : l.length ≤ 100 ∧ 1 ≤ l.length ∧ ∀ (i : Nat) (hi : i < l.length), Wg i l[i] := by
  unfold shp at h
  rw [Bool.and_eq_true, decide_eq_true_eq] at h
  obtain ⟨h1, h2⟩ := h
  rcases q : shpS l 0 [] with _ | r
  · rw [q] at h2; cases h2
  · refine ⟨h1, ?_, fun i hi => ?_⟩
    · cases l with
      | nil => cases q; cases h2
      | cons p t => simp
    · have := shpS_wg l 0 [] r q (fun x hx => by cases hx) i hi
      rw [Nat.zero_add] at this
      exact this
theorem hnd_op {o : Int} (h : 0 ≤ hnd o) : 1 ≤ o ∧ o ≤ 18 := by
  unfold hnd at h
  split at h
  · omega
  · omega
/-- parts that stand so are as nested and written want them -/
theorem shp_wf {l : List P10} (h : shp l = true) {i : Nat} (hi : i < l.length) : Wf l i l[i] := by
  obtain ⟨-, -, hw⟩ := shp_wg h
  have g := hw i hi
  have plc : ∀ {x : Int}, (∃ a : Nat, a < i ∧ x = (a : Int)) → Plc l i x := fun ⟨a, h1, h2⟩ => ⟨a, h1, Nat.lt_trans h1 hi, h2, hnd_op (hw a (Nat.lt_trans h1 hi)).h⟩
  refine ⟨List.getElem?_eq_getElem hi, hnd_op g.h, fun h1 => ?_, fun h2 => plc (g.t h2).2⟩
  rcases hnd_cases (hnd_op g.h) with ⟨q, -⟩ | ⟨q, -⟩ | ⟨q, -⟩
  · omega
  · exact plc (g.o q).1
  · exact plc (g.t q).1
end Go.Proofs.YtpbfdaijnndilaaGreatDoor.x10
namespace Go.Proofs.YtpbfdaijnndilaaGreatDoor.x10
open Go.RowKit Go.Shelf Go.Sort
open Go.Lib hiding intOf

def gt (acc : List Int) (x : Int) : Int := if 0 ≤ x then acc[x.toNat]?.getD 0 else 0
/-- what the parts come to, one behind the other -/
def alg (l : List P10) : List P10 → List Int → List Int
  | [], acc => acc
  | p :: t, acc => alg l t (acc ++ [nst l p (gt acc p.2.1) (gt acc p.2.2.1)])
theorem alg_cons (l : List P10) (p : P10) (t : List P10) (acc : List Int) : alg l (p :: t) acc = alg l t (acc ++ [nst l p (gt acc p.2.1) (gt acc p.2.2.1)]) := rfl
def mayE (l : List P10) : Bool := shp l && decide ((alg l l [])[l.length - 1]?.getD 0 ≤ 20)
theorem nst_le {l : List P10} {p : P10} {a b M : Int} (ha : 0 ≤ a ∧ a ≤ M) (hb : 0 ≤ b ∧ b ≤ M) : 0 ≤ nst l p a b ∧ nst l p a b ≤ M + 2 := by
  unfold nst
  split
  · omega
  · split
    · split <;> omega
    · split <;> split <;> omega
theorem gt_le {acc : List Int} {M : Int} (hM : 0 ≤ M) (h : ∀ x ∈ acc, 0 ≤ x ∧ x ≤ M) (x : Int) : 0 ≤ gt acc x ∧ gt acc x ≤ M := by
  unfold gt
  split
  · by_cases hx : x.toNat < acc.length
    · rw [List.getElem?_eq_getElem hx]
      exact h _ (List.getElem_mem hx)
    · rw [List.getElem?_eq_none (by omega)]
      exact ⟨Int.le_refl _, hM⟩
  · exact ⟨Int.le_refl _, hM⟩
theorem gt_at {acc : List Int} {a : Nat} (h : a < acc.length) : gt acc (a : Int) = acc[a] := by
  unfold gt
  rw [if_pos (by omega), Int.toNat_natCast, List.getElem?_eq_getElem h]
  rfl
theorem gt_no (acc : List Int) : gt acc (-1) = 0 := rfl
/-- a number of a row, in memory -/
theorem row_at {w : World} {B : Nat} {fa : Option Addr} {fc : Nat} {f : List Int} (h : w.ownsRow B 3 1 (.slice fa f.length fc) f.length (iv f)) {a : Nat} (ha : a < f.length) : ∃ g, fa = some ⟨g, 0, none⟩ ∧ g < w.heap.size ∧ ∀ (j : Nat) (hj : j < f.length), w.cell? ⟨g, j, none⟩ = some (.int .i64 f[j]) := by
  obtain ⟨h1, h2⟩ := h
  rcases h2 with ⟨-, h3⟩ | ⟨g, cap, cur, h3, h4, h5, h6, h7, h8, h9⟩
  · omega
  · cases h3
    refine ⟨g, rfl, (Array.getElem?_eq_some_iff.1 h5).1, fun j hj => ?_⟩
    have h10 : (iv f)[j]? = some (.int .i64 f[j]) := by simp [iv, hj]
    rw [← h9, List.getElem?_take] at h10
    split at h10
    · rw [Array.getElem?_toList] at h10
      simpa [World.cell?, h5] using h10
    · cases h10

set_option maxHeartbeats 400000 in
theorem mn_any {w : World} {B : Nat} {v : Value} {l : List P10} (hE : Es w v l) (hg : Gx B w) (hB : B ≤ w.heap.size) {i : Nat} {p : P10} (h : Wf l i p) (a b : Int) (ha : 0 ≤ a ∧ a ≤ 1000000) (hb : 0 ≤ b ∧ b ≤ 1000000) {bx : Nat} (hc : w.cell? ⟨bx, 0, none⟩ = some v) : Calls Tryz.prog 32 #[.int .i64 (i : Int), .int .i64 a, .int .i64 b, .pointer (some ⟨bx, 0, none⟩)] w fun e w' => e = .returned (.int .i64 (nst l p a b)) ∧ Below w.heap.size w w' := by
  have CN := nested_any hE hg hB h a b ha hb
  obtain ⟨va, vcap, rfl, -⟩ := hE
  generalize nst l p a b = r at *
  clear hg hB h
  go_enter Tryz.func32, Tryz.ntmps32
  go_wp2_with (go_at_call 33; refine CN.mono ?_; rintro e w1 ⟨rfl, hb1⟩; have B1 : Hid (Below w.heap.size w w1) := hb1; clear hb1 CN)
  go_ret
  exact ⟨rfl, B1.out⟩

set_option maxHeartbeats 2000000 in
set_option maxRecDepth 100000 in
theorem along_any {w : World} {B : Nat} {v : Value} {l : List P10} (hE : Es w v l) (hg : Gx B w) (hB : B ≤ w.heap.size) (hsh : shp l = true) {bx : Nat} (hbx : bx < w.heap.size) (hc : w.cell? ⟨bx, 0, none⟩ = some v) : Calls Tryz.prog 31 #[v, .func (.func 32) #[] #[.pointer (some ⟨bx, 0, none⟩)]] w fun e w' => e = .returned (.int .i64 ((alg l l [])[l.length - 1]?.getD 0)) ∧ Below w.heap.size w w' := by
  obtain ⟨i0, hi0, hz0, hz1, hz2⟩ := info_parts infoInt
  obtain ⟨h100, h1, -⟩ := shp_wg hsh
  have HW : Hid (∀ (i : Nat) (hi : i < l.length), Wf l i l[i] ∧ Wg i l[i]) := fun i hi => ⟨shp_wf hsh hi, (shp_wg hsh).2.2 i hi⟩
  have HE : Hid (Es w v l ∧ Gx B w ∧ B ≤ w.heap.size ∧ w.cell? ⟨bx, 0, none⟩ = some v) := ⟨hE, hg, hB, hc⟩
  obtain ⟨va, vcap, rfl, -, -⟩ := hE
  obtain ⟨R, hR⟩ : ∃ R, alg l l [] = R := ⟨_, rfl⟩
  rw [hR]
  have HR : Hid (alg l l [] = R) := hR
  clear hR hg hB hsh hc
  go_enter Tryz.func31, Tryz.ntmps31
  go_wp2
  go_loopw [12, 5] (fun v12 v5 wr => ∃ (f : List Int) (fa : Option Addr) (fc : Nat), v12 = .int .i64 (f.length : Int) ∧ v5 = .slice fa f.length fc ∧ f.length ≤ l.length ∧ Hid (wr.ownsRow w.heap.size 3 1 (.slice fa f.length fc) f.length (iv f)) ∧ Hid (Below w.heap.size w wr) ∧ Hid (alg l (l.drop f.length) f = R) ∧ Hid (∀ x ∈ f, 0 ≤ x ∧ x ≤ 2 * (f.length : Int))) (fun v12 _ _ => l.length - (intOf v12).toNat)
  case atStart => exact ⟨[], none, 0, rfl, rfl, Nat.zero_le _, ⟨rfl, .inl ⟨rfl, rfl⟩⟩, Below.refl _ _, HR, fun x hx => (by cases hx)⟩
  case round =>
    obtain ⟨f, fa, fc, rfl, rfl, hi, HF, HB, HS, HD⟩ := hrel
    by_cases hlt : f.length < l.length
    · obtain ⟨p, hp⟩ : ∃ p, l[f.length] = p := ⟨_, rfl⟩
      have hdr : l.drop f.length = p :: l.drop (f.length + 1) := by rw [← hp]; exact List.drop_eq_getElem_cons hlt
      obtain ⟨hwf, hwg⟩ := HW.out f.length hlt
      rw [hp] at hwf hwg
      obtain ⟨bl, off, cap, hv, hbl, hcc⟩ := HE.out.1.at hlt
      obtain ⟨c0, c1, c2, c3, c4, c5⟩ := hcc f.length hlt
      have hw' : ∀ o, wr.cell? ⟨bl, o, none⟩ = w.cell? ⟨bl, o, none⟩ := fun o => HB.out.cell (p := ⟨bl, o, none⟩) hbl
      rw [← hw', hp] at c0 c1 c2 c3 c4 c5
      cases hv
      have hblw : bl < wr.heap.size := Nat.lt_of_lt_of_le hbl HB.out.size
      obtain ⟨r, hr⟩ : ∃ r, nst l p (gt f p.2.1) (gt f p.2.2.1) = r := ⟨_, rfl⟩
      have HS1 : Hid (alg l (l.drop (f.length + 1)) (f ++ [r]) = R) := by show _ = _; rw [← hr, ← alg_cons, ← hdr]; exact HS.out
      have g1 := gt_le (by omega) HD.out p.2.1
      have g2 := gt_le (by omega) HD.out p.2.2.1
      have HBD : Hid (∀ x ∈ f ++ [r], 0 ≤ x ∧ x ≤ 2 * ((f.length + 1 : Nat) : Int)) := fun x hx => by
        rcases List.mem_append.1 hx with hx | hx
        · have := HD.out x hx; omega
        · rw [List.mem_singleton] at hx
          have := nst_le (l := l) (p := p) g1 g2
          rw [hr] at this
          subst hx
          omega
      have HNX0 : Hid (∀ w1, Below wr.heap.size wr w1 → Below w.heap.size w w1 ∧ w1.ownsRow w.heap.size 3 1 (.slice fa f.length fc) f.length (iv f)) := fun w1 hb => ⟨HB.out.trans (hb.mono HB.out.size), (Ch.of_below (X := fun _ => False) hb).row HF.out (fun _ _ e => e)⟩
      obtain ⟨W1, hW1⟩ : ∃ W1, wr.alloc (.cells #[.int .i64 p.1, .int .i64 p.2.1, .int .i64 p.2.2.1, .int .i64 p.2.2.2.1, .int .i64 p.2.2.2.2.1, .string (S p.2.2.2.2.2)] 68) = W1 := ⟨_, rfl⟩
      have ha1 : Below wr.heap.size wr W1 := by rw [← hW1]; exact (Below.refl _ wr).alloc (Nat.le_refl _) _
      have HNX : Hid (∀ w2, Below W1.heap.size W1 w2 → Below w.heap.size w w2 ∧ w2.ownsRow w.heap.size 3 1 (.slice fa f.length fc) f.length (iv f)) := fun w2 hb => HNX0.out w2 (ha1.trans (hb.mono ha1.size))
      have hB1 := (HNX0.out W1 ha1).1
      have CM := mn_any (HE.out.1.below hB1) (HE.out.2.1.below (hB1.mono HE.out.2.2.1)) (Nat.le_trans HE.out.2.2.1 hB1.size) hwf (gt f p.2.1) (gt f p.2.2.1) (by omega) (by omega) (bx := bx) ((hB1.cell (p := ⟨bx, 0, none⟩) hbx).trans HE.out.2.2.2)
      rw [hr] at CM
      have HWE : Hid (_ = W1) := hW1
      have hin : IntKind.i64.wrap ((f.length : Int) + 1) = ((f.length + 1 : Nat) : Int) := by rw [IntKind.wrap_i64]; omega
      have HFR : Hid _ := HF.out
      clear hcc hw' HS hdr hp HNX0 hB1 ha1 hW1 g1 g2 HD hr
      obtain ⟨p1, p2, p3, p4, p5, p6⟩ := p
      simp only at c0 c1 c2 c3 c4 c5 CM HWE
      rcases hnd_cases hwf.op with ⟨q, -⟩ | ⟨q, -⟩ | ⟨q, -⟩
      · obtain ⟨e1, e2⟩ := hwg.z q
        simp only at e1 e2
        subst e1
        subst e2
        simp only [gt_no] at CM
        clear hwf hwg q
        go_wp2_with (first
          | (go_at_call 32; rw [HWE.out]; refine CM.mono ?_; rintro e w2 ⟨rfl, hb2⟩; have HY : Hid _ := HNX.out w2 hb2; clear hb2 CM)
          | (at_builtin; refine wpList_append_own _ rfl _ _ 83 rfl w.heap.size 3 i0 _ 1 8 Tryz.underlying83 hi0 hz0 hz1 hz2 rfl (by decide) _ f.length (iv f) rfl (HY.out.2.alloc _) ⟨w2.heap.size, 0, none⟩ 1 1 [.int .i64 r] rfl rfl (new_one _ _ rfl _ _) (by simp [Value.oneCell']) (by unfold maxLen; omega) (by omega) (by have := HY.out.1.size; simp; omega) ?_; intro v5 w5 ho5 hg5 _; have HO5 : Hid _ := ho5; have HG5 : Hid _ := hg5; obtain ⟨a5, c5', rfl, -⟩ := row_slice ho5; clear ho5 hg5))
        go_roundw
        case rel =>
          have hlen : (f ++ [r]).length = f.length + 1 := by rw [List.length_append, List.length_singleton]
          refine ⟨f ++ [r], a5, c5', by rw [hlen]; simp, by rw [hlen], by rw [hlen]; omega, ?_, shd_below HY.out.1 HY.out.2 HG5.out, by rw [hlen]; exact HS1, by rw [hlen]; exact HBD⟩
          show World.ownsRow _ _ _ _ _ _ _
          rw [hlen, ← iv_snoc]
          exact HO5.out
        case measure => simp [intOf]; omega

      · obtain ⟨⟨a, hai, e1⟩, e2⟩ := hwg.o q
        simp only at e1 e2
        subst e1
        subst e2
        simp only [gt_no, gt_at hai] at CM
        obtain ⟨g, hfa, hgl, hgc⟩ := row_at HF.out hai
        have da := hgc a hai
        subst hfa
        clear hwf hwg q hgc
        generalize f[a] = xa at *
        have j1 : (0 : Int) ≤ (a : Int) := by omega
        have j2 : (a : Int) < (f.length : Int) := by omega
        go_wp2_with (first
          | (go_at_call 32; rw [HWE.out]; refine CM.mono ?_; rintro e w2 ⟨rfl, hb2⟩; have HY : Hid _ := HNX.out w2 hb2; clear hb2 CM)
          | (at_builtin; refine wpList_append_own _ rfl _ _ 83 rfl w.heap.size 3 i0 _ 1 8 Tryz.underlying83 hi0 hz0 hz1 hz2 rfl (by decide) _ f.length (iv f) rfl (HY.out.2.alloc _) ⟨w2.heap.size, 0, none⟩ 1 1 [.int .i64 r] rfl rfl (new_one _ _ rfl _ _) (by simp [Value.oneCell']) (by unfold maxLen; omega) (by omega) (by have := HY.out.1.size; simp; omega) ?_; intro v5 w5 ho5 hg5 _; have HO5 : Hid _ := ho5; have HG5 : Hid _ := hg5; obtain ⟨a5, c5', rfl, -⟩ := row_slice ho5; clear ho5 hg5))
        go_roundw
        case rel =>
          have hlen : (f ++ [r]).length = f.length + 1 := by rw [List.length_append, List.length_singleton]
          refine ⟨f ++ [r], a5, c5', by rw [hlen]; simp, by rw [hlen], by rw [hlen]; omega, ?_, shd_below HY.out.1 HY.out.2 HG5.out, by rw [hlen]; exact HS1, by rw [hlen]; exact HBD⟩
          show World.ownsRow _ _ _ _ _ _ _
          rw [hlen, ← iv_snoc]
          exact HO5.out
        case measure => simp [intOf]; omega

      · obtain ⟨⟨a, hai, e1⟩, a', hai', e2⟩ := hwg.t q
        simp only at e1 e2
        subst e1
        subst e2
        simp only [gt_at hai, gt_at hai'] at CM
        obtain ⟨g, hfa, hgl, hgc⟩ := row_at HF.out hai
        have da := hgc a hai
        have db := hgc a' hai'
        subst hfa
        clear hwf hwg q hgc
        generalize f[a] = xa at *
        generalize f[a'] = xb at *
        have j1 : (0 : Int) ≤ (a : Int) := by omega
        have j2 : (a : Int) < (f.length : Int) := by omega
        have j3 : (0 : Int) ≤ (a' : Int) := by omega
        have j4 : (a' : Int) < (f.length : Int) := by omega
        go_wp2_with (first
          | (go_at_call 32; rw [HWE.out]; refine CM.mono ?_; rintro e w2 ⟨rfl, hb2⟩; have HY : Hid _ := HNX.out w2 hb2; clear hb2 CM)
          | (at_builtin; refine wpList_append_own _ rfl _ _ 83 rfl w.heap.size 3 i0 _ 1 8 Tryz.underlying83 hi0 hz0 hz1 hz2 rfl (by decide) _ f.length (iv f) rfl (HY.out.2.alloc _) ⟨w2.heap.size, 0, none⟩ 1 1 [.int .i64 r] rfl rfl (new_one _ _ rfl _ _) (by simp [Value.oneCell']) (by unfold maxLen; omega) (by omega) (by have := HY.out.1.size; simp; omega) ?_; intro v5 w5 ho5 hg5 _; have HO5 : Hid _ := ho5; have HG5 : Hid _ := hg5; obtain ⟨a5, c5', rfl, -⟩ := row_slice ho5; clear ho5 hg5))
        go_roundw
        case rel =>
          have hlen : (f ++ [r]).length = f.length + 1 := by rw [List.length_append, List.length_singleton]
          refine ⟨f ++ [r], a5, c5', by rw [hlen]; simp, by rw [hlen], by rw [hlen]; omega, ?_, shd_below HY.out.1 HY.out.2 HG5.out, by rw [hlen]; exact HS1, by rw [hlen]; exact HBD⟩
          show World.ownsRow _ _ _ _ _ _ _
          rw [hlen, ← iv_snoc]
          exact HO5.out
        case measure => simp [intOf]; omega
    · have hfl : f.length = l.length := by omega
      have hnl : ¬ (f.length : Int) < (l.length : Int) := by omega
      have HE1 : Hid (f = R) := by
        show _ = _
        rw [← HS.out, hfl, List.drop_length]
        rfl
      have hai : l.length - 1 < f.length := by omega
      obtain ⟨g, hfa, hgl, hgc⟩ := row_at HF.out hai
      have da := hgc (l.length - 1) hai
      have HV : Hid (R[l.length - 1]?.getD 0 = f[l.length - 1]) := by
        show _ = _
        rw [← HE1.out, List.getElem?_eq_getElem hai]
        rfl
      subst hfa
      generalize f[l.length - 1] = xa at *
      have hkw : IntKind.i64.wrap ((l.length : Int) - 1) = ((l.length - 1 : Nat) : Int) := by rw [IntKind.wrap_i64]; omega
      have j1 : (0 : Int) ≤ ((l.length - 1 : Nat) : Int) := by omega
      have j2 : ((l.length - 1 : Nat) : Int) < (f.length : Int) := by omega
      obtain ⟨m, hm⟩ : ∃ m, l.length - 1 = m := ⟨_, rfl⟩
      have HVV : Hid (R[l.length - 1]?.getD 0 = xa) := HV.out
      rw [hm] at hkw j1 j2 da hai
      clear hgc HV HS HE1 hfl hm
      go_wp2
      go_ret
      rw [HVV.out]
      exact ⟨rfl, HB.out⟩

set_option maxHeartbeats 1000000 in
set_option maxRecDepth 100000 in
theorem Maye_any {w : World} {B : Nat} {v : Value} {l : List P10} (hE : Es w v l) (hg : Gx B w) (hB : B ≤ w.heap.size) (hsz : ∀ p ∈ l, p.2.2.2.2.2.length ≤ 4611686018427387904) (hn : l.length ≤ 4611686018427387904) : Calls Tryz.prog 16 #[v] w fun e w' => e = .returned (.bool (mayE l)) ∧ Below w.heap.size w w' := by
  have hmf : ∀ (fn : Fn) (first cap : Array Value) (w : World), (Instr.makeFunc fn first cap).run Tryz.prog w = .ok (.func fn first cap) w := fun _ _ _ _ => rfl
  obtain ⟨W1, hW1⟩ : ∃ W1, w.alloc (.cells #[v] 24) = W1 := ⟨_, rfl⟩
  have hb1 : Below w.heap.size w W1 := by rw [← hW1]; exact (Below.refl _ w).alloc (Nat.le_refl _) _
  have hc1 : W1.cell? ⟨w.heap.size, 0, none⟩ = some v := by rw [← hW1]; exact World.cell?_alloc_new _ _ _ _
  have hz1 : w.heap.size < W1.heap.size := by rw [← hW1]; simp
  have CS := shaped_any (hE.below hb1) hsz hn
  have HWE : Hid (_ = W1) := hW1
  cases hs : shp l with
  | false =>
    have HM : Hid (mayE l = false) := by show _ = _; unfold mayE; rw [hs]; rfl
    rw [hs] at CS
    obtain ⟨va, vcap, rfl, -⟩ := hE
    have HB : Hid (Below w.heap.size w W1) := hb1
    clear hb1 hW1 hsz hg hs
    go_enter Tryz.func16, Tryz.ntmps16
    go_wp2_with (go_at_call 30; rw [HWE.out]; refine CS.mono ?_; rintro e w2 ⟨rfl, hb2⟩; have HB2 : Hid _ := HB.out.trans (hb2.mono HB.out.size); clear hb2 CS)
    go_ret
    rw [HM.out]
    exact ⟨rfl, HB2.out⟩
  | true =>
    have HM : Hid (mayE l = decide ((alg l l [])[l.length - 1]?.getD 0 ≤ 20)) := by show _ = _; unfold mayE; rw [hs]; rfl
    rw [hs] at CS
    have HAL : Hid (∀ w2, Below W1.heap.size W1 w2 → w2.cell? ⟨w.heap.size, 0, none⟩ = some v ∧ w.heap.size < w2.heap.size ∧ Calls Tryz.prog 31 #[v, .func (.func 32) #[] #[.pointer (some ⟨w.heap.size, 0, none⟩)]] w2 fun e w' => e = .returned (.int .i64 ((alg l l [])[l.length - 1]?.getD 0)) ∧ Hid (Below w.heap.size w w')) := fun w2 hb => by
      have hB2 : Below w.heap.size w w2 := hb1.trans (hb.mono hb1.size)
      have hc2 := (hb.cell (p := ⟨w.heap.size, 0, none⟩) hz1).trans hc1
      refine ⟨hc2, Nat.lt_of_lt_of_le hz1 hb.size, (along_any (hE.below hB2) (hg.below (hB2.mono hB)) (Nat.le_trans hB hB2.size) hs (Nat.lt_of_lt_of_le hz1 hb.size) hc2).mono ?_⟩
      rintro e w' ⟨rfl, hb3⟩
      exact ⟨rfl, hB2.trans (hb3.mono hB2.size)⟩
    generalize (alg l l [])[l.length - 1]?.getD 0 = r at *
    obtain ⟨va, vcap, rfl, -⟩ := hE
    clear hb1 hW1 hsz hg hs
    by_cases hr : r ≤ 20
    · go_enter Tryz.func16, Tryz.ntmps16
      go_wp2_with (first
        | (go_at_call 30; rw [HWE.out]; refine CS.mono ?_; rintro e w2 ⟨rfl, hb2⟩; obtain ⟨hc2, hl2, CA⟩ := HAL.out w2 hb2; clear hb2 CS)
        | (go_at_call 31; refine CA.mono ?_; rintro e w3 ⟨rfl, HB3⟩; clear CA))
      go_ret
      rw [HM.out, decide_eq_true hr]
      exact ⟨rfl, HB3.out⟩
    · go_enter Tryz.func16, Tryz.ntmps16
      go_wp2_with (first
        | (go_at_call 30; rw [HWE.out]; refine CS.mono ?_; rintro e w2 ⟨rfl, hb2⟩; obtain ⟨hc2, hl2, CA⟩ := HAL.out w2 hb2; clear hb2 CS)
        | (go_at_call 31; refine CA.mono ?_; rintro e w3 ⟨rfl, HB3⟩; clear CA))
      go_ret
      rw [HM.out, decide_eq_false (by omega)]
      exact ⟨rfl, HB3.out⟩
end Go.Proofs.YtpbfdaijnndilaaGreatDoor.x10

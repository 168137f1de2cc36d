/-
  Package disk: Crash.
-/
import Derived.Test.YtedcabnjcbdkaaaL4Names
namespace Go.Proofs.Ytedcabnjcbdkaaa
open Go.RowKit Go.Shelf Go.Sort
open Go.Lib hiding intOf
variable {w : World} {B d : Nat} {es : List Le} {p : Int} {off : Bool} {mo : Option Nat}

/-- a slice of numbers -/
def Ks (w : World) (ka : Option Addr) (ks : List Int) : Prop := ∀ j (hj : j < ks.length), ∃ b o, ka = some ⟨b, o, none⟩ ∧ w.cell? ⟨b, o + j, none⟩ = some (.int .i64 ks[j])
theorem Ks.ch {w w' : World} {ka : Option Addr} {ks : List Int} {X : Nat → Prop} (h : Ks w ka ks) (hc : Ch X w w') (hX : ∀ a, ka = some a → ¬ X a.block) : Ks w' ka ks := by
  intro j hj
  obtain ⟨b, o, e, hcell⟩ := h j hj
  exact ⟨b, o, e, hc.cell hcell (hX ⟨b, o, none⟩ e)⟩
/-- the first i files behind a crash -/
def crTo (ks : List Int) (i : Nat) (es : List Le) : List Le := es.mapIdx fun j e => (e.1, if j < i then crL (kp ks j) e.2 else e.2)
theorem crTo_len (ks : List Int) (i : Nat) (es : List Le) : (crTo ks i es).length = es.length := by simp [crTo]
theorem crTo_get (ks : List Int) (i : Nat) (es : List Le) {j : Nat} (hj : j < es.length) : (crTo ks i es)[j]'(by rw [crTo_len]; exact hj) = (es[j].1, if j < i then crL (kp ks j) es[j].2 else es[j].2) := by simp [crTo]
theorem crTo_zero (ks : List Int) (es : List Le) : crTo ks 0 es = es := by
  apply List.ext_getElem (crTo_len _ _ _)
  intro j h1 h2
  rw [crTo_get ks 0 es h2, if_neg (by omega)]
theorem crTo_mem {ks : List Int} {i : Nat} {es : List Le} (hi : i < es.length) : (es[i].1, es[i].2) ∈ crTo ks i es := by
  have h := List.getElem_mem (l := crTo ks i es) (n := i) (by rw [crTo_len]; exact hi)
  rw [crTo_get ks i es hi, if_neg (by omega)] at h
  exact h
theorem crTo_step {ks : List Int} {i : Nat} {es : List Le} (hi : i < es.length) (hr : Rise (crTo ks i es)) : put (crTo ks i es) es[i].1 (crL (kp ks i) es[i].2) = crTo ks (i + 1) es := by
  have hi' : i < (crTo ks i es).length := by rw [crTo_len]; exact hi
  have e1 : (crTo ks i es)[i].1 = es[i].1 := by rw [crTo_get ks i es hi]
  rw [← e1, put_at hr hi']
  apply List.ext_getElem (by simp [crTo_len])
  intro j h1 h2
  have hj : j < es.length := by rw [crTo_len] at h2; exact h2
  rw [crTo_get ks (i + 1) es hj, List.getElem_set]
  split
  · rename_i e; subst e
    rw [if_pos (by omega), e1]
  · rw [crTo_get ks i es hj]
    by_cases hji : j < i
    · rw [if_pos hji, if_pos (by omega)]
    · rw [if_neg hji, if_neg (by omega)]
theorem crTo_all (ks : List Int) (es : List Le) : fil (crTo ks es.length es) = crAll ks (fil es) := by
  apply List.ext_getElem (by simp [fil, vals, crTo, crAll])
  intro j h1 h2
  have hj : j < es.length := by simpa [fil, vals, crTo] using h1
  simp [fil, vals, crTo, crAll, hj, crL, sr]
theorem crL_own (n : Int) (v : Lv) : (crL n v).bv.ownBlock = v.bv.ownBlock := by
  unfold crL
  simp only
  cases v.bv with
  | slice a _ c => cases a <;> rfl
  | _ => rfl
theorem cr_small (n : Int) (v : Lv) : (crL n v).all.size ≤ v.all.size := by
  show ((cr n (v.safe, v.rest)).1 ++ (cr n (v.safe, v.rest)).2).size ≤ _
  rw [cr_all, ba_take_size]
  exact Nat.min_le_right _ _
theorem crTo_foot {ks : List Int} {i : Nat} {es : List Le} {x : Nat} (hx : foot d mo (crTo ks i es) x) : foot d mo es x := by
  rcases hx with hx | hx | ⟨e, he, hx⟩
  · exact .inl hx
  · exact .inr (.inl hx)
  · obtain ⟨j, hj, rfl⟩ := List.mem_iff_getElem.1 he
    have hj' : j < es.length := by rw [crTo_len] at hj; exact hj
    refine .inr (.inr ⟨es[j], List.getElem_mem hj', ?_⟩)
    rw [crTo_get ks i es hj'] at hx
    simp only at hx
    split at hx
    · rcases hx with hx | hx
      · exact .inl hx
      · exact .inr ((crL_own _ _).symm.trans hx)
    · exact hx
theorem nms_at {V : Type} (es : List (ByteArray × V)) {i : Nat} (hi : i < es.length) : (nms es)[i]? = some (.string es[i].1) := by
  unfold nms
  rw [List.getElem?_map, List.getElem?_eq_getElem hi]
  rfl

/-- what stands in the loop -/
def CrJ (w1 : World) (B d : Nat) (es : List Le) (p : Int) (off : Bool) (mo : Option Nat) (ks : List Int) (i : Nat) (wr : World) : Prop :=
  Ld wr B d (crTo ks i es) p off mo ∧ Ch (foot d mo es) w1 wr

set_option maxHeartbeats 4000000 in
theorem Crash_any (h : Ld w B d es p off mo) {ka : Option Addr} {ks : List Int} {kc : Nat} (hk : Ks w ka ks) (hkf : ks ≠ [] → ∀ a, ka = some a → ¬ foot d mo es a.block ∧ a.block < w.heap.size) :
    Calls Try.prog 21 #[.pointer (some ⟨d, 0, none⟩), .slice ka ks.length kc] w fun e w' => (∃ x, e = .returned x) ∧ Did w B d es mo w' (aCrash (fil es, p, off) ks) := by
  have hN := Names_any h
  have H : Hid (Ld w B d es p off mo ∧ Ks w ka ks) := ⟨h, hk⟩
  have hfew := h.few
  clear h hk
  go_enter Try.func21, Try.ntmps21
  go_wp2_with (go_at_call 16; refine hN.mono ?_; rintro e w1 ⟨nv, rfl, hrow, hb1⟩; obtain ⟨na, nc, rfl, -⟩ := row_slice hrow; have HR : Hid (w1.ownsRow w.heap.size 9 1 (.slice na es.length nc) es.length (nms es) ∧ Below w.heap.size w w1) := ⟨hrow, hb1⟩; clear hrow hb1)
  obtain ⟨hrow, hb1⟩ := HR.out
  have hL1 : Ld w1 B d es p off mo := H.out.1.below hb1
  have hK1 : Ks w1 ka ks := H.out.2.ch (X := fun _ => False) (Ch.of_below hb1) (fun _ _ => id)
  have hapart : ∀ x, (Value.slice na es.length nc).ownBlock = some x → ¬ foot d mo es x := fun x hx hf => by
    have h1 := (row_obj hrow hx).1
    have h2 := (H.out.1.foot_lt hf).1
    omega
  go_loopw [12] (fun vi wr => ∃ i : Nat, vi = .int .i64 i ∧ i ≤ es.length ∧ CrJ w1 B d es p off mo ks i wr) (fun vi _ => es.length - (intOf vi).toNat)
  case atStart => exact ⟨0, rfl, Nat.zero_le _, by rw [crTo_zero]; exact hL1, Ch.refl _ w1⟩
  case round =>
    obtain ⟨i, rfl, hi, hJ⟩ := hrel
    obtain ⟨hL, hC⟩ := hJ
    by_cases hl : i < es.length
    · have hli : (i : Int) < (es.length : Int) := by omega
      have hi0 : (0 : Int) ≤ (i : Int) := Int.natCast_nonneg _
      have hrw := hC.row hrow hapart
      obtain ⟨g, hg⟩ : ∃ g, na = some ⟨g, 0, none⟩ := by
        rcases hrow.2 with ⟨e, h0⟩ | ⟨g, cap', cur, e, -⟩
        · omega
        · cases e; exact ⟨g, rfl⟩
      subst hg
      have m0 := row_cell hrw (nms_at es hl)
      have hmem := crTo_mem (ks := ks) hl
      have hlook := hL.look1 hmem
      have c0 := hL.c0
      have hcr := crash_any (hL.fw _ hmem) (hL.small _ hmem).2 (kp ks i)
      have HS : Hid (∀ w', Fw w' B (crL (kp ks i) es[i].2) → Ch (fun x => x = es[i].2.g) wr w' → CrJ w1 B d es p off mo ks (i + 1) w') := by
        intro w' hF hC'
        have hx := hL.file hmem (hC'.mono (fun _ _ e => .inl e)) hF rfl (fun x hx => .inl ((crL_own _ _).symm.trans hx)) (Nat.le_trans (cr_small _ _) (hL.small _ hmem).2)
        rw [crTo_step hl hL.rise] at hx
        exact ⟨hx, hC.trans (hC'.mono (fun x _ e => crTo_foot (ks := ks) (i := i) (.inr (.inr ⟨_, hmem, .inl e⟩))))⟩
      generalize es[i].1 = nm at *
      by_cases hkl : i < ks.length
      · have hkl' : (i : Int) < (ks.length : Int) := by omega
        obtain ⟨kb, ko, rfl, hkc⟩ := (hK1.ch hC (fun a e => (hkf (fun h0 => by rw [h0] at hkl; simp at hkl) a e).1)) i hkl
        have hkp : kp ks i = ks[i] := by simp [kp, hkl]
        rw [hkp] at hcr HS
        clear hL hC hrw hmem hK1 hL1 hrow hapart hkf hN hkp
        generalize es[i].2 = vv at *
        generalize ks[i] = kk at *
        go_wp2_with (go_at_call 39; refine hcr.mono ?_; rintro e w3 ⟨⟨x, rfl⟩, hF, hC'⟩; have HJ : Hid (CrJ w1 B d es p off mo ks (i + 1) w3) := HS.out w3 hF hC'; clear hF hC')
        go_roundw
        case rel => exact ⟨i + 1, by simp, by omega, HJ.out⟩
        case measure => simp [intOf]; omega
      · have hkl' : ¬ (i : Int) < (ks.length : Int) := by omega
        have hkp : kp ks i = 0 := by simp [kp, Nat.le_of_not_lt hkl]
        rw [hkp] at hcr HS
        clear hL hC hrw hmem hK1 hL1 hrow hapart hkf hN hkp
        generalize es[i].2 = vv at *
        go_wp2_with (go_at_call 39; refine hcr.mono ?_; rintro e w3 ⟨⟨x, rfl⟩, hF, hC'⟩; have HJ : Hid (CrJ w1 B d es p off mo ks (i + 1) w3) := HS.out w3 hF hC'; clear hF hC')
        go_roundw
        case rel => exact ⟨i + 1, by simp, by omega, HJ.out⟩
        case measure => simp [intOf]; omega
    · have hli : ¬ (i : Int) < (es.length : Int) := by omega
      obtain rfl : i = es.length := by omega
      have c3 := hL.c3
      have f3 := hL.fro 3
      have hc : Ch (fun x => x = d) wr (wr.setCell ⟨d, 3, none⟩ (.bool false)) := (Ch.refl _ wr).setCell _ _ (fun _ => rfl)
      have hL3 := hL.cells p false hL.pw hc (heap_setCell_same wr d 3 _ _ (.bool false) hL.hd)
      have hP := Power_any hL3 (-1) (by decide)
      have HE : Hid (Ch (foot d mo es) w (wr.setCell ⟨d, 3, none⟩ (.bool false))) :=
        ((Ch.of_below (X := foot d mo es) hb1).trans hC).trans (hc.mono (fun _ _ e => .inl e))
      clear hL hC hL3 hc hK1 hL1 hrow hapart hkf hN
      go_wp2_with (go_at_call 26; refine hP.mono ?_; rintro e w3 ⟨⟨x, rfl⟩, hLd, hC'⟩; have HJ : Hid _ := And.intro hLd hC'; clear hLd hC')
      go_end0
      refine ⟨⟨_, rfl⟩, crTo ks es.length es, mo, HJ.out.1, crTo_all ks es, HE.out.trans (HJ.out.2.mono (fun _ _ e => .inl e)), fun x hx => .inl (crTo_foot hx)⟩
set_option maxHeartbeats 1000000 in
theorem Crash_nil (kv : Value) (w : World) :
    Calls Try.prog 21 #[.pointer none, kv] w fun e w' => (∃ x, e = .returned x) ∧ w' = w := by
  go_enter Try.func21, Try.ntmps21
  go_wp2
  refine bodyPost_ret (results_none rfl _ _ _) rfl ?_
  exact ⟨⟨_, rfl⟩, rfl⟩
set_option maxHeartbeats 1000000 in
theorem Power_nil (a : Int) (w : World) :
    Calls Try.prog 26 #[.pointer none, .int .i64 a] w fun e w' => (∃ x, e = .returned x) ∧ w' = w := by
  go_enter Try.func26, Try.ntmps26
  go_wp2
  refine bodyPost_ret (results_none rfl _ _ _) rfl ?_
  exact ⟨⟨_, rfl⟩, rfl⟩
end Go.Proofs.Ytedcabnjcbdkaaa

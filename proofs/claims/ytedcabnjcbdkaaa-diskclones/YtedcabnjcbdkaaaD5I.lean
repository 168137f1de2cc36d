/-
  The document's disk: Append, whatever is asked; Clone.
-/
import Derived.Test.YtedcabnjcbdkaaaD5H
namespace Go.Proofs.Ytedcabnjcbdkaaa
open Go.RowKit Go.Shelf Go.Sort
open Go.Lib hiding intOf
variable {w : World} {B db : Nat} {fs : List Fil} {p : Int} {off : Bool} {sv : Value} {st : Ab}

set_option maxRecDepth 100000 in
set_option maxHeartbeats 8000000 in
theorem dapp_offN (h : Dk w db B fs 0 false sv) (k s : ByteArray) (hk1 : 1 ≤ k.size) (hk2 : k.size ≤ 32) (hn : fs.length < 256) (hx : fnum fs k = -1) (hs : s.size ≤ 1048576) :
    Calls Try.prog 28 #[.pointer (some ⟨db, 0, none⟩), .string k, .string s] w fun e w' => e = .returned (.int .i64 7) ∧ Dk w' db B fs 0 true sv ∧ Ch (fun x => x = db) w w' := by
  have c2 := h.c2
  have c0 := h.c0
  have hF := dfind_any h k (by omega)
  rw [hx] at hF
  have hA : ∀ n, _ := fun n => dact_any (h.below (below_drewN (Below.refl _ w) n)) (by decide)
  rw [show powOk 0 = false from rfl, show powOf 0 = 0 from rfl] at hA
  obtain ⟨a0, c00, rfl, -⟩ := row_slice h.row
  have h1' : ¬ (k.size : Int) < 1 := by omega
  have h2' : ¬ (32 : Int) < (k.size : Int) := by omega
  have h3' : ((fs.length : Int) == 256) = false := by simp; omega
  have h4 : decide ((1048576 : Int) < (s.size : Int)) = false := decide_eq_false (by omega)
  clear h hx
  go_enter Try.func28, Try.ntmps28
  go_wp2_with (go_at_call 41; refine hF.mono ?_; rintro e w1 ⟨rfl, rfl⟩)
  go_quiet (fail)
  go_wp2_with (go_at_call 42; (refine (hA _).mono ?_; rintro e w2 ⟨rfl, D2, C2⟩; have HD : Hid _ := And.intro D2 C2; clear D2 C2))
  go_ret
  exact ⟨rfl, HD.out.1, ⟨HD.out.2.os, HD.out.2.tape, HD.out.2.output, HD.out.2.size, HD.out.2.block⟩⟩
theorem DDid.bel (h : Dk w db B fs p off sv) {w' : World} (hb : Below w.heap.size w w') : DDid w B db sv w' (fs, p, off) := ⟨sv, h.below hb, Ch.of_below hb, fun _ hx => .inl hx⟩
theorem dApp (h : Dk w db B fs p off sv) (hw : Wf (fs, p, off)) (hB : B ≤ w.heap.size) (k s : ByteArray) (hz : s.size ≤ 9223372036853727231) :
    Calls Try.prog 28 #[.pointer (some ⟨db, 0, none⟩), .string k, .string s] w fun e w' => e = .returned (.int .i64 (aApp (fs, p, off) k s).1) ∧ DDid w B db sv w' (aApp (fs, p, off) k s).2 := by
  have hf : fs.length ≤ 256 := hw.few
  have hpw : -9223372036854775808 ≤ p ∧ p ≤ 9223372036854775807 := by have := hw.pw; simp at this; omega
  unfold aApp
  cases off with
  | true =>
    have hno : appNo (fs, p, true) k s = 7 := rfl
    rw [stepA_no (by rw [hno]; decide), hno]
    exact (dapp_dead h k s).mono fun e w' x => ⟨x.1, by rw [x.2]; exact DDid.same h⟩
  | false =>
    by_cases hk : k.size < 1 ∨ 32 < k.size
    · have hno : appNo (fs, p, false) k s = 1 := by unfold appNo; rw [if_neg (by simp), if_pos hk]
      rw [stepA_no (by rw [hno]; decide), hno]
      exact (dapp_name h k s hk).mono fun e w' x => ⟨x.1, by rw [x.2]; exact DDid.same h⟩
    · cases hh : has fs k with
      | true =>
        obtain ⟨i, hi, e, hx⟩ := fnum_has (fs := fs) hw.rise hh
        have hsz : fs[i].2.1.size + fs[i].2.2.size ≤ 1048576 := (hw.small _ (List.getElem_mem hi)).2
        have hg : gv fs k = fs[i].2 := by rw [hx]
        have hgv : getv fs k = fs[i].2 := by unfold getv; rw [hh, if_pos rfl, hg]
        by_cases hfull : 1048576 < fs[i].2.1.size + fs[i].2.2.size + s.size
        · have hno : appNo (fs, p, false) k s = 4 := by unfold appNo; rw [if_neg (by simp), if_neg hk]; simp only [hh, if_true]; rw [hg, if_pos hfull]
          rw [stepA_no (by rw [hno]; decide), hno]
          exact (dapp_fullO h k s (by omega) (by omega) hf hi e hsz hz hfull).mono fun e w' x => ⟨x.1, DDid.bel h x.2⟩
        · have hno : appNo (fs, p, false) k s = 0 := by unfold appNo; rw [if_neg (by simp), if_neg hk]; simp only [hh, if_true]; rw [hg, if_neg hfull]
          rw [hno]
          have hc := dapp_old h k s (by omega) (by omega) hf hpw hi e (by omega)
          cases hp : powOk p with
          | false =>
            obtain rfl := pow_zero hp
            rw [stepA_off]
            rw [hp] at hc
            exact hc.mono fun e w' x => ⟨x.1, DDid.own x.2.1 x.2.2⟩
          | true =>
            rw [stepA_ok hp]
            rw [hp] at hc
            refine hc.mono fun e w' x => ⟨x.1, sv, ?_, x.2.2, fun _ hx => .inl hx⟩
            have h1 := x.2.1
            rw [show fs[i].1 = k by rw [hx], set_put (fs := fs) hw.rise hi hx] at h1
            simp only [hgv]
            exact h1
      | false =>
        have hx := fnum_not (fs := fs) hw.rise hh
        have hgv : getv fs k = (⟨#[]⟩, ⟨#[]⟩) := by unfold getv; rw [hh]; rfl
        by_cases hfull : fs.length = 256 ∨ 1048576 < s.size
        · have hno : appNo (fs, p, false) k s = 4 := by unfold appNo; rw [if_neg (by simp), if_neg hk]; simp only [hh, Bool.false_eq_true, if_false]; rw [if_pos hfull]
          rw [stepA_no (by rw [hno]; decide), hno]
          exact (dapp_fullN h k s (by omega) (by omega) hf hx hfull).mono fun e w' x => ⟨x.1, DDid.bel h x.2⟩
        · have hno : appNo (fs, p, false) k s = 0 := by unfold appNo; rw [if_neg (by simp), if_neg hk]; simp only [hh, Bool.false_eq_true, if_false]; rw [if_neg hfull]
          rw [hno]
          cases hp : powOk p with
          | false =>
            obtain rfl := pow_zero hp
            rw [stepA_off]
            exact (dapp_offN h k s (by omega) (by omega) (by omega) hx (by omega)).mono fun e w' x => ⟨x.1, DDid.own x.2.1 x.2.2⟩
          | true =>
            rw [stepA_ok hp]
            have hc := dapp_new h hw.rise (fun e he => (hw.small e he).1) k s (by omega) (by omega) (by omega) hpw hh hx (by omega) hp hB
            simp only [hgv]
            rw [show (⟨#[]⟩ : ByteArray) ++ s = s from ByteArray.empty_append]
            exact hc
end Go.Proofs.Ytedcabnjcbdkaaa

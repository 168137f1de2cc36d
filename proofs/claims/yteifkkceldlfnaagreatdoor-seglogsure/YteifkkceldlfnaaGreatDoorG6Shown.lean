/-
  The document's example of a log.
-/
import Derived.Test.YteifkkceldlfnaaGreatDoorG6Open0
namespace Go.Proofs.YteifkkceldlfnaaGreatDoor
open Go.RowKit Go.Shelf Go.Sort
open Go.Lib hiding intOf

def logName : ByteArray := ⟨#[108, 111, 103]⟩
theorem logName_ok : isP logName = true := by decide +kernel
def ab : List (List UInt8) := [[97], [98]]
/-- a new disk takes what fits -/
theorem aApp_new {p : Int} (hp : powOk p = true) {k s : ByteArray} (h1 : 1 ≤ k.size) (h2 : k.size ≤ 32) (h3 : s.size ≤ 1048576) : aApp ([], p, false) k s = (0, [(k, ⟨#[]⟩, ⟨#[]⟩ ++ s)], powOf p, false) := by
  have e1 : appNo ([], p, false) k s = 0 := by
    unfold appNo
    have : has ([] : List Fil) k = false := by simp [has, pos]
    simp only [this, Bool.false_eq_true, if_false]
    rw [if_neg (by omega), if_neg (by simp; omega)]
  unfold aApp
  rw [e1, stepA_ok hp]
  simp [put_nil, getv, has, pos]
theorem nam_pos (pre : ByteArray) (n : Nat) : 1 ≤ (nam pre n).size := by
  unfold nam
  rw [ByteArray.size_append, S_size]
  simp
  omega
theorem lod_ab : (lod 1 ab).length ≤ 50 := by
  have h1 := uv_len 1 (by decide)
  have h2 := uv_len 2 (by decide)
  unfold lod lst ab cat txt
  simp only [List.length_append, List.map_cons, List.map_nil, List.flatten_cons, List.flatten_nil, List.length_cons, List.length_nil, List.append_nil, Nat.zero_add, Nat.reduceAdd]
  omega
/-- what the example comes to -/
theorem shown_pure : (gAppend (lg0 logName 64) ([], -1, false) ab).1 = (1, 0) ∧ (gAppend (lg0 logName 64) ([], -1, false) ab).2.1.next = 3 ∧ (gAppend (lg0 logName 64) ([], -1, false) ab).2.1.sure = 1 ∧
    (gFlush (gAppend (lg0 logName 64) ([], -1, false) ab).2.1 (gAppend (lg0 logName 64) ([], -1, false) ab).2.2).1 = 0 ∧ (gFlush (gAppend (lg0 logName 64) ([], -1, false) ab).2.1 (gAppend (lg0 logName 64) ([], -1, false) ab).2.2).2.1.sure = 3 ∧
    gRead (gFlush (gAppend (lg0 logName 64) ([], -1, false) ab).2.1 (gAppend (lg0 logName 64) ([], -1, false) ab).2.2).2.1 2 = ([98], 0) := by
  have hl := lod_ab
  have hno : gNo (lg0 logName 64) ab = 0 := by
    unfold gNo
    rw [if_neg (by decide), if_neg (by decide), if_neg (by show ¬ 65536 < (lod 1 ab).length; omega)]
  have hrm : gRoom (lg0 logName 64) ([], -1, false) = (0, none, lg0 logName 64, ([], -1, false)) := rfl
  have hf := frm_len 1 (lod 1 ab) (by omega)
  have hk := nam_size logName 1 (by decide) (by decide)
  have hk1 := nam_pos logName 1
  have hap := aApp_new (p := -1) (by decide) (k := nam logName 1) (s := S (bfr 1 ab)) hk1 hk (by rw [S_size]; show (frm 1 (lod 1 ab)).length ≤ _; omega)
  have hap' : aApp (gRoom (lg0 logName 64) ([], -1, false)).2.2.2 (gName (lg0 logName 64).pre (gRoom (lg0 logName 64) ([], -1, false)).2.1 (lg0 logName 64).next) (S (bfr (lg0 logName 64).next ab)) = (0, [(nam logName 1, ⟨#[]⟩, ⟨#[]⟩ ++ S (bfr 1 ab))], powOf (-1), false) := by rw [hrm]; exact hap
  have e1 := gApp_ok hno (by rw [hrm]) (by rw [hap'])
  rw [hap', hrm] at e1
  have e2 : gAppend (lg0 logName 64) ([], -1, false) ab = ((1, 0), ⟨logName, 64, [⟨1, ab, (bfr 1 ab).length⟩], 3, 1⟩, ([(nam logName 1, ⟨#[]⟩, ⟨#[]⟩ ++ S (bfr 1 ab))], powOf (-1), false)) := e1
  rw [e2]
  have hh : has [(nam logName 1, (⟨#[]⟩ : ByteArray), (⟨#[]⟩ : ByteArray) ++ S (bfr 1 ab))] (nam logName 1) = true := has_cons_eq (y := (nam logName 1, (⟨#[]⟩ : ByteArray), (⟨#[]⟩ : ByteArray) ++ S (bfr 1 ab)))
  have e3 : gFlush ⟨logName, 64, [⟨1, ab, (bfr 1 ab).length⟩], 3, 1⟩ ([(nam logName 1, ⟨#[]⟩, ⟨#[]⟩ ++ S (bfr 1 ab))], powOf (-1), false) = (0, ⟨logName, 64, [⟨1, ab, (bfr 1 ab).length⟩], 3, 3⟩, (aSync ([(nam logName 1, ⟨#[]⟩, ⟨#[]⟩ ++ S (bfr 1 ab))], powOf (-1), false) (nam logName 1)).2) := by
    unfold gFlush
    rw [if_neg (by decide)]
    simp only [List.getLast?_singleton]
    have : (aSync ([(nam logName 1, ⟨#[]⟩, ⟨#[]⟩ ++ S (bfr 1 ab))], powOf (-1), false) (nam logName 1)).1 = 0 := by
      unfold aSync noOf
      simp only [hh, Bool.false_eq_true, if_false, if_true]
      rw [stepA_ok (by decide)]
    rw [if_neg (by simpa using this)]
  rw [e3]
  exact ⟨rfl, rfl, rfl, rfl, rfl, rfl⟩
theorem below_of_lft {B lb d : Nat} {lg : Lg} {st : Ab} {w w' : World} (h : Lft (fun x => B ≤ x ∧ x < w.heap.size) w B lb d lg st w') (hB : B ≤ w.heap.size) : Below B w w' ∧ Ls (fun x => B ≤ x) w' B lb d lg st :=
  ⟨h.2.below hB (fun k hk hx => by omega), h.1.mono (fun x hx => hx.elim (fun h => h.1) (Nat.le_trans hB))⟩
/-- a log that is asked: all below B is kept -/
theorem gAppend_b {B lb d : Nat} {lg : Lg} {st : Ab} {w : World} {av : Value} {l : List (List UInt8)} (h : Ls (fun x => B ≤ x) w B lb d lg st) (hv : Gv B w) (ha : Strs w av l) (hab : l ≠ [] → ∀ b o m c, av = .slice (some ⟨b, o, none⟩) m c → b < B) (hl : l.length ≤ 9223372036854775807) : Calls Tryz.prog 24 #[.pointer (some ⟨lb, 0, none⟩), av] w fun e w' =>
    e = .returned (.tuple #[.int .u64 ((gAppend lg st l).1.1 : Int), .int .i64 (gAppend lg st l).1.2]) ∧ Below B w w' ∧ Ls (fun x => B ≤ x) w' B lb d (gAppend lg st l).2.1 (gAppend lg st l).2.2 :=
  (gAppend_any h.tight hv (fun x hx => hx.1) ha (fun h0 b o m c e hx => by have := hab h0 b o m c e; omega) hl).mono fun _ _ x => ⟨x.1, below_of_lft x.2 h.base.1⟩
theorem gFlush_b {B lb d : Nat} {lg : Lg} {st : Ab} {w : World} (h : Ls (fun x => B ≤ x) w B lb d lg st) : Calls Tryz.prog 25 #[.pointer (some ⟨lb, 0, none⟩)] w fun e w' =>
    e = .returned (.int .i64 (gFlush lg st).1) ∧ Below B w w' ∧ Ls (fun x => B ≤ x) w' B lb d (gFlush lg st).2.1 (gFlush lg st).2.2 :=
  (gFlush_any h.tight).mono fun _ _ x => ⟨x.1, below_of_lft x.2 h.base.1⟩
theorem two_strs (w : World) : Strs (w.alloc (.cells #[.string ⟨#[97]⟩, .string ⟨#[98]⟩] 9)) (.slice (some ⟨w.heap.size, 0, none⟩) 2 2) ab := by
  refine ⟨_, 2, rfl, .inr ⟨w.heap.size, 0, rfl, by simp, fun j hj => ?_⟩⟩
  have hh := heap_alloc_new w (.cells #[.string ⟨#[97]⟩, .string ⟨#[98]⟩] 9)
  match j, hj with
  | 0, _ => exact cell_of_row _ _ _ _ _ _ hh
  | 1, _ => exact cell_of_row _ _ _ _ _ _ hh
set_option maxRecDepth 100000 in
set_option maxHeartbeats 8000000 in
theorem shown6_any (w : World) (hv : Gv w.heap.size w) : Calls Tryz.prog 6 #[] w fun e w' => e = .returned (.bool true) ∧ Below w.heap.size w w' := by
  obtain ⟨p1, p2, p3, p4, p5, p6⟩ := shown_pure
  have cN := sNew w.heap.size w (Nat.le_refl _)
  have HV : Hid (Gv w.heap.size w) := hv
  obtain ⟨r1, hr1⟩ : ∃ r1, gAppend (lg0 logName 64) ([], -1, false) ab = r1 := ⟨_, rfl⟩
  rw [hr1] at p1 p2 p3 p4 p5 p6
  obtain ⟨r2, hr2⟩ : ∃ r2, gFlush r1.2.1 r1.2.2 = r2 := ⟨_, rfl⟩
  rw [hr2] at p4 p5 p6
  have hq := logEql
  clear hv
  go_enter Tryz.func6, Tryz.ntmps6
  go_wp2_with (first
    | (go_at_call 7; refine cN.mono ?_; rintro e w1 ⟨rfl, h1, hb1⟩; (have cO := Open0 (sz := 64) h1 logName_ok (by decide) (by decide)); have HB1 : Hid (Below w.heap.size w w1) := hb1; clear hb1 h1)
    | (go_at_call 9; refine cO.mono ?_; rintro e w2 ⟨lb, rfl, L2, hb2⟩; have HB2 : Hid (Below w.heap.size w w2) := HB1.out.trans (hb2.mono HB1.out.size); have cF := gFirst_any L2; rw [show ((gFirst (lg0 logName 64) : Nat) : Int) = 1 from rfl] at cF; have cX := gNext_any L2; rw [show (((lg0 logName 64).next : Nat) : Int) = 1 from rfl] at cX; have cS := gSure_any L2; rw [show (((lg0 logName 64).sure : Nat) : Int) = 1 from rfl] at cS; have HL2 : Hid (Ls (fun x => w.heap.size ≤ x) w2 w.heap.size lb w.heap.size (lg0 logName 64) ([], -1, false)) := L2; clear hb2 L2)
    | (go_at_call 15; refine cF.mono ?_; rintro e w3 ⟨rfl, rfl⟩)
    | (go_at_call 17; refine cX.mono ?_; rintro e w3 ⟨rfl, rfl⟩)
    | (go_at_call 18; refine cS.mono ?_; rintro e w3 ⟨rfl, rfl⟩))
  clear cF cX cS
  rename World => W2
  have hBW : w.heap.size ≤ W2.heap.size := HB2.out.size
  have hbA : Below W2.heap.size W2 (W2.alloc (.cells #[.string ⟨#[97]⟩, .string ⟨#[98]⟩] 9)) := (Below.refl _ W2).alloc (Nat.le_refl _) _
  have cA := gAppend_any (Ls.below (Ls.tight HL2.out) hbA) (Gv.below HV.out (HB2.out.trans (hbA.mono hBW))) (fun x hx => hx.1) (two_strs W2) (fun _ b o m c e hx => by cases e; have := hx.2; simp at this) (by decide)
  rw [hr1, p1] at cA
  have HA : Hid (Below w.heap.size w (W2.alloc (.cells #[.string ⟨#[97]⟩, .string ⟨#[98]⟩] 9))) := HB2.out.trans (hbA.mono hBW)
  clear hbA
  refine cA.mono ?_
  rintro e w4 ⟨rfl, h4⟩
  have HL4 : Hid (Ls (fun x => w.heap.size ≤ x) w4 w.heap.size lb w.heap.size r1.2.1 r1.2.2) := h4.1.mono (fun x hx => hx.elim (fun h => h.1) (Nat.le_trans HA.out.size))
  have HB4 : Hid (Below w.heap.size w w4) := HA.out.trans (h4.2.below HA.out.size (fun k hk hx => by have := hx.1; omega))
  have cX := gNext_any HL4.out
  have cS := gSure_any HL4.out
  rw [p2] at cX
  rw [p3] at cS
  have cF := gFlush_b HL4.out
  rw [hr2, p4] at cF
  clear h4 cA
  go_wp2_with (first
    | (go_at_call 17; refine cX.mono ?_; rintro e w5 ⟨rfl, rfl⟩)
    | (go_at_call 18; refine cS.mono ?_; rintro e w6 ⟨rfl, rfl⟩)
    | (go_at_call 25; refine cF.mono ?_; rintro e w7 ⟨rfl, hb7, h7⟩; have HB7 : Hid (Below w.heap.size w w7) := HB4.out.trans hb7; have HL7 : Hid (Ls (fun x => w.heap.size ≤ x) w7 w.heap.size lb w.heap.size r2.2.1 r2.2.2) := h7; have cR := gRead_any (pos := 2) h7; rw [p6] at cR; simp only at cR; rw [show S [98] = ⟨#[98]⟩ from rfl] at cR; clear hb7 h7)
    | (go_at_call 27; refine cR.mono ?_; rintro e w8 ⟨rfl, hb8⟩; have HB8 : Hid (Below w.heap.size w w8) := HB7.out.trans (hb8.mono HB7.out.size); have cZ := gSure_any (Ls.below HL7.out hb8); rw [p5] at cZ; clear hb8 cX cS)
    | (go_at_call 18; refine cZ.mono ?_; rintro e w9 ⟨rfl, rfl⟩))
  go_ret
  refine ⟨?_, HB8.out⟩
  rfl
end Go.Proofs.YteifkkceldlfnaaGreatDoor

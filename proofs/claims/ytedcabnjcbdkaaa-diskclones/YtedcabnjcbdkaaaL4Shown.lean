/-
  Package disk: the document's example.
-/
import Derived.Test.YtedcabnjcbdkaaaL4St
namespace Go.Proofs.Ytedcabnjcbdkaaa
open Go.RowKit Go.Shelf Go.Sort
open Go.Lib hiding intOf

def sA : ByteArray := ⟨#[97]⟩
def f1 (s r : ByteArray) : List Fil := [(⟨#[97]⟩, s, r)]
theorem ex1 : aApp ([], -1, false) ⟨#[97]⟩ ⟨#[120, 121]⟩ = (0, f1 ⟨#[]⟩ ⟨#[120, 121]⟩, -1, false) := by kernel_rfl
theorem ex2 : aSync (f1 ⟨#[]⟩ ⟨#[120, 121]⟩, -1, false) ⟨#[97]⟩ = (0, f1 ⟨#[120, 121]⟩ ⟨#[]⟩, -1, false) := by kernel_rfl
theorem ex3 : aApp (f1 ⟨#[120, 121]⟩ ⟨#[]⟩, -1, false) ⟨#[97]⟩ ⟨#[122]⟩ = (0, f1 ⟨#[120, 121]⟩ ⟨#[122]⟩, -1, false) := by kernel_rfl
theorem ex4 : aCrash (f1 ⟨#[120, 121]⟩ ⟨#[122]⟩, -1, false) [] = (f1 ⟨#[120, 121]⟩ ⟨#[]⟩, -1, false) := by kernel_rfl
theorem ex5 : aRead (f1 ⟨#[120, 121]⟩ ⟨#[]⟩, -1, false) ⟨#[97]⟩ = (⟨#[120, 121]⟩, 0) := by kernel_rfl
theorem ex6 : aPow (f1 ⟨#[120, 121]⟩ ⟨#[]⟩, -1, false) 1 = (f1 ⟨#[120, 121]⟩ ⟨#[]⟩, 1, false) := by kernel_rfl
theorem ex7 : aApp (f1 ⟨#[120, 121]⟩ ⟨#[]⟩, 1, false) ⟨#[97]⟩ ⟨#[113]⟩ = (0, f1 ⟨#[120, 121]⟩ ⟨#[113]⟩, 0, false) := by kernel_rfl
theorem ex8 : aSync (f1 ⟨#[120, 121]⟩ ⟨#[113]⟩, 0, false) ⟨#[97]⟩ = (7, f1 ⟨#[120, 121]⟩ ⟨#[113]⟩, 0, true) := by kernel_rfl
theorem ex9 : aRead (f1 ⟨#[120, 121]⟩ ⟨#[113]⟩, 0, true) ⟨#[97]⟩ = (⟨#[]⟩, 7) := by kernel_rfl
theorem sz97 : (⟨#[97]⟩ : ByteArray).size ≤ 9223372036854775807 := by decide

set_option maxRecDepth 100000 in
set_option maxHeartbeats 8000000 in
theorem shown_any (w : World) : Calls Try.prog 9 #[] w fun e w' => e = .returned (.bool true) ∧ Below w.heap.size w w' := by
  obtain ⟨B, hB⟩ : ∃ B, B = w.heap.size := ⟨_, rfl⟩
  rw [← hB]
  have hN := sNew B w (Nat.le_of_eq hB)
  rw [← hB] at hN
  clear hB
  go_enter Try.func9, Try.ntmps9
  go_wp2_with (first
    | (go_at_call 10; refine hN.mono ?_; rintro e w1 ⟨rfl, S1, B1⟩; have HB1 : Hid (Below B w w1 ∧ True) := ⟨B1, trivial⟩; have c1 := sApp S1 ⟨#[97]⟩ ⟨#[120, 121]⟩ sz97; rw [ex1] at c1; clear S1 B1 hN)
    | (go_at_call 19; refine c1.mono ?_; rintro e w2 ⟨rfl, S2, B2⟩; have HB2 : Hid (Below B w w2 ∧ True) := ⟨HB1.out.1.trans B2.1, trivial⟩; have c2 := sSync S2 ⟨#[97]⟩ sz97; rw [ex2] at c2; clear S2 B2 c1 HB1)
    | (go_at_call 20; refine c2.mono ?_; rintro e w3 ⟨rfl, S3, B3⟩; have HB3 : Hid (Below B w w3 ∧ True) := ⟨HB2.out.1.trans B3.1, trivial⟩; have c3 := sApp S3 ⟨#[97]⟩ ⟨#[122]⟩ sz97; rw [ex3] at c3; clear S3 B3 c2 HB2)
    | (go_at_call 19; refine c3.mono ?_; rintro e w4 ⟨rfl, S4, B4⟩; have HB4 : Hid (Below B w w4 ∧ True) := ⟨HB3.out.1.trans B4.1, trivial⟩; have c4 := sCrash S4 (ka := none) (ks := []) (kc := 0) (fun j hj => by cases hj) (fun a e => by cases e); rw [ex4] at c4; clear S4 B4 c3 HB3)
    | (go_at_call 21; refine c4.mono ?_; rintro e w5 ⟨⟨x5, rfl⟩, S5, B5⟩; have HB5 : Hid (Below B w w5 ∧ True) := ⟨HB4.out.1.trans B5.1, trivial⟩; have c5 := sRead S5 ⟨#[97]⟩ sz97; rw [ex5] at c5; have c6 := sPower S5 1 (by decide); rw [ex6] at c6; clear S5 B5 c4 HB4)
    | (go_at_call 22; refine c5.mono ?_; rintro e w6 ⟨rfl, rfl⟩; clear c5)
    | (go_at_call 26; refine c6.mono ?_; rintro e w7 ⟨⟨x7, rfl⟩, S7, B7⟩; have HB7 : Hid (Below B w w7 ∧ True) := ⟨HB5.out.1.trans B7.1, trivial⟩; have c7 := sApp S7 ⟨#[97]⟩ ⟨#[113]⟩ sz97; rw [ex7] at c7; clear S7 B7 c6 HB5)
    | (go_at_call 19; refine c7.mono ?_; rintro e w8 ⟨rfl, S8, B8⟩; have HB8 : Hid (Below B w w8 ∧ True) := ⟨HB7.out.1.trans B8.1, trivial⟩; have c8 := sSync S8 ⟨#[97]⟩ sz97; rw [ex8] at c8; clear S8 B8 c7 HB7)
    | (go_at_call 20; refine c8.mono ?_; rintro e w9 ⟨rfl, S9, B9⟩; have HB9 : Hid (Below B w w9 ∧ True) := ⟨HB8.out.1.trans B9.1, trivial⟩; have c9 := sRead S9 ⟨#[97]⟩ sz97; rw [ex9] at c9; have c10 := sOff S9; clear S9 B9 c8 HB8)
    | (go_at_call 22; refine c9.mono ?_; rintro e w10 ⟨rfl, rfl⟩; clear c9)
    | (go_at_call 18; refine c10.mono ?_; rintro e w11 ⟨rfl, rfl⟩; clear c10))
  go_ret
  exact ⟨rfl, HB9.out.1⟩
end Go.Proofs.Ytedcabnjcbdkaaa

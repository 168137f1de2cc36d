/-
  The head of all statements of layer 9, shown: the document's examples come out true.
-/
import Derived.Test.YtnelekbaniljkaaDoorV9Put
import Derived.Test.YtnelekbaniljkaaDoorV9Shw
namespace Go.Proofs.YtnelekbaniljkaaDoor
open Go.RowKit Go.Shelf Go.Sort
open Go.Lib hiding intOf

theorem vk_small (a b : Int) (s : List UInt8) (h1 : 0 ≤ a ∧ a ≤ 1000) (h2 : 0 ≤ b ∧ b ≤ 1000) (h3 : s.length ≤ 1000) : Vk (a, b, s) := ⟨⟨by simp only; omega, by simp only; omega⟩, ⟨by simp only; omega, by simp only; omega⟩, by simp only; omega⟩
theorem e9a : bytV (1, 3, []) = [1, 6] := by
  have h : bytV (1, 3, []) = 1 :: Lib.uvarint (Lib.zigzag 3) := by unfold bytV; rw [if_pos (by decide), if_neg (by decide)]; rfl
  rw [h, show Lib.zigzag 3 = 6 from rfl, Lib.uvarint_small (by omega)]
  rfl
theorem e9b : shw (3, 0, [97, 34, 98]) = [34, 97, 92, 34, 98, 34] := by decide
def xx1 : List Vr := [(⟨#[120]⟩, 1, 1, [])]
def xx2 : List Vr := [(⟨#[97]⟩, 1, 2, []), (⟨#[120]⟩, 1, 1, [])]
theorem e9c : putV [] ⟨#[120]⟩ (1, 1, []) = (xx1, 0) := by decide +kernel
theorem e9d : putV xx1 ⟨#[97]⟩ (1, 2, []) = (xx2, 0) := by decide +kernel
theorem sm_xx1 : Sm9 xx1 := by
  intro x hx
  simp only [xx1, List.mem_singleton] at hx
  subst hx
  exact ⟨by decide, vk_small _ _ _ ⟨by omega, by omega⟩ ⟨by omega, by omega⟩ (by simp)⟩
theorem show9a (w : World) : Calls Tryd.prog 12 #[.agg #[.int .i64 1, .int .i64 3, .string ⟨#[]⟩]] w fun e w' => e = .returned (.string ⟨#[1, 6]⟩) ∧ Below w.heap.size w w' := by
  have h := Bytes_any (1, 3, []) (vk_small _ _ _ ⟨by omega, by omega⟩ ⟨by omega, by omega⟩ (by simp)) w
  rw [e9a] at h
  exact h
theorem show9b {w : World} {B : Nat} (hg : Gv B w) (hB : B ≤ w.heap.size) : Calls Tryd.prog 14 #[.agg #[.int .i64 3, .int .i64 0, .string ⟨#[97, 34, 98]⟩]] w fun e w' => e = .returned (.string ⟨#[34, 97, 92, 34, 98, 34]⟩) ∧ Below w.heap.size w w' := by
  have h := Show_any (3, 0, [97, 34, 98]) (vk_small _ _ _ ⟨by omega, by omega⟩ ⟨by omega, by omega⟩ (by simp)) hg hB
  rw [e9b] at h
  exact h
theorem show9c (w : World) : Calls Tryd.prog 24 #[.slice none 0 0, .string ⟨#[120]⟩, .agg #[.int .i64 1, .int .i64 1, .string ⟨#[]⟩]] w fun e w' => ∃ v', e = .returned (.tuple #[v', .int .i64 0]) ∧ Vs w' v' xx1 ∧ Below w.heap.size w w' := by
  have h := Put_any ⟨#[120]⟩ (1, 1, []) (Vs.nil w) (by simp) (fun x hx => by cases hx) (by decide)
  unfold PuR at h
  rw [e9c] at h
  exact h
theorem show9d {w : World} {v : Value} (hv : Vs w v xx1) : Calls Tryd.prog 24 #[v, .string ⟨#[97]⟩, .agg #[.int .i64 1, .int .i64 2, .string ⟨#[]⟩]] w fun e w' => ∃ v', e = .returned (.tuple #[v', .int .i64 0]) ∧ Vs w' v' xx2 ∧ Below w.heap.size w w' := by
  have h := Put_any ⟨#[97]⟩ (1, 2, []) hv (by decide) sm_xx1 (by decide)
  unfold PuR at h
  rw [e9d] at h
  exact h

set_option maxHeartbeats 2000000 in
set_option maxRecDepth 100000 in
theorem shown9_any {w : World} {B : Nat} (hg : Gv B w) (hB : B ≤ w.heap.size) : Calls Tryd.prog 5 #[] w fun e w' => e = .returned (.bool true) ∧ Below w.heap.size w w' := by
  have HG : Hid (∀ W, Below w.heap.size w W → Gv B W ∧ B ≤ W.heap.size) := fun W hW => ⟨hg.below (hW.mono hB), Nat.le_trans hB hW.size⟩
  have CN := Named_any ⟨#[97, 110, 100]⟩ (by decide)
  rw [show namV (⟨#[97, 110, 100]⟩ : ByteArray).data.toList = false from by decide] at CN
  clear hg
  go_enter Tryd.func5, Tryd.ntmps5
  go_wp2_with (first
    | (go_at_call 12; refine (show9a _).mono ?_; rintro e w1 ⟨rfl, b1⟩; have B1 : Hid (Below w.heap.size w w1) := b1; clear b1)
    | (go_at_call 14; refine (show9b (HG.out w1 B1.out).1 (HG.out w1 B1.out).2).mono ?_; rintro e w2 ⟨rfl, b2⟩; have B2 : Hid (Below w.heap.size w w2) := bel_of B1.out b2 (Nat.le_refl _); clear b2 HG)
    | (go_at_call_of 24 (Value.string ⟨#[120]⟩); refine (show9c _).mono ?_; rintro e w3 ⟨v3, rfl, h3, b3⟩; (have V3 : Hid (Vs w3 v3 xx1) := h3); (have B3 : Hid (Below w.heap.size w w3) := bel_of B2.out b3 (Nat.le_refl _)); clear b3 h3)
    | (go_at_call_of 24 (Value.string ⟨#[97]⟩); refine (show9d V3.out).mono ?_; rintro e w4 ⟨v4, rfl, h4, b4⟩; obtain ⟨b', off', cap', hsl, hbl, hcell⟩ := h4.at (i := 0) (by decide); subst hsl; (have hl2 : xx2.length = 2 := rfl); rw [hl2]; (have B4 : Hid (Below w.heap.size w w4) := bel_of B3.out b4 (Nat.le_refl _)); (have m0 : w4.cell? ⟨b', off', none⟩ = some (.string ⟨#[97]⟩) := by have := (hcell w4 (Below.refl _ _)).1; simpa [xx2] using this); clear b4 h4 hcell)
    | (go_at_call 8; refine (CN _).mono ?_; rintro e w5 ⟨rfl, hw5⟩; rw [hw5]; clear hw5 w5))
  go_ret
  exact ⟨rfl, B4.out⟩
end Go.Proofs.YtnelekbaniljkaaDoor

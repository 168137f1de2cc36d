/-
  Contracts of package frame's Put and of the document's: the frame's bytes, or that the load is too long.
-/
import Derived.Test.YtiaeicfmdnmeeaaF5Made
import Derived.Test.YtiaeicfmdnmeeaaRefs
import Derived.Deep.RegionHeld3
import Derived.BigQuiet
import Derived.Deep.RegionWith
namespace Go.Proofs.Ytiaeicfmdnmeeaa
open Go.RowKit

theorem bcell {W w1 : World} (hb : Below W.heap.size W w1) : (∀ b o, b < W.heap.size → w1.cell? ⟨b, o, none⟩ = W.cell? ⟨b, o, none⟩) ∧ (∀ b o, b < W.heap.size → w1.frozen? ⟨b, o, none⟩ = W.frozen? ⟨b, o, none⟩) :=
  ⟨fun b o h => hb.cell (p := ⟨b, o, none⟩) h, fun b o h => hb.frozen (p := ⟨b, o, none⟩) h⟩
theorem bel_of {B : Nat} {w W w1 : World} (h : Below B w W) (hb : Below W.heap.size W w1) (hB : B ≤ w.heap.size) : Below B w w1 := h.trans (hb.mono (Nat.le_trans hB h.size))
theorem conv_byte (c : UInt8) (W : World) (b : Nat) (h : W.cell? ⟨b, 0, none⟩ = some (.int .u8 (c.toNat : Int))) :
    (convert 51 9 (.slice (some ⟨b, 0, none⟩) 1 1)).run Try.prog W = .ok (.string (S [c])) W := by
  refine run_convert_bytes_back W 51 9 5 ⟨b, 0, none⟩ 1 [c] Try.underlying51 Try.underlying5 Try.underlying9 (fun j hj => ?_)
  have hj0 : j = 0 := by simpa using hj
  subst hj0
  rw [Addr.add_lit]
  simpa using h

set_option maxHeartbeats 400000 in
theorem Put_long (k : UInt8) (l : List UInt8) (h : 65536 < l.length) (hl : l.length ≤ 9223372036854775800) (w : World) :
    Calls Try.prog 61 #[.int .u8 (k.toNat : Int), .string (S l)] w fun e w' => e = .returned (.tuple #[.string ⟨#[]⟩, .int .i64 13]) ∧ w' = w := by
  have hs := S_size l
  have h' : (65536 : Int) < (l.length : Int) := by omega
  go_enter Try.func61, Try.ntmps61
  go_wp2
  go_ret2
  exact ⟨rfl, rfl⟩

set_option maxHeartbeats 4000000 in
set_option maxRecDepth 100000 in
theorem Put_any (k : UInt8) (l : List UInt8) (h : l.length ≤ 65536) (w : World) :
    Calls Try.prog 61 #[.int .u8 (k.toNat : Int), .string (S l)] w fun e w' => e = .returned (.tuple #[.string (S (frm k l)), .int .i64 0]) ∧ Below w.heap.size w w' := by
  have hs := S_size l
  have h' : ¬ (65536 : Int) < (l.length : Int) := by omega
  have hcv := conv_byte k
  have hl4 := sumOf_lt (k :: txt l)
  have htl : (k :: txt l).length ≤ 65560 := by
    have := Lib.uvarint_length64 (show l.length < 18446744073709551616 by omega)
    simp [txt]; omega
  have hz1 : (S [k]).size = 1 := S_size [k]
  have hz2 := S_size (txt l)
  have hz3 := S_size (k :: txt l)
  have hz4 : (S (four (sumOf (k :: txt l)))).size = 4 := S_size _
  have htl2 : (txt l).length ≤ 65559 := by simp at htl; omega
  have hap : S [k] ++ S (txt l) = S (k :: txt l) := S_append [k] (txt l)
  have hap2 : S (four (sumOf (k :: txt l))) ++ S (k :: txt l) = S (frm k l) := S_append _ _
  go_enter Try.func61, Try.ntmps61
  go_wp2_with fail
  go_region_with (first | (go_at_call 60; refine (Text_any l (by omega) _).mono ?_; rintro e w1 ⟨rfl, hb⟩; obtain ⟨hc, hf⟩ := bcell hb))
  all_goals
    have hB : Below w.heap.size w w1 := by
      have h0 : Below w.heap.size w w := Below.refl _ _
      first
        | exact bel_of h0.drew hb (Nat.le_refl _)
        | exact bel_of (h0.alloc (Nat.le_refl _) _).drew hb (Nat.le_refl _)
    have HB : Hid (Below w.heap.size w w1) := hB
    clear hb hB
    go_wp2_with (first
      | (go_at_call 74; refine (Sum_any _ (by omega) _).mono ?_; rintro e w2 ⟨rfl, h2⟩)
      | (go_at_call 69; refine (written_any _ hl4 _).mono ?_; rintro e w3 ⟨rfl, h3⟩))
    go_ret2
    first
      | exact ⟨rfl, bel_of (bel_of HB.out h2 (Nat.le_refl _)) h3 (Nat.le_refl _)⟩
      | exact ⟨rfl, bel_of (bel_of (HB.out.alloc HB.out.size _) h2 (Nat.le_refl _)) h3 (Nat.le_refl _)⟩

set_option maxHeartbeats 400000 in
theorem rPut_long (k : UInt8) (l : List UInt8) (h : 65536 < l.length) (hl : l.length ≤ 9223372036854775800) (w : World) :
    Calls Try.prog 19 #[.int .u8 (k.toNat : Int), .string (S l)] w fun e w' => e = .returned (.tuple #[.string ⟨#[]⟩, .int .i64 13]) ∧ w' = w := by
  have hs := S_size l
  have h' : (65536 : Int) < (l.length : Int) := by omega
  go_enter Try.func19, Try.ntmps19
  go_wp2
  go_ret2
  exact ⟨rfl, rfl⟩

set_option maxHeartbeats 4000000 in
set_option maxRecDepth 100000 in
theorem rPut_any (k : UInt8) (l : List UInt8) (h : l.length ≤ 65536) (w : World) :
    Calls Try.prog 19 #[.int .u8 (k.toNat : Int), .string (S l)] w fun e w' => e = .returned (.tuple #[.string (S (frm k l)), .int .i64 0]) ∧ Below w.heap.size w w' := by
  have hs := S_size l
  have h' : ¬ (65536 : Int) < (l.length : Int) := by omega
  have hcv := conv_byte k
  have hl4 := sumOf_lt (k :: txt l)
  have htl : (k :: txt l).length ≤ 65560 := by
    have := Lib.uvarint_length64 (show l.length < 18446744073709551616 by omega)
    simp [txt]; omega
  have hz1 : (S [k]).size = 1 := S_size [k]
  have hz2 := S_size (txt l)
  have hz3 := S_size (k :: txt l)
  have hz4 : (S (four (sumOf (k :: txt l)))).size = 4 := S_size _
  have htl2 : (txt l).length ≤ 65559 := by simp at htl; omega
  have hap : S [k] ++ S (txt l) = S (k :: txt l) := S_append [k] (txt l)
  have hap2 : S (four (sumOf (k :: txt l))) ++ S (k :: txt l) = S (frm k l) := S_append _ _
  go_enter Try.func19, Try.ntmps19
  go_wp2_with fail
  go_region_with (first | (go_at_call 21; refine (refText_any l (by omega) _).mono ?_; rintro e w1 ⟨rfl, hb⟩; obtain ⟨hc, hf⟩ := bcell hb))
  all_goals
    have hB : Below w.heap.size w w1 := by
      have h0 : Below w.heap.size w w := Below.refl _ _
      first
        | exact bel_of h0.drew hb (Nat.le_refl _)
        | exact bel_of (h0.alloc (Nat.le_refl _) _).drew hb (Nat.le_refl _)
    have HB : Hid (Below w.heap.size w w1) := hB
    clear hb hB
    go_wp2_with (first
      | (go_at_call 38; refine (rSum_any _ (by omega) _).mono ?_; rintro e w2 ⟨rfl, rfl⟩)
      | (go_at_call 37; refine (rFour_any _ hl4 _).mono ?_; rintro e w3 ⟨rfl, h3⟩))
    go_ret2
    first
      | exact ⟨rfl, bel_of HB.out h3 (Nat.le_refl _)⟩
      | exact ⟨rfl, bel_of (HB.out.alloc HB.out.size _) h3 (Nat.le_refl _)⟩
end Go.Proofs.Ytiaeicfmdnmeeaa

/-
  Package run: a row's bytes (putCell), and four bytes of a number (length).
-/
import Derived.Test.YtiaeicfmdnmeeaaH7Chk
import Derived.Deep.AppendLies
import Derived.Deep.RegionLaw
namespace Go.Proofs.Ytiaeicfmdnmeeaa
open Go.RowKit Go.Shelf Go.Sort
open Go.Lib hiding intOf

set_option maxHeartbeats 4000000 in
set_option maxRecDepth 100000 in
theorem putCell_any (x : R7) (h1 : x.1.length ≤ 64) (h2 : x.2.1.length ≤ 16384) (w : World) :
    Calls Try.prog 53 (encc x) w fun e w' => e = .returned (.string (S (rb x))) ∧ Below w.heap.size w w' := by
  obtain ⟨k, s, g⟩ := x
  simp only at h1 h2
  have hz1 := S_size (txt k)
  have hz2 := S_size (txt s)
  have hz3 := S_size (txt k ++ [mark g])
  have hm1 : (S [mark g]).size = 1 := S_size _
  have l1 : (txt k).length ≤ 100 := by
    have := Lib.uvarint_length64 (show k.length < 18446744073709551616 by omega)
    rw [txt_length]; omega
  have l2 : (txt s).length ≤ 16400 := by
    have := Lib.uvarint_length64 (show s.length < 18446744073709551616 by omega)
    rw [txt_length]; omega
  have l3 : (txt k ++ [mark g]).length ≤ 101 := by simp; omega
  have a1 : S (txt k) ++ S [mark g] = S (txt k ++ [mark g]) := S_append _ _
  have a2 : S (txt k ++ [mark g]) ++ S (txt s) = S (rb (k, s, g)) := by rw [S_append]; simp [rb]
  have hcv := conv_byte (mark g)
  have n1 : ¬ 9223372036854775807 < (txt k).length + 1 := by omega
  have n2 : ¬ 9223372036854775807 < (txt k).length + 1 + (txt s).length := by omega
  have B0 : Hid (Below w.heap.size w (w.alloc (.cells #[.string (S s), .bool g] 37))) := (Below.refl _ w).alloc (Nat.le_refl _) _
  have C0 : Hid ((w.alloc (.cells #[.string (S s), .bool g] 37)).cell? ⟨w.heap.size, 0, none⟩ = some (.string (S s))) := by show _ = _; go_simp
  unfold encc cv
  cases g with
  | true =>
    have hg : ((mark true).toNat : Int) = 1 := rfl
    rw [hg] at hcv
    generalize mark true = mg at *
    clear hg
    go_enter Try.func53, Try.ntmps53
    go_wp2_with fail
    obtain ⟨W, hW⟩ : ∃ W, W = w.alloc (.cells #[.string (S s), .bool true] 37) := ⟨_, rfl⟩
    rw [← hW] at B0 C0 ⊢
    have hsW : W.heap.size = w.heap.size + 1 := by rw [hW]; simp
    have c0 := C0.out
    have c0' := cell?_alloc_some (.cells #[.int .u8 1] 5) c0
    have c1' : (W.alloc (.cells #[.int .u8 1] 5)).cell? ⟨w.heap.size + 1, 0, none⟩ = some (.int .u8 1) := by rw [← hsW]; go_simp
    clear hW C0
    go_region_law (first
      | (go_simp; go_at_call_of 60 (Value.string (S k)); refine (Text_any k (by omega) (World.drew (W.alloc (.cells #[.int .u8 1] 5)))).mono ?_; rintro e w1 ⟨rfl, hb1⟩; dsimp only; have d1 := (hb1.cell (p := ⟨w.heap.size, 0, none⟩) (by simp; omega)).trans (show _ = some (.string (S s)) from c0'); have q1 := hb1.size; have d6 := (hb1.cell (p := ⟨w.heap.size + 1, 0, none⟩) (by simp; omega)).trans (show _ = some (.int .u8 1) from c1'); (have e1 : w.heap.size + 1 < w1.heap.size := by simp at q1; omega))
      | (go_simp; go_at_call_of 60 (Value.string (S k)); refine (Text_any k (by omega) (World.drew W)).mono ?_; rintro e w1 ⟨rfl, hb1⟩; dsimp only; have d1 := (hb1.cell (p := ⟨w.heap.size, 0, none⟩) (by simp; omega)).trans (show _ = some (.string (S s)) from c0); have q1 := hb1.size; obtain ⟨hc1, hf1⟩ := bcell hb1; (have d3 : (w1.alloc (.cells #[.int .u8 1] 5)).cell? ⟨w.heap.size, 0, none⟩ = some (.string (S s)) := cell?_alloc_some _ d1))
      | (go_simp; go_at_call 60; refine (Text_any s (by omega) _).mono ?_; rintro e w2 ⟨rfl, hb2⟩; dsimp only; have d7 := (hb2.cell (p := ⟨w.heap.size + 1, 0, none⟩) e1).trans d6; have d2 := (hb2.cell (p := ⟨w.heap.size, 0, none⟩) (by omega)).trans d1)
      | (go_simp; go_at_call 60; refine (Text_any s (by omega) _).mono ?_; rintro e w2 ⟨rfl, hb2⟩; dsimp only; obtain ⟨hc2, hf2⟩ := bcell hb2; (have d2 := (hb2.cell (p := ⟨w.heap.size, 0, none⟩) (by simp; simp at q1; omega)).trans (by first | exact d3 | exact d1))))
    all_goals
      have b1 : Below w.heap.size w w1 := by
        first
          | exact bel_of B0.out.drew hb1 (Nat.le_refl _)
          | exact bel_of (B0.out.alloc B0.out.size _).drew hb1 (Nat.le_refl _)
      have b2 : Below w.heap.size w w2 := by
        first
          | exact bel_of b1 hb2 (Nat.le_refl _)
          | exact bel_of (b1.alloc b1.size _) hb2 (Nat.le_refl _)
      have BB : Hid (Below w.heap.size w w2) := b2
      clear hb1 hb2 b1 b2
      go_wp2
      go_ret
      first
        | exact ⟨rfl, BB.out⟩
        | exact ⟨rfl, BB.out.alloc BB.out.size _⟩
  | false =>
    have hg : ((mark false).toNat : Int) = 0 := rfl
    rw [hg] at hcv
    generalize mark false = mg at *
    clear hg
    go_enter Try.func53, Try.ntmps53
    go_wp2_with fail
    obtain ⟨W, hW⟩ : ∃ W, W = w.alloc (.cells #[.string (S s), .bool false] 37) := ⟨_, rfl⟩
    rw [← hW] at B0 C0 ⊢
    have hsW : W.heap.size = w.heap.size + 1 := by rw [hW]; simp
    have c0 := C0.out
    have c0' := cell?_alloc_some (.cells #[.int .u8 0] 5) c0
    have c1' : (W.alloc (.cells #[.int .u8 0] 5)).cell? ⟨w.heap.size + 1, 0, none⟩ = some (.int .u8 0) := by rw [← hsW]; go_simp
    clear hW C0
    go_region_law (first
      | (go_simp; go_at_call_of 60 (Value.string (S k)); refine (Text_any k (by omega) (World.drew (W.alloc (.cells #[.int .u8 0] 5)))).mono ?_; rintro e w1 ⟨rfl, hb1⟩; dsimp only; have d1 := (hb1.cell (p := ⟨w.heap.size, 0, none⟩) (by simp; omega)).trans (show _ = some (.string (S s)) from c0'); have q1 := hb1.size; have d6 := (hb1.cell (p := ⟨w.heap.size + 1, 0, none⟩) (by simp; omega)).trans (show _ = some (.int .u8 0) from c1'); (have e1 : w.heap.size + 1 < w1.heap.size := by simp at q1; omega))
      | (go_simp; go_at_call_of 60 (Value.string (S k)); refine (Text_any k (by omega) (World.drew W)).mono ?_; rintro e w1 ⟨rfl, hb1⟩; dsimp only; have d1 := (hb1.cell (p := ⟨w.heap.size, 0, none⟩) (by simp; omega)).trans (show _ = some (.string (S s)) from c0); have q1 := hb1.size; obtain ⟨hc1, hf1⟩ := bcell hb1; (have d3 : (w1.alloc (.cells #[.int .u8 0] 5)).cell? ⟨w.heap.size, 0, none⟩ = some (.string (S s)) := cell?_alloc_some _ d1))
      | (go_simp; go_at_call 60; refine (Text_any s (by omega) _).mono ?_; rintro e w2 ⟨rfl, hb2⟩; dsimp only; have d7 := (hb2.cell (p := ⟨w.heap.size + 1, 0, none⟩) e1).trans d6; have d2 := (hb2.cell (p := ⟨w.heap.size, 0, none⟩) (by omega)).trans d1)
      | (go_simp; go_at_call 60; refine (Text_any s (by omega) _).mono ?_; rintro e w2 ⟨rfl, hb2⟩; dsimp only; obtain ⟨hc2, hf2⟩ := bcell hb2; (have d2 := (hb2.cell (p := ⟨w.heap.size, 0, none⟩) (by simp; simp at q1; omega)).trans (by first | exact d3 | exact d1))))
    all_goals
      have b1 : Below w.heap.size w w1 := by
        first
          | exact bel_of B0.out.drew hb1 (Nat.le_refl _)
          | exact bel_of (B0.out.alloc B0.out.size _).drew hb1 (Nat.le_refl _)
      have b2 : Below w.heap.size w w2 := by
        first
          | exact bel_of b1 hb2 (Nat.le_refl _)
          | exact bel_of (b1.alloc b1.size _) hb2 (Nat.le_refl _)
      have BB : Hid (Below w.heap.size w w2) := b2
      clear hb1 hb2 b1 b2
      go_wp2
      go_ret
      first
        | exact ⟨rfl, BB.out⟩
        | exact ⟨rfl, BB.out.alloc BB.out.size _⟩

set_option maxHeartbeats 1000000 in
set_option maxRecDepth 100000 in
theorem length_any (c : Nat) (hc : c < 4294967296) (w : World) :
    Calls Try.prog 62 #[.int .i64 (c : Nat)] w fun e w' => e = .returned (.string (S (four c))) ∧ Below w.heap.size w w' := by
  go_enter Try.func62, Try.ntmps62
  go_wp2
  go_loopw [5] (fun i wr => ∃ k : Nat, k ≤ 4 ∧ i = .int .i64 k ∧ Cl wr w.heap.size 4 .u8 (upTo (fourAt c) k) ∧ Below w.heap.size w wr) (fun i _ => 4 - (intOf i).toNat)
  case atStart =>
    exact ⟨0, by omega, rfl, Cl.new w 4 .u8 _ _ _ rfl, (Below.refl _ _).alloc (Nat.le_refl _) _⟩
  case round =>
    obtain ⟨k, hk, rfl, hC, hB⟩ := hrel
    by_cases hlt : k < 4
    · have hlt' : (k : Int) < 4 := by omega
      have hcc := hC.cell k hlt
      have hf := hC.fro k
      have H : Hid (Cl wr w.heap.size 4 .u8 (upTo (fourAt c) k) ∧ Below w.heap.size w wr) := ⟨hC, hB⟩
      clear hC hB
      go_wp2
      go_roundw
      case rel => exact ⟨k + 1, by omega, by go_num, H.out.1.set hlt (by rw [(upTo_set _ k).1]; simp [fourAt]) (fun j _ => (upTo_set _ k).2 j), H.out.2.setCell (Nat.le_refl _) _⟩
      case measure => simp [intOf]; omega
    · obtain rfl : k = 4 := by omega
      have hcv : (convert 51 9 (.slice (some ⟨w.heap.size, 0, none⟩) 4 4)).run Try.prog wr = .ok (.string (S (four c))) wr :=
        run_convert_bytes_back (P := Try.prog) wr 51 9 5 ⟨w.heap.size, 0, none⟩ 4 (four c) Try.underlying51 Try.underlying5 Try.underlying9 (fun j hj => by
          rw [Addr.add_lit, four_at c hc j hj]
          have hj4 : j < 4 := hj
          have := hC.cell j hj4
          rw [show upTo (fourAt c) 4 j = fourAt c j from if_pos hj4] at this
          simpa using this)
      go_wp2
      go_ret
      exact ⟨rfl, hB⟩
end Go.Proofs.Ytiaeicfmdnmeeaa

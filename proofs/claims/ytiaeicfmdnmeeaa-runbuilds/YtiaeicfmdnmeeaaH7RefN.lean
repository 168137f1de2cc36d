/-
  The document's own Build, of no rows.
-/
import Derived.Test.YtiaeicfmdnmeeaaH7Law
import Derived.Test.YtiaeicfmdnmeeaaF5Ref
namespace Go.Proofs.Ytiaeicfmdnmeeaa
open Go.RowKit Go.Shelf Go.Sort
open Go.Lib hiding intOf
attribute [local go_sem] Oper.semAt_some

theorem uv0 : Lib.uvarint 0 = [0] := by rw [Lib.uvarint_small (by decide)]; rfl
theorem frm0 : (frm 3 [0]).length = 7 := by rw [frm_length]; unfold txt; rw [Lib.uvarint_small (by decide)]; rfl

theorem conv_nil (W : World) : (convert 51 9 (.slice none 0 0)).run Try.prog W = .ok (.string ⟨#[]⟩) W := by kernel_rfl
set_option maxRecDepth 100000 in
set_option maxHeartbeats 4000000 in
theorem refBuild_nil (block : Int) (w : World) :
    Calls Try.prog 7 #[.int .i64 block, .slice none 0 0] w fun e w' => e = .returned (.tuple #[.string (S (bld block []).1), .int .i64 ((bld block []).2 : Int)]) ∧ Below w.heap.size w w' := by
  by_cases h1 : block < 64
  · have hb : bld block [] = ([], 1) := by unfold bld; rw [if_pos (.inl h1)]
    rw [hb]
    go_enter Try.func7, Try.ntmps7
    go_wp2
    exact bodyPost_ret (v := .tuple #[.string ⟨#[]⟩, .int .i64 1]) (by simp [results, Try.results7, go_sem]) rfl ⟨rfl, Below.refl _ _⟩
  · by_cases h2 : 4096 < block
    · have hb : bld block [] = ([], 1) := by unfold bld; rw [if_pos (.inr h2)]
      rw [hb]
      go_enter Try.func7, Try.ntmps7
      go_wp2
      exact bodyPost_ret (v := .tuple #[.string ⟨#[]⟩, .int .i64 1]) (by simp [results, Try.results7, go_sem]) rfl ⟨rfl, Below.refl _ _⟩
    · have HB : Hid (bld block [] = (frm 3 [0] ++ [7, 0, 0, 0], 0)) := by
        show _ = _
        unfold bld
        rw [if_neg (by omega)]
        have hf : flt none [] = 0 := rfl
        have hc : cutB block.toNat [] [] = [] := cutB_nil _
        have hi : ix ([] : List (List R7)) = [0] := by unfold ix ixs; simp [uv0]
        have hr : rn ([] : List (List R7)) = frm 3 [0] ++ [7, 0, 0, 0] := by
          unfold rn tl
          rw [hi, frm0]
          rfl
        rw [hf, hc, hi, hr]
        have := frm0
        rw [if_neg (by simp), if_neg (by simp; omega)]
      have hU : ∀ w : World, Calls Try.prog 20 #[.int .u64 (IntKind.u64.wrap 0)] w fun e w' => e = .returned (.string ⟨#[0]⟩) ∧ Below w.heap.size w w' := fun w => by
        have := refUint_any 0 (by decide) w
        rw [uv0] at this
        exact this
      have hP : ∀ w : World, Calls Try.prog 19 #[.int .u8 3, .string ⟨#[0]⟩] w fun e w' => e = .returned (.tuple #[.string (S (frm 3 [0])), .int .i64 0]) ∧ Below w.heap.size w w' := fun w => rPut_any 3 [0] (by simp) w
      have hcn := conv_nil
      have hap : (⟨#[0]⟩ : ByteArray) ++ ⟨#[]⟩ = ⟨#[0]⟩ := rfl
      have h7 : (S (frm 3 [0])).size = 7 := by rw [S_size, frm0]
      have hcf : ∀ W : World, (convert 51 9 (.slice (some ⟨W.heap.size, 0, none⟩) 4 4)).run Try.prog (W.alloc (.cells #[.int .u8 7, .int .u8 0, .int .u8 0, .int .u8 0] 5)) = .ok (.string (S [7, 0, 0, 0])) (W.alloc (.cells #[.int .u8 7, .int .u8 0, .int .u8 0, .int .u8 0] 5)) := fun W => conv_four W 7 0 0 0 [7, 0, 0, 0] rfl rfl rfl rfl rfl
      have hz : (⟨#[]⟩ : ByteArray) ++ S (frm 3 [0]) = S (frm 3 [0]) := by have := S_append [] (frm 3 [0]); rwa [List.nil_append] at this
      have hw : S (frm 3 [0]) ++ S [7, 0, 0, 0] = S (frm 3 [0] ++ [7, 0, 0, 0]) := S_append _ _
      generalize frm 3 [0] = f at *
      go_enter Try.func7, Try.ntmps7
      rw [HB.out]
      go_wp2
      go_loopw [6] (fun vi wr => vi = .int .i64 0 ∧ wr = w) (fun _ _ => 0)
      case atStart => exact ⟨rfl, rfl⟩
      case round =>
        obtain ⟨rfl, rfl⟩ := hrel
        go_wp2
        go_loopw [8, 9, 10, 11] (fun v8 v9 v10 vi w2 => v8 = .slice none 0 0 ∧ v9 = .slice none 0 0 ∧ v10 = .int .i64 0 ∧ vi = .int .i64 0 ∧ w2 = wr) (fun _ _ _ _ _ => 0)
        case atStart => exact ⟨rfl, rfl, rfl, rfl, rfl⟩
        case round =>
          obtain ⟨rfl, rfl, rfl, rfl, rfl⟩ := hrel
          go_wp2
          go_region_with (first
            | (go_at_call 20; refine (hU _).mono ?_; rintro e w1 ⟨rfl, b1⟩; (have B1 : Hid (Below wr.heap.size wr w1) := bel_of (Below.refl _ wr).drew b1 (Nat.le_refl _)); clear b1)
            | (go_at_call 19; refine (hP _).mono ?_; rintro e w2 ⟨rfl, b2⟩; (have B2 : Hid (Below wr.heap.size wr w2) := bel_of B1.out b2 (Nat.le_refl _)); clear b2))
          all_goals
            go_wp2
            exact bodyPost_ret (v := .tuple #[.string (S (f ++ [7, 0, 0, 0])), .int .i64 0]) (by simp [results, Try.results7, go_sem]) rfl ⟨rfl, B2.out.alloc B2.out.size _⟩
end Go.Proofs.Ytiaeicfmdnmeeaa

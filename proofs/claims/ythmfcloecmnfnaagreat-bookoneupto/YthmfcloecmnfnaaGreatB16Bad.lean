/-
  Activate of a kind that is no name.
-/
import Derived.Test.YthmfcloecmnfnaaGreatB16Act
namespace Go.Proofs.YthmfcloecmnfnaaGreat.f13
open Go.RowKit Go.Shelf Go.Sort
open Go.Lib hiding intOf

open Go.Proofs.YthmfcloecmnfnaaGreat
set_option maxHeartbeats 2000000 in
set_option maxRecDepth 100000 in
theorem act_bad (g : Nat) {kind : List UInt8} (b : ByteArray) (m n : Int) (w : World) (hk : namV kind = false) (hl : kind.length ≤ 4611686018427387904) : Calls Tryz.prog 14 #[.pointer (some ⟨g, 0, none⟩), .string (S kind), .string b, .int .i64 m, .int .i64 n] w fun e w' => e = .returned (.tuple #[.slice none 0 0, .int .i64 1]) ∧ Below w.heap.size w w' := by
  have C1 := Named_S kind hl
  rw [hk] at C1
  have c5 : (((w.alloc (.cells #[.pointer (some ⟨g, 0, none⟩)] 49)).alloc (.cells #[.string b] 9)).alloc (.cells #[.int .i64 m] 2)).cell? ⟨w.heap.size, 0, none⟩ = some (.pointer (some ⟨g, 0, none⟩)) := by go_simp
  obtain ⟨W3, hW3⟩ : ∃ W3, ((w.alloc (.cells #[.pointer (some ⟨g, 0, none⟩)] 49)).alloc (.cells #[.string b] 9)).alloc (.cells #[.int .i64 m] 2) = W3 := ⟨_, rfl⟩
  have hb3 : Below w.heap.size w W3 := by rw [← hW3]; exact (((Below.refl _ w).alloc (Nat.le_refl _) _).alloc (by simp) _).alloc (by simp; omega) _
  rw [hW3] at c5
  have HB : Hid (Below w.heap.size w W3) := hb3
  clear hb3 hk hl
  go_enter Tryz.func14, Tryz.ntmps14
  go_wp2_with (go_at_call 24; (try rw [hW3]); refine (C1 _).mono ?_; rintro e w4 ⟨rfl, hw4⟩; rw [hw4]; clear hw4 w4 C1)
  refine bodyPost_ret (results_tmp2 rfl _ _ _) rfl ?_
  first
  | exact ⟨rfl, HB.out⟩
  | (rw [hW3]; exact ⟨rfl, HB.out⟩)
end Go.Proofs.YthmfcloecmnfnaaGreat.f13

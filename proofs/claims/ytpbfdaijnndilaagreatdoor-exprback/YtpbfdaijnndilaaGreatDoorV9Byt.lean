/-
  A value's bytes: package value's Bytes and the document's.
-/
import Derived.Test.YtpbfdaijnndilaaGreatDoorGValR
import Derived.Test.YtpbfdaijnndilaaGreatDoorRefs
import Derived.Deep.RegionWith
namespace Go.Proofs.YtpbfdaijnndilaaGreatDoor
open Go.RowKit Go.Shelf Go.Sort
open Go.Lib hiding intOf

theorem may_kind {v : V9} (h : mayV v = true) : v.1 = 1 ∨ v.1 = 2 ∨ v.1 = 3 := by
  unfold mayV at h
  split at h
  · exact .inr (.inr (by assumption))
  · rcases (of_decide_eq_true h).2 with h | h
    · exact .inl h
    · exact .inr (.inl h.1)
theorem cat_byte (c : UInt8) (l : List UInt8) : S [c] ++ S l = S (c :: l) := S_append [c] l
theorem conv1 (W : World) (v : Int) (c : UInt8) (hv : (c.toNat : Int) = v) : (convert 141 9 (.slice (some ⟨W.heap.size, 0, none⟩) 1 1)).run Tryz.prog (W.alloc (.cells #[.int .u8 v] 5)) = .ok (.string (S [c])) (W.alloc (.cells #[.int .u8 v] 5)) := conv_one W v c hv

theorem conv_num (v : Int) (c : UInt8) (hv : (c.toNat : Int) = v) (W : World) (b : Nat) (h : W.cell? ⟨b, 0, none⟩ = some (.int .u8 v)) :
    (convert 141 9 (.slice (some ⟨b, 0, none⟩) 1 1)).run Tryz.prog W = .ok (.string (S [c])) W := by
  refine run_convert_bytes_back W 141 9 5 ⟨b, 0, none⟩ 1 [c] Tryz.underlying141 Tryz.underlying5 Tryz.underlying9 (fun j hj => ?_)
  have hj0 : j = 0 := by simpa using hj
  subst hj0
  rw [Addr.add_lit]
  simpa [hv] using h
theorem conv1d (W : World) (v : Int) (c : UInt8) (hv : (c.toNat : Int) = v) : (convert 141 9 (.slice (some ⟨W.heap.size, 0, none⟩) 1 1)).run Tryz.prog ((W.alloc (.cells #[.int .u8 v] 5)).drew) = .ok (.string (S [c])) ((W.alloc (.cells #[.int .u8 v] 5)).drew) :=
  conv_num v c hv _ _ (World.cell?_alloc_new W _ _ _)
theorem bcell9 {W w1 : World} (hb : Below W.heap.size W w1) : (∀ b o, b < W.heap.size → w1.cell? ⟨b, o, none⟩ = W.cell? ⟨b, o, none⟩) ∧ (∀ b o, b < W.heap.size → w1.frozen? ⟨b, o, none⟩ = W.frozen? ⟨b, o, none⟩) :=
  ⟨fun b o h => hb.cell (p := ⟨b, o, none⟩) h, fun b o h => hb.frozen (p := ⟨b, o, none⟩) h⟩

end Go.Proofs.YtpbfdaijnndilaaGreatDoor

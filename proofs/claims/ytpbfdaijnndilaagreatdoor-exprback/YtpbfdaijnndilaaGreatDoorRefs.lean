/-
  Contracts of the document's answer for what is written (wherryref01.Uint, Int, Text, List): the same bytes as those of package wire's contracts; nothing that was there before the call is changed.
-/
import Derived.Test.YtpbfdaijnndilaaGreatDoorGWire
import Derived.Test.YtpbfdaijnndilaaGreatDoorMarked
namespace Go.Proofs.YtpbfdaijnndilaaGreatDoor
open Go.RowKit

theorem conv_one (W : World) (v : Int) (c : UInt8) (hv : (c.toNat : Int) = v) :
    (convert 141 9 (.slice (some ⟨W.heap.size, 0, none⟩) 1 1)).run Tryz.prog (W.alloc (.cells #[.int .u8 v] 5)) = .ok (.string (S [c])) (W.alloc (.cells #[.int .u8 v] 5)) := by
  refine run_convert_bytes_back _ 141 9 5 ⟨W.heap.size, 0, none⟩ 1 [c] Tryz.underlying141 Tryz.underlying5 Tryz.underlying9 (fun j hj => ?_)
  have hj0 : j = 0 := by simpa using hj
  subst hj0
  rw [Addr.add_lit, World.cell?_alloc_at _ _ _ _ (by simp)]
  simp [hv]

theorem S_append (a b : List UInt8) : S a ++ S b = S (a ++ b) := by
  apply ByteArray.ext
  simp [S]

end Go.Proofs.YtpbfdaijnndilaaGreatDoor

/-
  strconv's two errors, as the card lays them.
-/
import Derived.Test.YteifkkceldlfnaaGreatDoorG6Card
import Derived.Test.YteifkkceldlfnaaGreatDoorG6Pos
import Derived.Stop.LaidErr
import Derived.Lib.SmallJoins
namespace Go.Proofs.YteifkkceldlfnaaGreatDoor
open Go.RowKit Go.Shelf Go.Sort
open Go.Lib hiding intOf

theorem star6 : "*" ++ "errors.errorString" = "*errors.errorString" := by decide
theorem rowErr (u : TypeId) (h : Tryz.prog.typeName? 3 u = some "*errors.errorString") : u = 280 :=
  typeName_ptr_named (nm := "errors.errorString") (by rw [star6]; kernel_rfl) (by kernel_rfl) (by decide) u (by rw [star6]; exact h)
theorem ev_of {W : World} (h : laidMetH Tryz.prog laid5 W) : Ev W.heap.size W := by
  have h1 := (laid_plain h).tail.tail.tail
  have cS : Tryz.prog.cellsOf 282 = 1 := by kernel_rfl
  have c9 : Tryz.prog.cellsOf 9 = 1 := by kernel_rfl
  obtain ⟨a0, s0, hv0, _⟩ := laid_sentinel (g := 2) (ti := 184) h1 (by kernel_rfl) (by kernel_rfl) Tryz.underlying184 rowErr Tryz.underlying280 Tryz.underlying282 rfl rfl Tryz.underlying9 cS c9
  obtain ⟨a1, s1, hv1, _⟩ := laid_sentinel (g := 1) (ti := 184) h1.tail (by kernel_rfl) (by kernel_rfl) Tryz.underlying184 rowErr Tryz.underlying280 Tryz.underlying282 rfl rfl Tryz.underlying9 cS c9
  have g0 : Tryz.prog.globalNamed "strconv.ErrRange" = some 2 := by kernel_rfl
  have g1 : Tryz.prog.globalNamed "strconv.ErrSyntax" = some 1 := by kernel_rfl
  exact fun W' hb => ⟨⟨_, _, Go.Joins.var_stays g1 hv1 hb (Nat.le_refl _)⟩, ⟨_, _, Go.Joins.var_stays g0 hv0 hb (Nat.le_refl _)⟩⟩
end Go.Proofs.YteifkkceldlfnaaGreatDoor

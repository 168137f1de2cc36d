/-
  The library's Builder lies in this program; its writers in plain words.
-/
import Derived.Shelf.Strings.BuilderK
import Derived.Test.YtippnkendoghpaaGWire
import Derived.Test.YtippnkendoghpaaROrd
namespace Go.Proofs.Ytippnkendoghpaa
open Go.RowKit Go.Shelf Go.Sort
open Go.Lib hiding intOf

/-- where the library's numbers lie in this program -/
def bldRen : Shelf.Ren := ⟨fun
  | 166 => 37
  | 169 => 38
  | 240 => 55
  | 276 => 78
  | n => n, fun
  | 0 => 0
  | 3 => 3
  | 4 => 4
  | 5 => 5
  | 9 => 9
  | 20 => 20
  | 37 => 71
  | 70 => 70
  | 72 => 73
  | 75 => 79
  | 80 => 74
  | 164 => 108
  | 127 => 104
  | n => n, fun n => n⟩
theorem bld166 : Lays.n166 Try.prog bldRen where
  mixed := by kernel_rfl
  f166 := Try.func37.trans (by kernel_rfl)
  f240 := Try.func55.trans (by kernel_rfl)
  f276 := Try.func78.trans (by kernel_rfl)
  t0 := Try.underlying0
  a0 := Try.isAgg0
  z0 := Try.sizeOf0
  v0 := Try.zeroValue0
  t3 := Try.underlying3
  a3 := Try.isAgg3
  z3 := Try.sizeOf3
  v3 := Try.zeroValue3
  t4 := Try.underlying4
  a4 := Try.isAgg4
  z4 := Try.sizeOf4
  v4 := Try.zeroValue4
  t9 := Try.underlying9
  a9 := Try.isAgg9
  z9 := Try.sizeOf9
  v9 := Try.zeroValue9
  t20 := Try.underlying20
  a20 := Try.isAgg20
  z20 := Try.sizeOf20
  v20 := Try.zeroValue20
  t37 := Try.underlying71
  a37 := Try.isAgg71
  z37 := Try.sizeOf71
  v37 := Try.zeroValue71
  t70 := Try.underlying70
  a70 := Try.isAgg70
  z70 := Try.sizeOf70
  v70 := Try.zeroValue70
  t72 := Try.underlying73
  a72 := Try.isAgg73
  z72 := Try.sizeOf73
  v72 := Try.zeroValue73
  t75 := Try.underlying79
  a75 := Try.isAgg79
  z75 := Try.sizeOf79
  v75 := Try.zeroValue79
  t164 := Try.underlying108
  a164 := Try.isAgg108
  z164 := Try.sizeOf108
  v164 := Try.zeroValue108
theorem bld169 : Lays.n169 Try.prog bldRen where
  mixed := by kernel_rfl
  f169 := Try.func38.trans (by kernel_rfl)
  t0 := Try.underlying0
  a0 := Try.isAgg0
  z0 := Try.sizeOf0
  v0 := Try.zeroValue0
  t3 := Try.underlying3
  a3 := Try.isAgg3
  z3 := Try.sizeOf3
  v3 := Try.zeroValue3
  t9 := Try.underlying9
  a9 := Try.isAgg9
  z9 := Try.sizeOf9
  v9 := Try.zeroValue9
  t37 := Try.underlying71
  a37 := Try.isAgg71
  z37 := Try.sizeOf71
  v37 := Try.zeroValue71
  t70 := Try.underlying70
  a70 := Try.isAgg70
  z70 := Try.sizeOf70
  v70 := Try.zeroValue70
  t72 := Try.underlying73
  a72 := Try.isAgg73
  z72 := Try.sizeOf73
  v72 := Try.zeroValue73
  t127 := Try.underlying104
  a127 := Try.isAgg104
  z127 := Try.sizeOf104
  v127 := Try.zeroValue104
theorem bldX : Builder.Extra Try.prog bldRen := {
  sizeBuilder := by kernel_rfl
  liesBuilder := by kernel_rfl
  t5 := Try.underlying5
  a5 := Try.isAgg5
  z5 := Try.sizeOf5
  v5 := Try.zeroValue5
  infoByte := by kernel_rfl
  cellsByte := by kernel_rfl
  sizeByte := by kernel_rfl
  neB5 := by decide }

/-- the Builder in block b holds l; it and its bytes lie from block B on -/
def Bd9 (w : World) (B b : Nat) (l : List UInt8) : Prop := Lib.IsBuilderF 73 5 B b (Lib.byteCells l) w ∧ B ≤ w.heap.size
theorem Bd9.new (w : World) : Bd9 (w.alloc (.cells #[.pointer none, .slice none 0 0] 73)) w.heap.size w.heap.size [] := ⟨Lib.IsBuilderF.of (Lib.fresh_isBuilder 73 5 w), by simp⟩
theorem Bd9.alloc {w : World} {B b : Nat} {l : List UInt8} (h : Bd9 w B b l) (o : Obj) : Bd9 (w.alloc o) B b l := ⟨h.1.alloc o, by have := h.2; simp; omega⟩
/-- what a writer keeps: all below B, and every block that holds no bytes -/
structure Kp (w w' : World) (B b : Nat) : Prop where
  bel : Below B w w'
  oth : Lib.OthersKept 5 (some b) w w'
theorem BuilderAtF.up9 {T e : TypeId} {B b : Nat} {p : Value} {bs : List Value} {w w' : World} (h : Lib.BuilderAtF T e B b p bs w) (hk : ∀ k, k < w.heap.size → w'.heap[k]? = w.heap[k]?) : Lib.BuilderAtF T e B b p bs w' := by
  obtain ⟨hB, v, hb, hown, hne⟩ := h
  refine ⟨hB, v, (hk b (Array.getElem?_eq_some_iff.1 hb).1).trans hb, ⟨hown.1, ?_⟩, hne⟩
  rcases hown.2 with hn | ⟨g, cap, cur, fz, hv, hbg, hg, rest⟩
  · exact .inl hn
  · exact .inr ⟨g, cap, cur, fz, hv, hbg, (hk g (Array.getElem?_eq_some_iff.1 hg).1).trans hg, rest⟩
theorem Bd9.up {w w' : World} {B b : Nat} {l : List UInt8} (h : Bd9 w B b l) (hb : Below w.heap.size w w') : Bd9 w' B b l :=
  ⟨h.1.elim (fun x => .inl (BuilderAtF.up9 x hb.block)) (fun x => .inr (BuilderAtF.up9 x hb.block)), Nat.le_trans h.2 hb.size⟩
theorem Kp.refl (w : World) (B b : Nat) : Kp w w B b := ⟨Below.refl _ _, Lib.OthersKept.refl _ _ _⟩
theorem Kp.trans {u v w : World} {B b : Nat} (h : Kp u v B b) (k : Kp v w B b) : Kp u w B b := ⟨h.bel.trans k.bel, h.oth.trans k.oth⟩
theorem Kp.up {u v w : World} {B b : Nat} (h : Kp u v B b) (k : Below v.heap.size v w) (hB : B ≤ v.heap.size) : Kp u w B b :=
  ⟨h.bel.trans (k.mono hB), fun i o hi hb ho => (k.block i (Array.getElem?_eq_some_iff.1 (h.oth i o hi hb ho)).1).trans (h.oth i o hi hb ho)⟩
theorem wStr {w : World} {B b : Nat} {l : List UInt8} (h : Bd9 w B b l) (s : List UInt8) (hl : l.length + s.length ≤ 140737488355328) :
    Calls Try.prog 37 #[.pointer (some ⟨b, 0, none⟩), .string (S s)] w fun e w' => e = .returned (.tuple #[.int .i64 (s.length : Int), .nilIface]) ∧ Bd9 w' B b (l ++ s) ∧ Kp w w' B b := by
  refine (Any.Builder_WriteString_k bld166 bldX B b (Lib.byteCells l) (S s) w h.1 (by rw [Lib.byteCells_length, S_size]; exact hl) h.2).mono ?_
  rintro e w' ⟨he, h1, h2, h3⟩
  refine ⟨by rw [he, S_size], ⟨?_, Nat.le_trans h.2 h2.size⟩, h2, h3⟩
  rw [Lib.byteCells_append]
  rw [Lib.strCells_eq, S_list] at h1
  exact .inr h1
theorem bStr {w : World} {B b : Nat} {l : List UInt8} (h : Bd9 w B b l) :
    Calls Try.prog 38 #[.pointer (some ⟨b, 0, none⟩)] w fun e w' => e = .returned (.string (S l)) ∧ Kp w w' B b := by
  refine (Any.Builder_String_any_k bld169 bldX B b l w h.1 h.2).mono ?_
  rintro e w' ⟨he, -, h2, h3⟩
  exact ⟨he, h2, h3⟩
end Go.Proofs.Ytippnkendoghpaa

/-
  The library's Builder lies in this program; its writers in plain words.
-/
import Derived.Shelf.Strings.BuilderK
import Derived.Test.YtnelekbaniljkaaDoorWrites
import Derived.Test.YtnelekbaniljkaaDoorROrd
namespace Go.Proofs.YtnelekbaniljkaaDoor
open Go.RowKit Go.Shelf Go.Sort
open Go.Lib hiding intOf

/-- where the library's numbers lie in this program -/
def bldRen : Shelf.Ren := ⟨fun
  | 166 => 38
  | 167 => 55
  | 169 => 40
  | 240 => 58
  | 276 => 75
  | n => n, fun
  | 0 => 0
  | 3 => 3
  | 4 => 4
  | 5 => 5
  | 9 => 9
  | 20 => 20
  | 37 => 53
  | 70 => 59
  | 72 => 61
  | 75 => 63
  | 80 => 68
  | 164 => 106
  | 127 => 88
  | n => n, fun n => n⟩
theorem bld166 : Lays.n166 Tryd.prog bldRen where
  mixed := by kernel_rfl
  f166 := Tryd.func38.trans (by kernel_rfl)
  f240 := Tryd.func58.trans (by kernel_rfl)
  f276 := Tryd.func75.trans (by kernel_rfl)
  t0 := Tryd.underlying0
  a0 := Tryd.isAgg0
  z0 := Tryd.sizeOf0
  v0 := Tryd.zeroValue0
  t3 := Tryd.underlying3
  a3 := Tryd.isAgg3
  z3 := Tryd.sizeOf3
  v3 := Tryd.zeroValue3
  t4 := Tryd.underlying4
  a4 := Tryd.isAgg4
  z4 := Tryd.sizeOf4
  v4 := Tryd.zeroValue4
  t9 := Tryd.underlying9
  a9 := Tryd.isAgg9
  z9 := Tryd.sizeOf9
  v9 := Tryd.zeroValue9
  t20 := Tryd.underlying20
  a20 := Tryd.isAgg20
  z20 := Tryd.sizeOf20
  v20 := Tryd.zeroValue20
  t37 := Tryd.underlying53
  a37 := Tryd.isAgg53
  z37 := Tryd.sizeOf53
  v37 := Tryd.zeroValue53
  t70 := Tryd.underlying59
  a70 := Tryd.isAgg59
  z70 := Tryd.sizeOf59
  v70 := Tryd.zeroValue59
  t72 := Tryd.underlying61
  a72 := Tryd.isAgg61
  z72 := Tryd.sizeOf61
  v72 := Tryd.zeroValue61
  t75 := Tryd.underlying63
  a75 := Tryd.isAgg63
  z75 := Tryd.sizeOf63
  v75 := Tryd.zeroValue63
  t164 := Tryd.underlying106
  a164 := Tryd.isAgg106
  z164 := Tryd.sizeOf106
  v164 := Tryd.zeroValue106
theorem bld167 : Lays.n167 Tryd.prog bldRen where
  mixed := by kernel_rfl
  f167 := Tryd.func55.trans (by kernel_rfl)
  f240 := Tryd.func58.trans (by kernel_rfl)
  f276 := Tryd.func75.trans (by kernel_rfl)
  t0 := Tryd.underlying0
  a0 := Tryd.isAgg0
  z0 := Tryd.sizeOf0
  v0 := Tryd.zeroValue0
  t4 := Tryd.underlying4
  a4 := Tryd.isAgg4
  z4 := Tryd.sizeOf4
  v4 := Tryd.zeroValue4
  t5 := Tryd.underlying5
  a5 := Tryd.isAgg5
  z5 := Tryd.sizeOf5
  v5 := Tryd.zeroValue5
  t9 := Tryd.underlying9
  a9 := Tryd.isAgg9
  z9 := Tryd.sizeOf9
  v9 := Tryd.zeroValue9
  t20 := Tryd.underlying20
  a20 := Tryd.isAgg20
  z20 := Tryd.sizeOf20
  v20 := Tryd.zeroValue20
  t37 := Tryd.underlying53
  a37 := Tryd.isAgg53
  z37 := Tryd.sizeOf53
  v37 := Tryd.zeroValue53
  t70 := Tryd.underlying59
  a70 := Tryd.isAgg59
  z70 := Tryd.sizeOf59
  v70 := Tryd.zeroValue59
  t72 := Tryd.underlying61
  a72 := Tryd.isAgg61
  z72 := Tryd.sizeOf61
  v72 := Tryd.zeroValue61
  t75 := Tryd.underlying63
  a75 := Tryd.isAgg63
  z75 := Tryd.sizeOf63
  v75 := Tryd.zeroValue63
  t164 := Tryd.underlying106
  a164 := Tryd.isAgg106
  z164 := Tryd.sizeOf106
  v164 := Tryd.zeroValue106
theorem bld169 : Lays.n169 Tryd.prog bldRen where
  mixed := by kernel_rfl
  f169 := Tryd.func40.trans (by kernel_rfl)
  t0 := Tryd.underlying0
  a0 := Tryd.isAgg0
  z0 := Tryd.sizeOf0
  v0 := Tryd.zeroValue0
  t3 := Tryd.underlying3
  a3 := Tryd.isAgg3
  z3 := Tryd.sizeOf3
  v3 := Tryd.zeroValue3
  t9 := Tryd.underlying9
  a9 := Tryd.isAgg9
  z9 := Tryd.sizeOf9
  v9 := Tryd.zeroValue9
  t37 := Tryd.underlying53
  a37 := Tryd.isAgg53
  z37 := Tryd.sizeOf53
  v37 := Tryd.zeroValue53
  t70 := Tryd.underlying59
  a70 := Tryd.isAgg59
  z70 := Tryd.sizeOf59
  v70 := Tryd.zeroValue59
  t72 := Tryd.underlying61
  a72 := Tryd.isAgg61
  z72 := Tryd.sizeOf61
  v72 := Tryd.zeroValue61
  t127 := Tryd.underlying88
  a127 := Tryd.isAgg88
  z127 := Tryd.sizeOf88
  v127 := Tryd.zeroValue88
theorem bldX : Builder.Extra Tryd.prog bldRen := {
  sizeBuilder := by kernel_rfl
  liesBuilder := by kernel_rfl
  t5 := Tryd.underlying5
  a5 := Tryd.isAgg5
  z5 := Tryd.sizeOf5
  v5 := Tryd.zeroValue5
  infoByte := by kernel_rfl
  cellsByte := by kernel_rfl
  sizeByte := by kernel_rfl
  neB5 := by decide }

/-- the Builder in block b holds l; it and its bytes lie from block B on -/
def Bd9 (w : World) (B b : Nat) (l : List UInt8) : Prop := Lib.IsBuilderF 61 5 B b (Lib.byteCells l) w ∧ B ≤ w.heap.size
theorem Bd9.new (w : World) : Bd9 (w.alloc (.cells #[.pointer none, .slice none 0 0] 61)) w.heap.size w.heap.size [] := ⟨Lib.IsBuilderF.of (Lib.fresh_isBuilder 61 5 w), by simp⟩
theorem Bd9.alloc {w : World} {B b : Nat} {l : List UInt8} (h : Bd9 w B b l) (o : Obj) : Bd9 (w.alloc o) B b l := ⟨h.1.alloc o, by have := h.2; simp; omega⟩
/-- what a writer keeps: all below B, and every block that holds no bytes -/
structure Kp (w w' : World) (B b : Nat) : Prop where
  bel : Below B w w'
  oth : Lib.OthersKept 5 (some b) w w'
theorem BuilderAtF.up9 {T e : TypeId} {B b : Nat} {p : Value} {bs : List Value} {w w' : World} (h : Lib.BuilderAtF T e B b p bs w) (hk : ∀ k, k < w.heap.size → w'.heap[k]? = w.heap[k]?) : Lib.BuilderAtF T e B b p bs w' := by
  obtain ⟨hB, v, hb, hown, hne⟩ := h
  refine ⟨hB, v, (hk b (Array.getElem?_eq_some_iff.1 hb).1).trans hb, ⟨hown.1, ?_⟩, hne⟩
  rcases hown.2 with hn | ⟨g, cap, cur, fz, hv, hbg, hg, rest⟩
  · exact .inl hn
  · exact .inr ⟨g, cap, cur, fz, hv, hbg, (hk g (Array.getElem?_eq_some_iff.1 hg).1).trans hg, rest⟩
theorem Bd9.up {w w' : World} {B b : Nat} {l : List UInt8} (h : Bd9 w B b l) (hb : Below w.heap.size w w') : Bd9 w' B b l :=
  ⟨h.1.elim (fun x => .inl (BuilderAtF.up9 x hb.block)) (fun x => .inr (BuilderAtF.up9 x hb.block)), Nat.le_trans h.2 hb.size⟩
theorem Kp.refl (w : World) (B b : Nat) : Kp w w B b := ⟨Below.refl _ _, Lib.OthersKept.refl _ _ _⟩
theorem Kp.trans {u v w : World} {B b : Nat} (h : Kp u v B b) (k : Kp v w B b) : Kp u w B b := ⟨h.bel.trans k.bel, h.oth.trans k.oth⟩
theorem Kp.up {u v w : World} {B b : Nat} (h : Kp u v B b) (k : Below v.heap.size v w) (hB : B ≤ v.heap.size) : Kp u w B b :=
  ⟨h.bel.trans (k.mono hB), fun i o hi hb ho => (k.block i (Array.getElem?_eq_some_iff.1 (h.oth i o hi hb ho)).1).trans (h.oth i o hi hb ho)⟩
theorem wByte {w : World} {B b : Nat} {l : List UInt8} (h : Bd9 w B b l) (c : UInt8) (hl : l.length + 1 ≤ 140737488355328) :
    Calls Tryd.prog 55 #[.pointer (some ⟨b, 0, none⟩), .int .u8 (c.toNat : Int)] w fun e w' => e = .returned .nilIface ∧ Bd9 w' B b (l ++ [c]) ∧ Kp w w' B b := by
  refine (Any.Builder_WriteByte_k bld167 bldX B b (Lib.byteCells l) (c.toNat : Int) w h.1 (by rw [Lib.byteCells_length]; exact hl) h.2).mono ?_
  rintro e w' ⟨he, h1, h2, h3⟩
  refine ⟨he, ⟨?_, Nat.le_trans h.2 h2.size⟩, h2, h3⟩
  rw [Lib.byteCells_append]
  exact .inr h1
theorem wStr {w : World} {B b : Nat} {l : List UInt8} (h : Bd9 w B b l) (s : List UInt8) (hl : l.length + s.length ≤ 140737488355328) :
    Calls Tryd.prog 38 #[.pointer (some ⟨b, 0, none⟩), .string (S s)] w fun e w' => e = .returned (.tuple #[.int .i64 (s.length : Int), .nilIface]) ∧ Bd9 w' B b (l ++ s) ∧ Kp w w' B b := by
  refine (Any.Builder_WriteString_k bld166 bldX B b (Lib.byteCells l) (S s) w h.1 (by rw [Lib.byteCells_length, S_size]; exact hl) h.2).mono ?_
  rintro e w' ⟨he, h1, h2, h3⟩
  refine ⟨by rw [he, S_size], ⟨?_, Nat.le_trans h.2 h2.size⟩, h2, h3⟩
  rw [Lib.byteCells_append]
  rw [Lib.strCells_eq, S_list] at h1
  exact .inr h1
theorem bStr {w : World} {B b : Nat} {l : List UInt8} (h : Bd9 w B b l) :
    Calls Tryd.prog 40 #[.pointer (some ⟨b, 0, none⟩)] w fun e w' => e = .returned (.string (S l)) ∧ Kp w w' B b := by
  refine (Any.Builder_String_any_k bld169 bldX B b l w h.1 h.2).mono ?_
  rintro e w' ⟨he, -, h2, h3⟩
  exact ⟨he, h2, h3⟩
end Go.Proofs.YtnelekbaniljkaaDoor

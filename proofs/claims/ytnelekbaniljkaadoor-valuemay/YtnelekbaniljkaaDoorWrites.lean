/-
  Contracts of package wire's writers (putUint, Uint, unsigned, Int, putText, Text): what is returned is the document's bytes, told by a function on plain numbers; nothing that was there before the call is changed.
-/
import Derived.Test.YtnelekbaniljkaaDoorProg
import Derived.WalkKit
import Derived.WalkSpells
import Derived.Lib.VarintMem
import Derived.Lib.Walk
import Derived.Lib.Zigzag
import Derived.Lib.AppendStr
namespace Go.Proofs.YtnelekbaniljkaaDoor
open Go.RowKit

theorem infoByte : (Tryd.prog.info? 5).map (fun i => (i.zero, i.size, i.bytes)) = some (some (.int .u8 0), 1, 1) := by kernel_rfl

set_option maxHeartbeats 4000000 in
set_option maxRecDepth 100000 in
/-- putUint(b, x): behind b's bytes stand x's. -/
theorem putUint_any (B n x : Nat) (hx : x < 18446744073709551616) (sv : Value) (xs : List Value) (w : World) (hown : w.ownsRow B 5 1 sv n xs) (hBw : B ≤ w.heap.size) (hlim : n + 10 ≤ 140737488355328) :
    Calls Tryd.prog 59 #[sv, .int .u64 x] w fun e w' => ∃ v', e = .returned v' ∧ w'.ownsRow B 5 1 v' (n + (Lib.uvarint x).length) (xs ++ Lib.byteCells (Lib.uvarint x)) ∧ Below B w w' := by
  obtain ⟨i0, hi, hz0, hz1, hz2⟩ := info_parts infoByte
  have hlen := Lib.uvarint_length64 hx
  go_enter Tryd.func59, Tryd.ntmps59
  go_wp2
  go_loopw [0, 1] (fun vb vx wr => ∃ (y : Nat) (pre : List UInt8), vx = .int .u64 y ∧ y ≤ x ∧ Lib.uvarint x = pre ++ Lib.uvarint y ∧ wr.ownsRow B 5 1 vb (n + pre.length) (xs ++ Lib.byteCells pre) ∧ Below B w wr)
    (fun _ vx _ => (intOf vx).toNat)
  case atStart => exact ⟨x, [], rfl, Nat.le_refl _, rfl, by simpa [Lib.byteCells] using hown, Below.refl _ _⟩
  case round =>
    obtain ⟨y, pre, rfl, hy, hsplit, hown1, hnx⟩ := hrel
    have hpl : pre.length + (Lib.uvarint y).length ≤ 10 := by
      have h2 := congrArg List.length hsplit
      rw [List.length_append] at h2
      omega
    have hyp := Lib.uvarint_pos y
    by_cases h128 : 128 ≤ y
    · have hor : bits .or .u8 ((y : Int) % 256) 128 = ((y % 128 + 128 : Nat) : Int) := by
        rw [Lib.u8_or128_any _ (by omega) (by omega)]
        omega
      go_wp2_with (at_builtin; refine wpList_append_own _ rfl _ _ 53 rfl B 5 i0 (.int .u8 0) 1 1 Tryd.underlying53 hi hz0 hz1 hz2 rfl (by decide) _ _ _ rfl (hown1.alloc _) ⟨wr.heap.size, 0, none⟩ 1 1 [Value.int .u8 ((y % 128 + 128 : Nat) : Int)] rfl rfl ?c1 ?c2 ?c3 ?c4 ?c5 ?_)
      case c1 =>
        intro j u hj
        match j, hj with
        | 0, hj => simp at hj; subst hj; simp [Addr.add]
      case c2 => intro u hu; simp at hu; subst hu; rfl
      case c3 => unfold maxLen; omega
      case c4 => omega
      case c5 => have := hnx.size; simp; omega
      intro v' w1 hown' hgrow _
      have hnx1 : Below B w w1 := (hnx.alloc (by have := hnx.size; omega) _).grown hgrow (by have := hnx.size; simp; omega) (fun k hk => (hown1.lt k hk).1)
      go_wp2
      go_roundw
      case rel =>
        refine ⟨y / 128, pre ++ [(y % 128 + 128).toUInt8], by go_num, by omega, by rw [hsplit, Lib.uvarint_big h128]; simp, ?_, hnx1⟩
        have ec : ((y % 128 + 128 : Nat) : Int) = (y : Int) % 128 + 128 := by omega
        rw [Lib.byteCells_snoc pre (by omega), List.length_append, List.length_singleton, ← Nat.add_assoc, ec]
        exact hown'
      case measure => simp [intOf]; omega
    · have hsm : Lib.uvarint y = [y.toUInt8] := Lib.uvarint_small (by omega)
      go_wp2_with (at_builtin; refine wpList_append_own _ rfl _ _ 53 rfl B 5 i0 (.int .u8 0) 1 1 Tryd.underlying53 hi hz0 hz1 hz2 rfl (by decide) _ _ _ rfl (hown1.alloc _) ⟨wr.heap.size, 0, none⟩ 1 1 [Value.int .u8 (y : Int)] rfl rfl ?c1 ?c2 ?c3 ?c4 ?c5 ?_)
      case c1 =>
        intro j u hj
        match j, hj with
        | 0, hj => simp at hj; subst hj; simp [Addr.add]
      case c2 => intro u hu; simp at hu; subst hu; rfl
      case c3 => unfold maxLen; omega
      case c4 => omega
      case c5 => have := hnx.size; simp; omega
      intro v' w1 hown' hgrow _
      have hnx1 : Below B w w1 := (hnx.alloc (by have := hnx.size; omega) _).grown hgrow (by have := hnx.size; simp; omega) (fun k hk => (hown1.lt k hk).1)
      go_wp2
      go_ret
      refine ⟨v', rfl, ?_, hnx1⟩
      rw [hsplit, hsm, Lib.byteCells_snoc pre (by omega), List.length_append, List.length_singleton, ← Nat.add_assoc]
      exact hown'

/-- the string of a list of bytes -/
def S (l : List UInt8) : ByteArray := ⟨l.toArray⟩
theorem S_size (l : List UInt8) : (S l).size = l.length := by simp [S, ByteArray.size]
theorem S_list (l : List UInt8) : (S l).data.toList = l := by simp [S]
theorem S_toList (l : List UInt8) : (S l).toList = l := by simp [S]
theorem S_of (s : ByteArray) : S s.data.toList = s := by cases s; simp [S]

/-- string(b), b a row of the call's own -/
theorem conv_own {B n : Nat} {sv : Value} {l : List UInt8} {w : World} (hown : w.ownsRow B 5 1 sv n (Lib.byteCells l)) :
    (convert 53 9 sv).run Tryd.prog w = .ok (.string (S l)) w := by
  have hl := hown.1
  rw [Lib.byteCells_length, Nat.mul_one] at hl
  subst hl
  rcases hown.2 with ⟨rfl, h0⟩ | ⟨g, cap, cur, rfl, _, _, _, _, _, _⟩
  · have : l = [] := List.length_eq_zero_iff.1 h0
    subst this
    rw [run_convert_bytes_string w 53 9 5 none 0 0 Tryd.underlying53 Tryd.underlying5 Tryd.underlying9]
    simp [Conv.bytesToString, S]
    rfl
  · exact run_convert_bytes_back w 53 9 5 ⟨g, 0, none⟩ cap l Tryd.underlying53 Tryd.underlying5 Tryd.underlying9
      (fun j hj => hown.cells rfl j _ (by simp [Lib.byteCells, hj]))

set_option maxHeartbeats 400000 in
theorem Uint_any (x : Nat) (hx : x < 18446744073709551616) (w : World) :
    Calls Tryd.prog 39 #[.int .u64 x] w fun e w' => e = .returned (.string (S (Lib.uvarint x))) ∧ Below w.heap.size w w' := by
  go_enter Tryd.func39, Tryd.ntmps39
  go_wp2_with fail
  refine (putUint_any w.heap.size 0 x hx _ [] _ (World.ownsRow_nil _ _ _ _) (Nat.le_refl _) (by omega)).mono ?_
  rintro e w1 ⟨v', rfl, hown, hb⟩
  have hcv := conv_own (n := 0 + (Lib.uvarint x).length) (l := Lib.uvarint x) (by simpa using hown)
  go_wp2
  go_ret
  exact ⟨rfl, hb⟩

set_option maxHeartbeats 400000 in
theorem unsigned_any (v : Int) (h1 : -9223372036854775808 ≤ v) (h2 : v ≤ 9223372036854775807) (w : World) :
    Calls Tryd.prog 54 #[.int .i64 v] w fun e w' => e = .returned (.int .u64 (Lib.zigzag v)) ∧ w' = w := by
  by_cases hneg : v < 0
  · have hz := Lib.zigzag_neg h1 hneg
    go_enter Tryd.func54, Tryd.ntmps54
    go_wp2
    go_ret
    exact ⟨by rw [← hz]; rfl, rfl⟩
  · have hz := Lib.zigzag_nonneg (x := v) (by omega)
    go_enter Tryd.func54, Tryd.ntmps54
    go_wp2
    go_ret
    exact ⟨rfl, rfl⟩

set_option maxHeartbeats 400000 in
theorem Int_any (v : Int) (h1 : -9223372036854775808 ≤ v) (h2 : v ≤ 9223372036854775807) (w : World) :
    Calls Tryd.prog 30 #[.int .i64 v] w fun e w' => e = .returned (.string (S (Lib.uvarint (Lib.zigzag v)))) ∧ Below w.heap.size w w' := by
  go_enter Tryd.func30, Tryd.ntmps30
  go_wp2_with fail
  refine (unsigned_any v h1 h2 _).mono ?_
  rintro e w1 ⟨rfl, rfl⟩
  go_wp2_with fail
  refine (Uint_any (Lib.zigzag v) (Lib.zigzag_lt h1 h2) _).mono ?_
  rintro e w1 ⟨rfl, hb⟩
  go_wp2
  go_ret
  exact ⟨rfl, hb⟩

/-- a text's bytes -/
def txt (l : List UInt8) : List UInt8 := Lib.uvarint l.length ++ l

theorem txt_length (l : List UInt8) : (txt l).length = (Lib.uvarint l.length).length + l.length := by simp [txt]

set_option maxHeartbeats 400000 in
theorem putText_any (B n : Nat) (s : List UInt8) (sv : Value) (xs : List Value) (w : World) (hown : w.ownsRow B 5 1 sv n xs) (hBw : B ≤ w.heap.size) (hlim : n + 10 + s.length ≤ 140737488355328) :
    Calls Tryd.prog 53 #[sv, .string (S s)] w fun e w' => ∃ v', e = .returned v' ∧ w'.ownsRow B 5 1 v' (n + (txt s).length) (xs ++ Lib.byteCells (txt s)) ∧ Below B w w' := by
  obtain ⟨i0, hi, hz0, hz1, hz2⟩ := info_parts infoByte
  have hss := S_size s
  have hlt : s.length < 18446744073709551616 := by omega
  have hlen := Lib.uvarint_length64 hlt
  have hm : n + (Lib.uvarint s.length).length + (S s).size ≤ maxLen := by unfold maxLen; omega
  go_enter Tryd.func53, Tryd.ntmps53
  go_wp2_with fail
  refine (putUint_any B n s.length hlt _ xs _ hown hBw (by omega)).mono ?_
  rintro e w1 ⟨v', rfl, hown1, hb⟩
  have hsz := hb.size
  go_wp2_with (at_builtin; refine Lib.wpList_append_own_string _ rfl _ _ 53 9 rfl B 5 i0 Tryd.underlying53 Tryd.underlying9 hi hz0 hz1 hz2 _ _ _ rfl hown1 (S s) rfl hm (by omega) (by omega) ?_)
  intro v2 w2 hown2 hgrow _
  have hb2 : Below B w w2 := hb.grown hgrow (by omega) (fun k hk => (hown1.lt k hk).1)
  clear hown hown1 hgrow hb
  go_wp2
  go_ret
  refine ⟨v2, rfl, ?_, hb2⟩
  rw [Lib.strCells_eq, S_list, ← Lib.byteCells_append, Nat.add_assoc] at hown2
  rw [txt_length]
  exact hown2

set_option maxHeartbeats 400000 in
theorem Text_any (s : List UInt8) (hs : 10 + s.length ≤ 140737488355328) (w : World) :
    Calls Tryd.prog 29 #[.string (S s)] w fun e w' => e = .returned (.string (S (txt s))) ∧ Below w.heap.size w w' := by
  go_enter Tryd.func29, Tryd.ntmps29
  go_wp2_with fail
  refine (putText_any w.heap.size 0 s _ [] _ (World.ownsRow_nil _ _ _ _) (Nat.le_refl _) (by omega)).mono ?_
  rintro e w1 ⟨v', rfl, hown, hb⟩
  have hcv := conv_own (n := 0 + (txt s).length) (l := txt s) (by simpa using hown)
  go_wp2
  go_ret
  exact ⟨rfl, hb⟩

end Go.Proofs.YtnelekbaniljkaaDoor

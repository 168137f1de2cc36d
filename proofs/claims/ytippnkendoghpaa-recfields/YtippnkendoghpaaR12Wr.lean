/-
  Package rec's written: the fields of a record are written one behind the other.
-/
import Derived.Test.YtippnkendoghpaaR12Fld
import Derived.Test.YtippnkendoghpaaV9Vb
namespace Go.Proofs.Ytippnkendoghpaa.r12
open Go.RowKit Go.Shelf Go.Sort
open Go.Lib hiding intOf

/-- a function that is entered like any other -/
def Ent0 (gf : Nat) : Prop := ∀ args w, (callFunc gf args).run Try.prog w = .ok (.enter gf args) w
theorem GW_ent : ∀ j, j < 13 → Ent0 (GW.getD j 0) := fun j h => by
  match j, h with
  | 0, _ => exact fun args w => by kernel_rfl
  | 1, _ => exact fun args w => by kernel_rfl
  | 2, _ => exact fun args w => by kernel_rfl
  | 3, _ => exact fun args w => by kernel_rfl
  | 4, _ => exact fun args w => by kernel_rfl
  | 5, _ => exact fun args w => by kernel_rfl
  | 6, _ => exact fun args w => by kernel_rfl
  | 7, _ => exact fun args w => by kernel_rfl
  | 8, _ => exact fun args w => by kernel_rfl
  | 9, _ => exact fun args w => by kernel_rfl
  | 10, _ => exact fun args w => by kernel_rfl
  | 11, _ => exact fun args w => by kernel_rfl
  | 12, _ => exact fun args w => by kernel_rfl

set_option maxHeartbeats 400000 in
theorem small_wr {w : World} {x rb k : Nat} {v : Int} (hx : w.cell? ⟨x, 0, none⟩ = some (.pointer (some ⟨rb, k, none⟩))) (hv : w.cell? ⟨rb, k, none⟩ = some (.int .i64 v)) (h : 0 ≤ v ∧ v ≤ 255) : Calls Try.prog 56 #[.pointer (some ⟨x, 0, none⟩)] w fun e w' => e = .returned (.string (S [byt v])) ∧ Below w.heap.size w w' := by
  have cv := conv1 w v (byt v) (byt_nat h)
  have h256 : v < 256 := by omega
  have h0 : 0 ≤ v := h.1
  have hw : IntKind.u8.wrap v = v := by
    show v % 256 = v
    omega
  have HB : Hid (Below w.heap.size w (w.alloc (.cells #[.int .u8 v] 5))) := (Below.refl _ _).alloc (Nat.le_refl _) _
  clear h
  go_enter Try.func56, Try.ntmps56
  go_wp2
  go_ret
  exact ⟨rfl, HB.out⟩

set_option maxHeartbeats 400000 in
theorem count_wr {w : World} {x rb k n : Nat} (hx : w.cell? ⟨x, 0, none⟩ = some (.pointer (some ⟨rb, k, none⟩))) (hv : w.cell? ⟨rb, k, none⟩ = some (.int .u64 (n : Int))) (h : n < 18446744073709551616) : Calls Try.prog 59 #[.pointer (some ⟨x, 0, none⟩)] w fun e w' => e = .returned (.string (S (Lib.uvarint n))) ∧ Below w.heap.size w w' := by
  have CU := Uint_any n h w
  clear h
  go_enter Try.func59, Try.ntmps59
  go_wp2_with (go_at_call 60; refine CU.mono ?_; rintro e w1 ⟨rfl, b1⟩; have B1 : Hid (Below w.heap.size w w1) := b1; clear b1)
  go_ret
  exact ⟨rfl, B1.out⟩

set_option maxHeartbeats 400000 in
theorem number_wr {w : World} {x rb k : Nat} {n : Int} (hx : w.cell? ⟨x, 0, none⟩ = some (.pointer (some ⟨rb, k, none⟩))) (hv : w.cell? ⟨rb, k, none⟩ = some (.int .i64 n)) (h : -9223372036854775808 ≤ n ∧ n ≤ 9223372036854775807) : Calls Try.prog 63 #[.pointer (some ⟨x, 0, none⟩)] w fun e w' => e = .returned (.string (S (Lib.uvarint (Lib.zigzag n)))) ∧ Below w.heap.size w w' := by
  have CU := Int_any n h.1 h.2 w
  clear h
  go_enter Try.func63, Try.ntmps63
  go_wp2_with (go_at_call 64; refine CU.mono ?_; rintro e w1 ⟨rfl, b1⟩; have B1 : Hid (Below w.heap.size w w1) := b1; clear b1)
  go_ret
  exact ⟨rfl, B1.out⟩

set_option maxHeartbeats 400000 in
theorem text_wr {w : World} {x rb k : Nat} {s : List UInt8} (hx : w.cell? ⟨x, 0, none⟩ = some (.pointer (some ⟨rb, k, none⟩))) (hv : w.cell? ⟨rb, k, none⟩ = some (.string (S s))) (h : s.length ≤ 10000) : Calls Try.prog 67 #[.pointer (some ⟨x, 0, none⟩)] w fun e w' => e = .returned (.string (S (txt s))) ∧ Below w.heap.size w w' := by
  have CU := Text_any s (by omega) w
  clear h
  go_enter Try.func67, Try.ntmps67
  go_wp2_with (go_at_call 68; refine CU.mono ?_; rintro e w1 ⟨rfl, b1⟩; have B1 : Hid (Below w.heap.size w w1) := b1; clear b1)
  go_ret
  exact ⟨rfl, B1.out⟩

set_option maxHeartbeats 400000 in
theorem list_wr {w : World} {x rb k : Nat} {vv : Value} {l : List Vr} (hx : w.cell? ⟨x, 0, none⟩ = some (.pointer (some ⟨rb, k, none⟩))) (hv : w.cell? ⟨rb, k, none⟩ = some vv) (hl : Vs w vv l) (hn : l.length ≤ 4611686018427387904) (hs : Sm9 l) : Calls Try.prog 71 #[.pointer (some ⟨x, 0, none⟩)] w fun e w' => e = .returned (.string (S (vbs l))) ∧ Below w.heap.size w w' := by
  have CU := Vb_any hl hn hs
  obtain ⟨a, cap, rfl, -⟩ := hl
  clear hs
  go_enter Try.func71, Try.ntmps71
  go_wp2_with (go_at_call 72; refine CU.mono ?_; rintro e w1 ⟨rfl, b1⟩; have B1 : Hid (Below w.heap.size w w1) := b1; clear b1)
  go_ret
  exact ⟨rfl, B1.out⟩

/-- the row in block fb holds closures that write these -/
def Wrs (w : World) (fb : Nat) (ss : List (List UInt8)) : Prop := fb < w.heap.size ∧ ∀ j, j < ss.length → ∃ g h c, Ent0 g ∧ w.cell? ⟨fb, j * 2, none⟩ = some (.func (.func g) #[] c) ∧ w.cell? ⟨fb, j * 2 + 1, none⟩ = some (.func (.func h) #[] c) ∧ ∀ W, Below w.heap.size w W → Calls Try.prog g c W fun e w' => e = .returned (.string (S (ss.getD j []))) ∧ Below W.heap.size W w'
theorem flat_next {ss : List (List UInt8)} {i : Nat} (h : i < ss.length) : (ss.take (i + 1)).flatten = (ss.take i).flatten ++ ss.getD i [] := by
  rw [List.take_succ_eq_append_getElem h, List.flatten_append]
  simp [List.getD, h]
theorem flat_le {ss : List (List UInt8)} {i : Nat} (h : i < ss.length) : ((ss.take i).flatten).length + (ss.getD i []).length ≤ ss.flatten.length := by
  rw [← List.length_append, ← flat_next h]
  have h2 := congrArg List.flatten (List.take_append_drop (i + 1) ss)
  rw [List.flatten_append] at h2
  rw [← h2, List.length_append]
  omega

set_option maxHeartbeats 1000000 in
set_option maxRecDepth 100000 in
theorem written_any {w : World} {fb : Nat} {ss : List (List UInt8)} (hw : Wrs w fb ss) (h13 : ss.length = 13) (hl : ss.flatten.length ≤ 1000000) : Calls Try.prog 18 #[.slice (some ⟨fb, 0, none⟩) 13 13] w fun e w' => e = .returned (.string (S ss.flatten)) ∧ Below w.heap.size w w' := by
  have HW : Hid (Wrs w fb ss) := hw
  have H13 : Hid (ss.length = 13) := h13
  have D1 : Hid (Bd9 (w.alloc (.cells #[.pointer none, .slice none 0 0] 73)) w.heap.size w.heap.size []) := Bd9.new w
  have B0 : Hid (Below w.heap.size w (w.alloc (.cells #[.pointer none, .slice none 0 0] 73))) := (Below.refl _ _).alloc (Nat.le_refl _) _
  have hst0 := fun (u : World) fn c y => st0 u u.heap.size rfl 77 fn c y
  have hst1 := fun (u : World) fn c y => st1 u u.heap.size rfl 77 fn c y
  clear hw h13
  go_enter Try.func18, Try.ntmps18
  go_wp2
  go_loopw [8] (fun v8 wr => ∃ i : Nat, i ≤ 13 ∧ v8 = .int .i64 (i : Int) ∧ Hid (Bd9 wr w.heap.size w.heap.size (ss.take i).flatten ∧ w.heap.size < wr.heap.size ∧ Below w.heap.size w wr)) (fun v8 _ => 13 - (intOf v8).toNat)
  case atStart => exact ⟨0, Nat.zero_le _, rfl, D1.out, by simp, B0.out⟩
  case round =>
    clear D1 B0
    obtain ⟨i, hi, rfl, HB⟩ := hrel
    by_cases hlt : i < 13
    · have hlt' : (i : Int) < 13 := by omega
      have hi0' : (0 : Int) ≤ (i : Int) := by omega
      have his : i < ss.length := by rw [H13.out]; exact hlt
      obtain ⟨g, h, c, ek, c0, c1, CG⟩ := HW.out.2 i his
      have hfb := HW.out.1
      rw [← HB.out.2.2.cell (p := ⟨fb, i * 2, none⟩) hfb] at c0
      rw [← HB.out.2.2.cell (p := ⟨fb, i * 2 + 1, none⟩) hfb] at c1
      have HA : Hid (∀ o, Below w.heap.size w (wr.alloc o)) := fun o => HB.out.2.2.alloc HB.out.2.2.size _
      have HD : Hid (∀ o, Bd9 (wr.alloc o) w.heap.size w.heap.size (ss.take i).flatten) := fun o => HB.out.1.alloc o
      have hz : w.heap.size < wr.heap.size := HB.out.2.1
      have HF : Hid ((ss.take (i + 1)).flatten = (ss.take i).flatten ++ ss.getD i []) := flat_next his
      have hle : ((ss.take i).flatten).length + (ss.getD i []).length ≤ 140737488355328 := by have := flat_le his; omega
      have HG : Hid (∀ W, Below w.heap.size w W → Calls Try.prog g c W fun e w' => e = .returned (.string (S (ss.getD i []))) ∧ Below W.heap.size W w') := CG
      unfold Ent0 at ek
      have hs0 := hst0 wr
      have hs1 := hst1 wr
      clear CG HB hst0 hst1
      generalize ss.getD i [] = t at *
      generalize (ss.take i).flatten = A at *
      go_wp2
      refine (HG.out _ (HA.out _)).mono ?_
      rintro e w2 ⟨rfl, b2⟩
      have D2 : Hid (Bd9 w2 w.heap.size w.heap.size A) := (HD.out _).up b2
      have B2 : Hid (Below w.heap.size w w2) := bel_of (HA.out _) b2 (Nat.le_refl _)
      have hz2 : Hid (w.heap.size < w2.heap.size) := by have h1 := b2.size; rw [World.size_alloc] at h1; exact Nat.lt_of_lt_of_le hz (by omega)
      clear b2 HG HA HD
      go_wp2_with (go_at_call 37; refine (wStr D2.out t hle).mono ?_; rintro e w3 ⟨rfl, h3, k3⟩; (have D3 : Hid (Bd9 w3 w.heap.size w.heap.size (A ++ t)) := h3); (have B3 : Hid (Below w.heap.size w w3) := B2.out.trans k3.bel); (have hz3 : Hid (w.heap.size < w3.heap.size) := Nat.lt_of_lt_of_le hz2.out k3.bel.size); clear h3 k3)
      go_roundw
      case rel => exact ⟨i + 1, by omega, by simp, by rw [HF.out]; exact D3.out, hz3.out, B3.out⟩
      case measure => simp [intOf]; omega
    · obtain rfl : i = 13 := by omega
      have D9 : Hid (Bd9 wr w.heap.size w.heap.size ss.flatten) := by have := HB.out.1; rw [← H13.out, List.take_length] at this; exact this
      have hbw : Hid (Below w.heap.size w wr) := HB.out.2.2
      clear HB hst0 hst1
      go_wp2_with (go_at_call 38; refine (bStr D9.out).mono ?_; rintro e w3 ⟨rfl, k3⟩; (have H3 : Hid (Below w.heap.size w w3) := hbw.out.trans k3.bel); clear k3)
      go_ret
      exact ⟨rfl, H3.out⟩
end Go.Proofs.Ytippnkendoghpaa.r12

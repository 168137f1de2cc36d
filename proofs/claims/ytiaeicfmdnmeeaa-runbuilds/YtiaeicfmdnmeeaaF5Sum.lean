/-
  Contracts of what makes check sums: the document's Sum and its four bytes; package frame's shifted, sums, the function that it makes, Sum, written. Each comes to the plain sum of the text F5Pure.
-/
import Derived.Test.YtiaeicfmdnmeeaaF5Pure
import Derived.Laws.BitsAllLaws
namespace Go.Proofs.Ytiaeicfmdnmeeaa
open Go.RowKit

theorem S_at (l : List UInt8) {k : Nat} (_h : k < l.length) (h' : k < (S l).size) : (S l)[k]'h' = l[k] := by
  show (S l).data[k]'_ = _
  simp [S]
  rfl
theorem byte_snoc (l : List UInt8) {k : Nat} (h : k < l.length) : l.take (k + 1) = l.take k ++ [l[k]] := List.take_succ_eq_append_getElem h
theorem u32_xor (a b : Nat) (ha : a < 4294967296) (hb : b < 4294967296) : bits .xor .u32 (a : Int) (b : Int) = ((a ^^^ b : Nat) : Int) := Go.u32_xor_nat a b ha hb

theorem ret_int {k : IntKind} {a b : Int} (h : a = b) : Ending.returned (.int k a) = .returned (.int k b) := by rw [h]

set_option maxHeartbeats 2000000 in
set_option maxRecDepth 100000 in
theorem rSum_any (l : List UInt8) (hl : l.length ≤ 9223372036854775800) (w : World) :
    Calls Try.prog 38 #[.string (S l)] w fun e w' => e = .returned (.int .u32 (sumOf l : Nat)) ∧ w' = w := by
  have hs := S_size l
  go_enter Try.func38, Try.ntmps38
  go_wp2
  go_loop [3, 4] (fun c i => ∃ k : Nat, k ≤ l.length ∧ i = .int .i64 k ∧ c = .int .u32 (crc 4294967295 (l.take k) : Nat)) (fun _ i => l.length - (intOf i).toNat)
  case atStart => exact ⟨0, Nat.zero_le _, rfl, rfl⟩
  case round =>
    obtain ⟨k, hk, rfl, rfl⟩ := hrel
    by_cases hlt : k < l.length
    · have hli : (k : Int) < (l.length : Int) := by omega
      have hc := crc_lt (l.take k) (c := 4294967295) (by decide)
      have HC : Hid (byt (crc 4294967295 (l.take k)) l[k] = crc 4294967295 (l.take (k + 1))) := by show _ = _; rw [byte_snoc l hlt, crc_snoc]
      have hb : l[k].toNat < 256 := l[k].toNat_lt
      unfold byt at HC
      have hx := u32_xor _ _ hc (by omega : l[k].toNat < 4294967296)
      have hx0 := xor_lt hc (by omega : l[k].toNat < 4294967296)
      have hat : (S l)[k]'(by omega) = l[k] := S_at l hlt _
      generalize crc 4294967295 (l.take k) ^^^ l[k].toNat = x0 at *
      generalize crc 4294967295 (l.take k) = c0 at *
      go_wp2
      go_loop [3, 5] (fun c i => ∃ j : Nat, j ≤ 8 ∧ i = .int .i64 j ∧ c = .int .u32 (sts j x0 : Nat)) (fun _ i => 8 - (intOf i).toNat)
      case atStart => exact ⟨0, by omega, rfl, rfl⟩
      case round =>
        obtain ⟨j, hj, rfl, rfl⟩ := hrel
        have hs0 := sts_lt j hx0
        by_cases hj8 : j < 8
        · have hj8' : (j : Int) < 8 := by omega
          have HN : Hid (sts (j + 1) x0 = st (sts j x0)) := sts_succ j x0
          generalize sts j x0 = c1 at *
          by_cases hodd : c1 % 2 = 1
          · have hodd' : (c1 : Int) % 2 = 1 := by omega
            have hx2 : bits .xor .u32 ((c1 : Int) / 2) 3988292384 = ((c1 / 2 ^^^ 3988292384 : Nat) : Int) := u32_xor (c1 / 2) 3988292384 (by omega) (by decide)
            have HS : Hid (st c1 = c1 / 2 ^^^ 3988292384) := if_pos hodd
            go_wp2
            go_round
            case rel => exact ⟨j + 1, by omega, by go_num, by rw [HN.out, HS.out]⟩
            case measure => simp [intOf]; omega
          · have hodd' : ¬ (c1 : Int) % 2 = 1 := by omega
            have HS : Hid (st c1 = c1 / 2) := if_neg hodd
            go_wp2
            go_round
            case rel => exact ⟨j + 1, by omega, by go_num, by rw [HN.out, HS.out]; go_num⟩
            case measure => simp [intOf]; omega
        · obtain rfl : j = 8 := by omega
          go_wp2
          go_round
          case rel => exact ⟨k + 1, by omega, by go_num, by rw [HC.out]⟩
          case measure => simp [intOf]; omega
    · obtain rfl : k = l.length := by omega
      have hc := crc_lt (l.take l.length) (c := 4294967295) (by decide)
      have HC : Hid (crc 4294967295 (l.take l.length) = crc 4294967295 l) := by show _ = _; rw [List.take_length]
      go_wp2
      go_ret
      exact ⟨ret_int (by unfold sumOf; rw [← HC.out]; omega), rfl⟩

theorem conv_four (W : World) (a b c d : Int) (l : List UInt8) (hl : l.length = 4) (h0 : (l[0].toNat : Int) = a) (h1 : (l[1].toNat : Int) = b) (h2 : (l[2].toNat : Int) = c) (h3 : (l[3].toNat : Int) = d) :
    (convert 51 9 (.slice (some ⟨W.heap.size, 0, none⟩) 4 4)).run Try.prog (W.alloc (.cells #[.int .u8 a, .int .u8 b, .int .u8 c, .int .u8 d] 5)) = .ok (.string (S l)) (W.alloc (.cells #[.int .u8 a, .int .u8 b, .int .u8 c, .int .u8 d] 5)) := by
  have := run_convert_bytes_back (P := Try.prog) (W.alloc (.cells #[.int .u8 a, .int .u8 b, .int .u8 c, .int .u8 d] 5)) 51 9 5 ⟨W.heap.size, 0, none⟩ 4 l Try.underlying51 Try.underlying5 Try.underlying9 (fun j hj => by
    rw [Addr.add_lit, World.cell?_alloc_at _ _ _ _ (by simp)]
    match j, hj with
    | 0, _ => simp [h0]
    | 1, _ => simp [h1]
    | 2, _ => simp [h2]
    | 3, _ => simp [h3]
    | n + 4, h => omega)
  rw [hl] at this
  exact this

set_option maxHeartbeats 2000000 in
set_option maxRecDepth 100000 in
theorem rFour_any (c : Nat) (hc : c < 4294967296) (w : World) :
    Calls Try.prog 37 #[.int .u32 (c : Nat)] w fun e w' => e = .returned (.string (S (four c))) ∧ Below w.heap.size w w' := by
  have hcv := conv_four w ((c : Int) % 256) ((c : Int) / 256 % 256) ((c : Int) / 65536 % 256) ((c : Int) / 16777216) (four c) rfl
    (by show (((c % 256).toUInt8).toNat : Int) = _; rw [Lib.toUInt8_toNat (by omega)]; omega) (by show (((c / 256 % 256).toUInt8).toNat : Int) = _; rw [Lib.toUInt8_toNat (by omega)]; omega)
    (by show (((c / 65536 % 256).toUInt8).toNat : Int) = _; rw [Lib.toUInt8_toNat (by omega)]; omega) (by show (((c / 16777216).toUInt8).toNat : Int) = _; rw [Lib.toUInt8_toNat (by omega)]; omega)
  go_enter Try.func37, Try.ntmps37
  go_wp2
  go_ret
  exact ⟨rfl, (Below.refl _ _).alloc (Nat.le_refl _) _⟩

set_option maxHeartbeats 2000000 in
set_option maxRecDepth 100000 in
theorem shifted_any (x0 : Nat) (hx0 : x0 < 4294967296) (w : World) :
    Calls Try.prog 70 #[.int .u32 (x0 : Nat)] w fun e w' => e = .returned (.int .u32 (sts 4 x0 : Nat)) ∧ w' = w := by
  go_enter Try.func70, Try.ntmps70
  go_wp2
  go_loop [0, 3] (fun c i => ∃ j : Nat, j ≤ 4 ∧ i = .int .i64 j ∧ c = .int .u32 (sts j x0 : Nat)) (fun _ i => 4 - (intOf i).toNat)
  case atStart => exact ⟨0, by omega, rfl, rfl⟩
  case round =>
    obtain ⟨j, hj, rfl, rfl⟩ := hrel
    have hs0 := sts_lt j hx0
    by_cases hj8 : j < 4
    · have hj8' : (j : Int) < 4 := by omega
      have HN : Hid (sts (j + 1) x0 = st (sts j x0)) := sts_succ j x0
      generalize sts j x0 = c1 at *
      have hand : bits .and .u32 (c1 : Int) 1 = ((c1 % 2 : Nat) : Int) := by rw [← Nat.and_one_is_mod]; exact Go.u32_and_nat c1 1 hs0 (by decide)
      by_cases hodd : c1 % 2 = 1
      · have hodd' : (c1 : Int) % 2 = 1 := by omega
        have hx2 : bits .xor .u32 ((c1 : Int) / 2) 3988292384 = ((c1 / 2 ^^^ 3988292384 : Nat) : Int) := u32_xor (c1 / 2) 3988292384 (by omega) (by decide)
        have HS : Hid (st c1 = c1 / 2 ^^^ 3988292384) := if_pos hodd
        go_wp2
        go_round
        case rel => exact ⟨j + 1, by omega, by go_num, by rw [HN.out, HS.out]⟩
        case measure => simp [intOf]; omega
      · have hodd' : ¬ (c1 : Int) % 2 = 1 := by omega
        have HS : Hid (st c1 = c1 / 2) := if_neg hodd
        go_wp2
        go_round
        case rel => exact ⟨j + 1, by omega, by go_num, by rw [HN.out, HS.out]; go_num⟩
        case measure => simp [intOf]; omega
    · obtain rfl : j = 4 := by omega
      go_wp2
      go_ret
      exact ⟨rfl, rfl⟩
end Go.Proofs.Ytiaeicfmdnmeeaa

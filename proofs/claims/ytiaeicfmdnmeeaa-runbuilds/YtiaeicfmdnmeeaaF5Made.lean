/-
  Contracts of package frame's sums, of the function that it makes, of Sum and written.
-/
import Derived.Test.YtiaeicfmdnmeeaaF5Sum
namespace Go.Proofs.Ytiaeicfmdnmeeaa
open Go.RowKit

/-- so many cells of a row in block b are f's numbers -/
structure Cl (w : World) (b n : Nat) (K : IntKind) (f : Nat → Nat) : Prop where
  cell : ∀ j, j < n → w.cell? ⟨b, j, none⟩ = some (.int K (f j : Nat))
  fro : ∀ j, w.frozen? ⟨b, j, none⟩ = false
  lt : b < w.heap.size
theorem Cl.below {w w' : World} {b n B : Nat} {K : IntKind} {f : Nat → Nat} (h : Cl w b n K f) (hb : Below B w w') (hB : b < B) : Cl w' b n K f :=
  ⟨fun j hj => (hb.cell (p := ⟨b, j, none⟩) hB).trans (h.cell j hj), fun j => (hb.frozen (p := ⟨b, j, none⟩) hB).trans (h.fro j), Nat.lt_of_lt_of_le h.lt hb.size⟩
theorem Cl.set {w : World} {b n k : Nat} {K : IntKind} {f g : Nat → Nat} (h : Cl w b n K f) (hk : k < n) {v : Int} (hv : v = (g k : Nat)) (hg : ∀ j, j < n → j ≠ k → g j = f j) : Cl (w.setCell ⟨b, k, none⟩ (.int K v)) b n K g := by
  subst hv
  refine ⟨fun j hj => ?_, fun j => by rw [World.frozen?_setCell]; exact h.fro j, by simpa using h.lt⟩
  by_cases e : j = k
  · subst e; exact World.cell?_setCell_same _ _ _ (h.cell j hj)
  · rw [World.cell?_setCell_other _ _ _ _ (by intro h; injection h with _ h2 _; exact e h2.symm), hg j hj e]; exact h.cell j hj
/-- the table in block b -/
def Tab (w : World) (b : Nat) : Prop := Cl w b 16 .u32 (sts 4)
def upTo (f : Nat → Nat) (k j : Nat) : Nat := if j < k then f j else 0
theorem upTo_set (f : Nat → Nat) (k : Nat) : upTo f (k + 1) k = f k ∧ ∀ j, j ≠ k → upTo f (k + 1) j = upTo f k j := by
  refine ⟨if_pos (by omega), fun j h => ?_⟩
  unfold upTo
  by_cases h1 : j < k
  · rw [if_pos h1, if_pos (by omega)]
  · rw [if_neg h1, if_neg (by omega)]

theorem Cl.new (w : World) (n : Nat) (K : IntKind) (f : Nat → Nat) (t : TypeId) (c : Array Value) (hc : c = Array.replicate n (.int K 0)) : Cl (w.alloc (.cells c t)) w.heap.size n K (upTo f 0) := by
  subst hc
  refine ⟨fun j hj => ?_, fun j => World.frozen?_alloc_at _ _ _ _ rfl, by simp⟩
  rw [World.cell?_alloc_at _ _ _ _ rfl, Array.getElem?_replicate, if_pos hj, show upTo f 0 j = 0 from if_neg (by omega)]
  rfl

set_option maxHeartbeats 2000000 in
set_option maxRecDepth 100000 in
theorem sums_any (w : World) :
    Calls Try.prog 55 #[] w fun e w' => e = .returned (.func (.func 71) #[] #[.pointer (some ⟨w.heap.size, 0, none⟩)]) ∧ Tab w' w.heap.size ∧ Below w.heap.size w w' := by
  go_enter Try.func55, Try.ntmps55
  go_wp2
  go_loopw [3] (fun i wr => ∃ k : Nat, k ≤ 16 ∧ i = .int .i64 k ∧ Cl wr w.heap.size 16 .u32 (upTo (sts 4) k) ∧ Below w.heap.size w wr) (fun i _ => 16 - (intOf i).toNat)
  case atStart =>
    exact ⟨0, by omega, rfl, Cl.new w 16 .u32 _ _ _ rfl, (Below.refl _ _).alloc (Nat.le_refl _) _⟩
  case round =>
    obtain ⟨k, hk, rfl, hC, hB⟩ := hrel
    by_cases hlt : k < 16
    · have hlt' : (k : Int) < 16 := by omega
      have hc := hC.cell k hlt
      have hf := hC.fro k
      have H : Hid (Cl wr w.heap.size 16 .u32 (upTo (sts 4) k) ∧ Below w.heap.size w wr) := ⟨hC, hB⟩
      clear hC hB
      go_wp2_with (go_at_call 70; refine (shifted_any k (by omega) _).mono ?_; rintro e w1 ⟨rfl, rfl⟩)
      go_roundw
      case rel => exact ⟨k + 1, by omega, by go_num, H.out.1.set hlt (by rw [(upTo_set _ k).1]) (fun j _ => (upTo_set _ k).2 j), H.out.2.setCell (Nat.le_refl _) _⟩
      case measure => simp [intOf]; omega
    · obtain rfl : k = 16 := by omega
      go_wp2
      go_ret
      exact ⟨rfl, ⟨fun j hj => by rw [hC.cell j hj, show upTo (sts 4) 16 j = sts 4 j from if_pos hj], hC.fro, hC.lt⟩, hB⟩

theorem xor_ones {c : Nat} (h : c < 4294967296) : 4294967295 ^^^ c = 4294967295 - c := by
  apply Nat.eq_of_testBit_eq
  intro i
  rw [Nat.testBit_xor, show 4294967295 - c = 2 ^ 32 - (c + 1) by omega, Nat.testBit_two_pow_sub_succ (by omega), show (4294967295 : Nat) = 2 ^ 32 - 1 from rfl, Nat.testBit_two_pow_sub_one]
  by_cases hi : i < 32
  · simp [hi]
  · have : c.testBit i = false := Nat.testBit_lt_two_pow (Nat.lt_of_lt_of_le h (Nat.pow_le_pow_right (n := 2) (by decide) (by omega : 32 ≤ i)))
    simp [hi, this]

set_option maxHeartbeats 4000000 in
set_option maxRecDepth 100000 in
theorem sum1_any {b : Nat} {w : World} (hT : Tab w b) (l : List UInt8) (hl : l.length ≤ 9223372036854775800) :
    Calls Try.prog 71 #[.string (S l), .pointer (some ⟨b, 0, none⟩)] w fun e w' => e = .returned (.int .u32 (sumOf l : Nat)) ∧ w' = w := by
  have hs := S_size l
  go_enter Try.func71, Try.ntmps71
  go_wp2
  go_loop [4, 8] (fun c i => ∃ k : Nat, k ≤ l.length ∧ i = .int .i64 k ∧ c = .int .u32 (crc 4294967295 (l.take k) : Nat)) (fun _ i => l.length - (intOf i).toNat)
  case atStart => exact ⟨0, Nat.zero_le _, rfl, rfl⟩
  case round =>
    obtain ⟨k, hk, rfl, rfl⟩ := hrel
    by_cases hlt : k < l.length
    · have hli : (k : Int) < (l.length : Int) := by omega
      have hc := crc_lt (l.take k) (c := 4294967295) (by decide)
      have HC : Hid (byt (crc 4294967295 (l.take k)) l[k] = crc 4294967295 (l.take (k + 1))) := by show _ = _; rw [byte_snoc l hlt, crc_snoc]
      have hb : l[k].toNat < 256 := l[k].toNat_lt
      unfold byt at HC
      have hx := u32_xor _ _ hc (by omega : l[k].toNat < 4294967296)
      have hx0 := xor_lt hc (by omega : l[k].toNat < 4294967296)
      have hat : (S l)[k]'(by omega) = l[k] := S_at l hlt _
      generalize crc 4294967295 (l.take k) ^^^ l[k].toNat = x0 at *
      generalize crc 4294967295 (l.take k) = c0 at *
      have hd1 := half x0
      have ht1 := hT.cell (x0 % 16) (by omega)
      have hy0 := sts_lt 4 hx0
      have hz1 : bits .xor .u32 ((x0 : Int) / 16) ((sts 4 (x0 % 16) : Nat) : Int) = ((x0 / 16 ^^^ sts 4 (x0 % 16) : Nat) : Int) := u32_xor (x0 / 16) (sts 4 (x0 % 16)) (by omega) (sts_lt 4 (by omega))
      rw [← hd1] at hz1
      have HD : Hid (sts 8 x0 = sts 4 (sts 4 x0)) := sts_add 4 4 x0
      generalize hy : sts 4 x0 = y0 at *
      have hd2 := half y0
      have ht2 := hT.cell (y0 % 16) (by omega)
      have hy1 := sts_lt 4 hy0
      have hz2 : bits .xor .u32 ((y0 : Int) / 16) ((sts 4 (y0 % 16) : Nat) : Int) = ((y0 / 16 ^^^ sts 4 (y0 % 16) : Nat) : Int) := u32_xor (y0 / 16) (sts 4 (y0 % 16)) (by omega) (sts_lt 4 (by omega))
      rw [← hd2] at hz2
      generalize sts 4 (x0 % 16) = t1 at *
      generalize sts 4 (y0 % 16) = t2 at *
      clear hd1 hd2 hy
      have e1 : ((x0 : Int) % 16) = ((x0 % 16 : Nat) : Int) := by omega
      have e2 : ((y0 : Int) % 16) = ((y0 % 16 : Nat) : Int) := by omega
      generalize hm1 : x0 % 16 = m1 at *
      generalize hm2 : y0 % 16 = m2 at *
      have hm1' : m1 < 16 := by omega
      have hm2' : m2 < 16 := by omega
      have HM : Hid (x0 % 16 = m1 ∧ y0 % 16 = m2) := ⟨hm1, hm2⟩
      clear hm1 hm2
      go_wp2
      go_round
      case rel => exact ⟨k + 1, by omega, by go_num, by rw [← HC.out, HD.out]⟩
      case measure => simp [intOf]; omega
    · obtain rfl : k = l.length := by omega
      have hc := crc_lt (l.take l.length) (c := 4294967295) (by decide)
      have HC : Hid (crc 4294967295 (l.take l.length) = crc 4294967295 l) := by show _ = _; rw [List.take_length]
      generalize crc 4294967295 (l.take l.length) = c0 at *
      have hn : bits .xor .u32 4294967295 (c0 : Int) = ((4294967295 - c0 : Nat) : Int) := by
        rw [← xor_ones hc]; exact u32_xor 4294967295 c0 (by decide) hc
      go_wp2
      go_ret
      exact ⟨ret_int (by unfold sumOf; rw [← HC.out]; exact hn), rfl⟩

set_option maxHeartbeats 400000 in
theorem Sum_any (l : List UInt8) (hl : l.length ≤ 9223372036854775800) (w : World) :
    Calls Try.prog 74 #[.string (S l)] w fun e w' => e = .returned (.int .u32 (sumOf l : Nat)) ∧ Below w.heap.size w w' := by
  go_enter Try.func74, Try.ntmps74
  go_wp2_with (first
    | (go_at_call 55; refine (sums_any _).mono ?_; rintro e w1 ⟨rfl, hT, hB⟩)
    | (go_at_call 71; refine (sum1_any hT l hl).mono ?_; rintro e w2 ⟨rfl, rfl⟩))
  go_ret
  exact ⟨rfl, hB⟩

def fourAt (c j : Nat) : Nat := c / 2 ^ (8 * j) % 256
theorem four_at (c : Nat) (hc : c < 4294967296) : ∀ j (hj : j < (four c).length), ((four c)[j].toNat) = fourAt c j := by
  intro j hj
  match j, hj with
  | 0, _ => show ((c % 256).toUInt8).toNat = _; rw [Lib.toUInt8_toNat (by omega)]; unfold fourAt; simp
  | 1, _ => show ((c / 256 % 256).toUInt8).toNat = _; rw [Lib.toUInt8_toNat (by omega)]; rfl
  | 2, _ => show ((c / 65536 % 256).toUInt8).toNat = _; rw [Lib.toUInt8_toNat (by omega)]; rfl
  | 3, _ => show ((c / 16777216).toUInt8).toNat = _; rw [Lib.toUInt8_toNat (by omega)]; unfold fourAt; simp; omega
  | n + 4, h => exact absurd h (by simp [four])

set_option maxHeartbeats 2000000 in
set_option maxRecDepth 100000 in
theorem written_any (c : Nat) (hc : c < 4294967296) (w : World) :
    Calls Try.prog 69 #[.int .u32 (c : Nat)] w fun e w' => e = .returned (.string (S (four c))) ∧ Below w.heap.size w w' := by
  go_enter Try.func69, Try.ntmps69
  go_wp2
  go_loopw [5] (fun i wr => ∃ k : Nat, k ≤ 4 ∧ i = .int .i64 k ∧ Cl wr w.heap.size 4 .u8 (upTo (fourAt c) k) ∧ Below w.heap.size w wr) (fun i _ => 4 - (intOf i).toNat)
  case atStart =>
    exact ⟨0, by omega, rfl, Cl.new w 4 .u8 _ _ _ rfl, (Below.refl _ _).alloc (Nat.le_refl _) _⟩
  case round =>
    obtain ⟨k, hk, rfl, hC, hB⟩ := hrel
    by_cases hlt : k < 4
    · have hlt' : (k : Int) < 4 := by omega
      have hcc := hC.cell k hlt
      have hf := hC.fro k
      have H : Hid (Cl wr w.heap.size 4 .u8 (upTo (fourAt c) k) ∧ Below w.heap.size w wr) := ⟨hC, hB⟩
      clear hC hB
      go_wp2
      go_roundw
      case rel => exact ⟨k + 1, by omega, by go_num, H.out.1.set hlt (by rw [(upTo_set _ k).1]; simp [fourAt]) (fun j _ => (upTo_set _ k).2 j), H.out.2.setCell (Nat.le_refl _) _⟩
      case measure => simp [intOf]; omega
    · obtain rfl : k = 4 := by omega
      have hcv : (convert 51 9 (.slice (some ⟨w.heap.size, 0, none⟩) 4 4)).run Try.prog wr = .ok (.string (S (four c))) wr :=
        run_convert_bytes_back (P := Try.prog) wr 51 9 5 ⟨w.heap.size, 0, none⟩ 4 (four c) Try.underlying51 Try.underlying5 Try.underlying9 (fun j hj => by
          rw [Addr.add_lit, four_at c hc j hj]
          have hj4 : j < 4 := hj
          have := hC.cell j hj4
          rw [show upTo (fourAt c) 4 j = fourAt c j from if_pos hj4] at this
          simpa using this)
      go_wp2
      go_ret
      exact ⟨rfl, hB⟩
end Go.Proofs.Ytiaeicfmdnmeeaa

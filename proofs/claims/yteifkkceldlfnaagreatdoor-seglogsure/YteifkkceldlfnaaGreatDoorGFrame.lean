/-
  Package frame: sums, frames, what is taken.
-/
import Derived.Test.YteifkkceldlfnaaGreatDoorGWire
import Derived.Laws.BitsAllLaws
import Derived.WalkKit
import Derived.Laws.IdiomStrings
import Derived.Lib.AppendStr
import Derived.Lib.UnsafeStr
import Derived.Deep.RegionHeld3
import Derived.BigQuiet
import Derived.Deep.RegionWith
namespace Go.Proofs.YteifkkceldlfnaaGreatDoor
open Go.RowKit

/-- one bit is shifted out -/
def st (c : Nat) : Nat := if c % 2 = 1 then c / 2 ^^^ 3988292384 else c / 2
def sts : Nat → Nat → Nat
  | 0, c => c
  | k + 1, c => sts k (st c)
def byt (c : Nat) (b : UInt8) : Nat := sts 8 (c ^^^ b.toNat)
def crc (c : Nat) (l : List UInt8) : Nat := l.foldl byt c
/-- a text's check sum -/
def sumOf (l : List UInt8) : Nat := 4294967295 - crc 4294967295 l

theorem st_lt {c : Nat} (h : c < 4294967296) : st c < 4294967296 := by
  unfold st
  split
  · exact Nat.xor_lt_two_pow (n := 32) (by omega) (by decide)
  · omega
theorem sts_lt : ∀ (k : Nat) {c : Nat}, c < 4294967296 → sts k c < 4294967296
  | 0, _, h => h
  | k + 1, _, h => sts_lt k (st_lt h)
theorem sts_succ : ∀ (k c : Nat), sts (k + 1) c = st (sts k c)
  | 0, _ => rfl
  | k + 1, c => sts_succ k (st c)
theorem sts_add : ∀ (j k c : Nat), sts (j + k) c = sts k (sts j c)
  | 0, k, c => by rw [Nat.zero_add]; rfl
  | j + 1, k, c => by rw [Nat.add_right_comm]; exact sts_add j k (st c)
theorem xor_lt {a b : Nat} (ha : a < 4294967296) (hb : b < 4294967296) : a ^^^ b < 4294967296 := Nat.xor_lt_two_pow (n := 32) ha hb
theorem byt_lt {c : Nat} (h : c < 4294967296) (b : UInt8) : byt c b < 4294967296 := sts_lt 8 (xor_lt h (by have := b.toNat_lt; omega))
theorem crc_lt : ∀ (l : List UInt8) {c : Nat}, c < 4294967296 → crc c l < 4294967296
  | [], _, h => h
  | b :: t, _, h => crc_lt t (byt_lt h b)
theorem crc_snoc (c : Nat) (l : List UInt8) (b : UInt8) : crc c (l ++ [b]) = byt (crc c l) b := by simp [crc]
theorem crc_append (c : Nat) (l t : List UInt8) : crc c (l ++ t) = crc (crc c l) t := by simp [crc]
theorem sumOf_lt (l : List UInt8) : sumOf l < 4294967296 := by unfold sumOf; omega

theorem xor_left {a b p : Nat} (h : a ^^^ p = b ^^^ p) : a = b := by
  have h1 := congrArg (· ^^^ p) h
  simpa [Nat.xor_assoc] using h1
theorem xor_right {a b p : Nat} (h : p ^^^ a = p ^^^ b) : a = b := xor_left (p := p) (by rw [Nat.xor_comm a, Nat.xor_comm b]; exact h)
theorem xor_none {a b : Nat} (h : a ^^^ b = 0) : a = b := xor_left (p := b) (by rw [h, Nat.xor_self])
theorem xor_half (a b : Nat) : (a ^^^ b) / 2 = a / 2 ^^^ b / 2 := by
  apply Nat.eq_of_testBit_eq
  intro i
  simp [Nat.testBit_div_two, Nat.testBit_xor]
theorem xor_par (a b : Nat) : (a ^^^ b) % 2 = (a % 2 + b % 2) % 2 := by
  have h := Nat.testBit_xor a b 0
  simp only [Nat.testBit_zero] at h
  have ha := Nat.mod_two_eq_zero_or_one a
  have hb := Nat.mod_two_eq_zero_or_one b
  have hc := Nat.mod_two_eq_zero_or_one (a ^^^ b)
  rcases ha with ha | ha <;> rcases hb with hb | hb <;> rcases hc with hc | hc <;> simp_all
theorem xor_can (a b p : Nat) : (a ^^^ p) ^^^ (b ^^^ p) = a ^^^ b := by
  rw [Nat.xor_assoc, ← Nat.xor_assoc p b p, Nat.xor_comm p b, Nat.xor_assoc b p p, Nat.xor_self, Nat.xor_zero]
theorem st_xor (a b : Nat) : st (a ^^^ b) = st a ^^^ st b := by
  have h := xor_par a b
  unfold st
  rw [xor_half]
  rcases Nat.mod_two_eq_zero_or_one a with ha | ha <;> rcases Nat.mod_two_eq_zero_or_one b with hb | hb <;> rw [ha, hb] at h
  · rw [h, ha, hb]; rfl
  · rw [h, ha, hb]; simp [Nat.xor_assoc]
  · rw [h, ha, hb]; simp only [if_pos, Nat.zero_ne_one, if_false]; rw [Nat.xor_assoc, Nat.xor_assoc, Nat.xor_comm (b / 2)]
  · rw [h, ha, hb]; simp [xor_can]
theorem sts_xor : ∀ (k a b : Nat), sts k (a ^^^ b) = sts k a ^^^ sts k b
  | 0, _, _ => rfl
  | k + 1, a, b => by show sts k (st (a ^^^ b)) = _; rw [st_xor]; exact sts_xor k (st a) (st b)
theorem st_even (m : Nat) : st (2 * m) = m := by unfold st; rw [if_neg (by omega)]; omega
theorem low_high (c : Nat) : c % 16 ^^^ 16 * (c / 16) = c := by
  apply Nat.eq_of_testBit_eq
  intro i
  rw [Nat.testBit_xor, show (16 : Nat) = 2 ^ 4 from rfl, Nat.testBit_mod_two_pow, Nat.testBit_two_pow_mul, Nat.testBit_div_two_pow]
  by_cases h : i < 4
  · simp [h, show ¬ 4 ≤ i by omega]
  · simp [h, show 4 ≤ i by omega, show i - 4 + 4 = i by omega]
/-- half a byte at once -/
theorem half (c : Nat) : sts 4 c = c / 16 ^^^ sts 4 (c % 16) := by
  have h : sts 4 (16 * (c / 16)) = c / 16 := by
    show st (st (st (st (16 * (c / 16))))) = _
    rw [show 16 * (c / 16) = 2 * (2 * (2 * (2 * (c / 16)))) by omega, st_even, st_even, st_even, st_even]
  conv => lhs; rw [← low_high c, sts_xor, h, Nat.xor_comm]
theorem st_zero {c : Nat} (hc : c < 4294967296) (h : st c = 0) : c = 0 := by
  unfold st at h
  split at h
  · have h1 : c / 2 = 3988292384 := xor_none h
    omega
  · omega
theorem st_inj {a b : Nat} (ha : a < 4294967296) (hb : b < 4294967296) (h : st a = st b) : a = b := by
  have h1 : st (a ^^^ b) = 0 := by rw [st_xor, h, Nat.xor_self]
  exact xor_none (st_zero (xor_lt ha hb) h1)
theorem sts_inj : ∀ (k : Nat) {a b : Nat}, a < 4294967296 → b < 4294967296 → sts k a = sts k b → a = b
  | 0, _, _, _, _, h => h
  | k + 1, _, _, ha, hb, h => st_inj ha hb (sts_inj k (st_lt ha) (st_lt hb) h)
theorem byt_inj {a b : Nat} {x : UInt8} (ha : a < 4294967296) (hb : b < 4294967296) (h : byt a x = byt b x) : a = b :=
  xor_left (sts_inj 8 (xor_lt ha (by have := x.toNat_lt; omega)) (xor_lt hb (by have := x.toNat_lt; omega)) h)
theorem byt_inj2 {a : Nat} {x y : UInt8} (ha : a < 4294967296) (h : byt a x = byt a y) : x = y :=
  UInt8.toNat_inj.1 (xor_right (sts_inj 8 (xor_lt ha (by have := x.toNat_lt; omega)) (xor_lt ha (by have := y.toNat_lt; omega)) h))
theorem crc_inj : ∀ (l : List UInt8) {a b : Nat}, a < 4294967296 → b < 4294967296 → crc a l = crc b l → a = b
  | [], _, _, _, _, h => h
  | x :: t, _, _, ha, hb, h => byt_inj ha hb (crc_inj t (byt_lt ha x) (byt_lt hb x) h)
/-- one byte is another one -/
theorem sum_apart (l t : List UInt8) {x y : UInt8} (h : x ≠ y) : sumOf (l ++ x :: t) ≠ sumOf (l ++ y :: t) := by
  intro he
  have h0 : (4294967295 : Nat) < 4294967296 := by decide
  have h1 := crc_lt (l ++ x :: t) h0
  have h2 := crc_lt (l ++ y :: t) h0
  have h3 : crc 4294967295 (l ++ x :: t) = crc 4294967295 (l ++ y :: t) := by unfold sumOf at he; omega
  rw [crc_append, crc_append] at h3
  exact h (byt_inj2 (crc_lt l h0) (crc_inj t (byt_lt (crc_lt l h0) x) (byt_lt (crc_lt l h0) y) h3))

/-- a sum's four bytes, the lowest first -/
def four (c : Nat) : List UInt8 := [(c % 256).toUInt8, (c / 256 % 256).toUInt8, (c / 65536 % 256).toUInt8, (c / 16777216).toUInt8]
theorem four_length (c : Nat) : (four c).length = 4 := rfl
theorem four_inj {a b : Nat} (ha : a < 4294967296) (hb : b < 4294967296) (h : four a = four b) : a = b := by
  unfold four at h
  simp only [List.cons.injEq, and_true] at h
  obtain ⟨h0, h1, h2, h3⟩ := h
  have e0 := congrArg UInt8.toNat h0
  have e1 := congrArg UInt8.toNat h1
  have e2 := congrArg UInt8.toNat h2
  have e3 := congrArg UInt8.toNat h3
  rw [Lib.toUInt8_toNat (by omega), Lib.toUInt8_toNat (by omega)] at e0 e1 e2 e3
  omega
/-- the frame of a kind and a load -/
def frm (k : UInt8) (l : List UInt8) : List UInt8 := four (sumOf (k :: txt l)) ++ k :: txt l
/-- the frame that begins some bytes: kind, load, how many, why not -/
def tak (l : List UInt8) : UInt8 × List UInt8 × Nat × Nat :=
  if l.length < 6 then (0, [], 0, 2)
  else match tex 65536 (l.drop 5) with
    | (s, rest, e) =>
      if e ≠ 0 then (0, [], 0, e)
      else if l.take 4 = four (sumOf ((l.drop 4).take (l.length - 4 - rest.length))) then (l.getD 4 0, s, l.length - rest.length, 0) else (0, [], 0, 3)
end Go.Proofs.YteifkkceldlfnaaGreatDoor
namespace Go.Proofs.YteifkkceldlfnaaGreatDoor
open Go.RowKit

theorem S_at (l : List UInt8) {k : Nat} (_h : k < l.length) (h' : k < (S l).size) : (S l)[k]'h' = l[k] := by
  show (S l).data[k]'_ = _
  simp [S]
  rfl
theorem byte_snoc (l : List UInt8) {k : Nat} (h : k < l.length) : l.take (k + 1) = l.take k ++ [l[k]] := List.take_succ_eq_append_getElem h
theorem u32_xor (a b : Nat) (ha : a < 4294967296) (hb : b < 4294967296) : bits .xor .u32 (a : Int) (b : Int) = ((a ^^^ b : Nat) : Int) := Go.u32_xor_nat a b ha hb

theorem ret_int {k : IntKind} {a b : Int} (h : a = b) : Ending.returned (.int k a) = .returned (.int k b) := by rw [h]

set_option maxHeartbeats 2000000 in
set_option maxRecDepth 100000 in
theorem rSum_any (l : List UInt8) (hl : l.length ≤ 9223372036854775800) (w : World) :
    Calls Tryz.prog 106 #[.string (S l)] w fun e w' => e = .returned (.int .u32 (sumOf l : Nat)) ∧ w' = w := by
  have hs := S_size l
  go_enter Tryz.func106, Tryz.ntmps106
  go_wp2
  go_loop [3, 4] (fun c i => ∃ k : Nat, k ≤ l.length ∧ i = .int .i64 k ∧ c = .int .u32 (crc 4294967295 (l.take k) : Nat)) (fun _ i => l.length - (intOf i).toNat)
  case atStart => exact ⟨0, Nat.zero_le _, rfl, rfl⟩
  case round =>
    obtain ⟨k, hk, rfl, rfl⟩ := hrel
    by_cases hlt : k < l.length
    · have hli : (k : Int) < (l.length : Int) := by omega
      have hc := crc_lt (l.take k) (c := 4294967295) (by decide)
      have HC : Hid (byt (crc 4294967295 (l.take k)) l[k] = crc 4294967295 (l.take (k + 1))) := by show _ = _; rw [byte_snoc l hlt, crc_snoc]
      have hb : l[k].toNat < 256 := l[k].toNat_lt
      unfold byt at HC
      have hx := u32_xor _ _ hc (by omega : l[k].toNat < 4294967296)
      have hx0 := xor_lt hc (by omega : l[k].toNat < 4294967296)
      have hat : (S l)[k]'(by omega) = l[k] := S_at l hlt _
      generalize crc 4294967295 (l.take k) ^^^ l[k].toNat = x0 at *
      generalize crc 4294967295 (l.take k) = c0 at *
      go_wp2
      go_loop [3, 5] (fun c i => ∃ j : Nat, j ≤ 8 ∧ i = .int .i64 j ∧ c = .int .u32 (sts j x0 : Nat)) (fun _ i => 8 - (intOf i).toNat)
      case atStart => exact ⟨0, by omega, rfl, rfl⟩
      case round =>
        obtain ⟨j, hj, rfl, rfl⟩ := hrel
        have hs0 := sts_lt j hx0
        by_cases hj8 : j < 8
        · have hj8' : (j : Int) < 8 := by omega
          have HN : Hid (sts (j + 1) x0 = st (sts j x0)) := sts_succ j x0
          generalize sts j x0 = c1 at *
          by_cases hodd : c1 % 2 = 1
          · have hodd' : (c1 : Int) % 2 = 1 := by omega
            have hx2 : bits .xor .u32 ((c1 : Int) / 2) 3988292384 = ((c1 / 2 ^^^ 3988292384 : Nat) : Int) := u32_xor (c1 / 2) 3988292384 (by omega) (by decide)
            have HS : Hid (st c1 = c1 / 2 ^^^ 3988292384) := if_pos hodd
            go_wp2
            go_round
            case rel => exact ⟨j + 1, by omega, by go_num, by rw [HN.out, HS.out]⟩
            case measure => simp [intOf]; omega
          · have hodd' : ¬ (c1 : Int) % 2 = 1 := by omega
            have HS : Hid (st c1 = c1 / 2) := if_neg hodd
            go_wp2
            go_round
            case rel => exact ⟨j + 1, by omega, by go_num, by rw [HN.out, HS.out]; go_num⟩
            case measure => simp [intOf]; omega
        · obtain rfl : j = 8 := by omega
          go_wp2
          go_round
          case rel => exact ⟨k + 1, by omega, by go_num, by rw [HC.out]⟩
          case measure => simp [intOf]; omega
    · obtain rfl : k = l.length := by omega
      have hc := crc_lt (l.take l.length) (c := 4294967295) (by decide)
      have HC : Hid (crc 4294967295 (l.take l.length) = crc 4294967295 l) := by show _ = _; rw [List.take_length]
      go_wp2
      go_ret
      exact ⟨ret_int (by unfold sumOf; rw [← HC.out]; omega), rfl⟩

theorem conv_four (W : World) (a b c d : Int) (l : List UInt8) (hl : l.length = 4) (h0 : (l[0].toNat : Int) = a) (h1 : (l[1].toNat : Int) = b) (h2 : (l[2].toNat : Int) = c) (h3 : (l[3].toNat : Int) = d) :
    (convert 116 9 (.slice (some ⟨W.heap.size, 0, none⟩) 4 4)).run Tryz.prog (W.alloc (.cells #[.int .u8 a, .int .u8 b, .int .u8 c, .int .u8 d] 5)) = .ok (.string (S l)) (W.alloc (.cells #[.int .u8 a, .int .u8 b, .int .u8 c, .int .u8 d] 5)) := by
  have := run_convert_bytes_back (P := Tryz.prog) (W.alloc (.cells #[.int .u8 a, .int .u8 b, .int .u8 c, .int .u8 d] 5)) 116 9 5 ⟨W.heap.size, 0, none⟩ 4 l Tryz.underlying116 Tryz.underlying5 Tryz.underlying9 (fun j hj => by
    rw [Addr.add_lit, World.cell?_alloc_at _ _ _ _ (by simp)]
    match j, hj with
    | 0, _ => simp [h0]
    | 1, _ => simp [h1]
    | 2, _ => simp [h2]
    | 3, _ => simp [h3]
    | n + 4, h => omega)
  rw [hl] at this
  exact this

set_option maxHeartbeats 2000000 in
set_option maxRecDepth 100000 in
theorem rFour_any (c : Nat) (hc : c < 4294967296) (w : World) :
    Calls Tryz.prog 105 #[.int .u32 (c : Nat)] w fun e w' => e = .returned (.string (S (four c))) ∧ Below w.heap.size w w' := by
  have hcv := conv_four w ((c : Int) % 256) ((c : Int) / 256 % 256) ((c : Int) / 65536 % 256) ((c : Int) / 16777216) (four c) rfl
    (by show (((c % 256).toUInt8).toNat : Int) = _; rw [Lib.toUInt8_toNat (by omega)]; omega) (by show (((c / 256 % 256).toUInt8).toNat : Int) = _; rw [Lib.toUInt8_toNat (by omega)]; omega)
    (by show (((c / 65536 % 256).toUInt8).toNat : Int) = _; rw [Lib.toUInt8_toNat (by omega)]; omega) (by show (((c / 16777216).toUInt8).toNat : Int) = _; rw [Lib.toUInt8_toNat (by omega)]; omega)
  go_enter Tryz.func105, Tryz.ntmps105
  go_wp2
  go_ret
  exact ⟨rfl, (Below.refl _ _).alloc (Nat.le_refl _) _⟩

set_option maxHeartbeats 2000000 in
set_option maxRecDepth 100000 in
theorem shifted_any (x0 : Nat) (hx0 : x0 < 4294967296) (w : World) :
    Calls Tryz.prog 167 #[.int .u32 (x0 : Nat)] w fun e w' => e = .returned (.int .u32 (sts 4 x0 : Nat)) ∧ w' = w := by
  go_enter Tryz.func167, Tryz.ntmps167
  go_wp2
  go_loop [0, 3] (fun c i => ∃ j : Nat, j ≤ 4 ∧ i = .int .i64 j ∧ c = .int .u32 (sts j x0 : Nat)) (fun _ i => 4 - (intOf i).toNat)
  case atStart => exact ⟨0, by omega, rfl, rfl⟩
  case round =>
    obtain ⟨j, hj, rfl, rfl⟩ := hrel
    have hs0 := sts_lt j hx0
    by_cases hj8 : j < 4
    · have hj8' : (j : Int) < 4 := by omega
      have HN : Hid (sts (j + 1) x0 = st (sts j x0)) := sts_succ j x0
      generalize sts j x0 = c1 at *
      have hand : bits .and .u32 (c1 : Int) 1 = ((c1 % 2 : Nat) : Int) := by rw [← Nat.and_one_is_mod]; exact Go.u32_and_nat c1 1 hs0 (by decide)
      by_cases hodd : c1 % 2 = 1
      · have hodd' : (c1 : Int) % 2 = 1 := by omega
        have hx2 : bits .xor .u32 ((c1 : Int) / 2) 3988292384 = ((c1 / 2 ^^^ 3988292384 : Nat) : Int) := u32_xor (c1 / 2) 3988292384 (by omega) (by decide)
        have HS : Hid (st c1 = c1 / 2 ^^^ 3988292384) := if_pos hodd
        go_wp2
        go_round
        case rel => exact ⟨j + 1, by omega, by go_num, by rw [HN.out, HS.out]⟩
        case measure => simp [intOf]; omega
      · have hodd' : ¬ (c1 : Int) % 2 = 1 := by omega
        have HS : Hid (st c1 = c1 / 2) := if_neg hodd
        go_wp2
        go_round
        case rel => exact ⟨j + 1, by omega, by go_num, by rw [HN.out, HS.out]; go_num⟩
        case measure => simp [intOf]; omega
    · obtain rfl : j = 4 := by omega
      go_wp2
      go_ret
      exact ⟨rfl, rfl⟩
end Go.Proofs.YteifkkceldlfnaaGreatDoor
namespace Go.Proofs.YteifkkceldlfnaaGreatDoor
open Go.RowKit

/-- so many cells of a row in block b are f's numbers -/
structure Cl (w : World) (b n : Nat) (K : IntKind) (f : Nat → Nat) : Prop where
  cell : ∀ j, j < n → w.cell? ⟨b, j, none⟩ = some (.int K (f j : Nat))
  fro : ∀ j, w.frozen? ⟨b, j, none⟩ = false
  lt : b < w.heap.size
theorem Cl.below {w w' : World} {b n B : Nat} {K : IntKind} {f : Nat → Nat} (h : Cl w b n K f) (hb : Below B w w') (hB : b < B) : Cl w' b n K f :=
  ⟨fun j hj => (hb.cell (p := ⟨b, j, none⟩) hB).trans (h.cell j hj), fun j => (hb.frozen (p := ⟨b, j, none⟩) hB).trans (h.fro j), Nat.lt_of_lt_of_le h.lt hb.size⟩
theorem Cl.set {w : World} {b n k : Nat} {K : IntKind} {f g : Nat → Nat} (h : Cl w b n K f) (hk : k < n) {v : Int} (hv : v = (g k : Nat)) (hg : ∀ j, j < n → j ≠ k → g j = f j) : Cl (w.setCell ⟨b, k, none⟩ (.int K v)) b n K g := by
  subst hv
  refine ⟨fun j hj => ?_, fun j => by rw [World.frozen?_setCell]; exact h.fro j, by simpa using h.lt⟩
  by_cases e : j = k
  · subst e; exact World.cell?_setCell_same _ _ _ (h.cell j hj)
  · rw [World.cell?_setCell_other _ _ _ _ (by intro h; injection h with _ h2 _; exact e h2.symm), hg j hj e]; exact h.cell j hj
/-- the table in block b -/
def Tab (w : World) (b : Nat) : Prop := Cl w b 16 .u32 (sts 4)
def upTo (f : Nat → Nat) (k j : Nat) : Nat := if j < k then f j else 0
theorem upTo_set (f : Nat → Nat) (k : Nat) : upTo f (k + 1) k = f k ∧ ∀ j, j ≠ k → upTo f (k + 1) j = upTo f k j := by
  refine ⟨if_pos (by omega), fun j h => ?_⟩
  unfold upTo
  by_cases h1 : j < k
  · rw [if_pos h1, if_pos (by omega)]
  · rw [if_neg h1, if_neg (by omega)]

theorem Cl.new (w : World) (n : Nat) (K : IntKind) (f : Nat → Nat) (t : TypeId) (c : Array Value) (hc : c = Array.replicate n (.int K 0)) : Cl (w.alloc (.cells c t)) w.heap.size n K (upTo f 0) := by
  subst hc
  refine ⟨fun j hj => ?_, fun j => World.frozen?_alloc_at _ _ _ _ rfl, by simp⟩
  rw [World.cell?_alloc_at _ _ _ _ rfl, Array.getElem?_replicate, if_pos hj, show upTo f 0 j = 0 from if_neg (by omega)]
  rfl

set_option maxHeartbeats 2000000 in
set_option maxRecDepth 100000 in
theorem sums_any (w : World) :
    Calls Tryz.prog 135 #[] w fun e w' => e = .returned (.func (.func 168) #[] #[.pointer (some ⟨w.heap.size, 0, none⟩)]) ∧ Tab w' w.heap.size ∧ Below w.heap.size w w' := by
  go_enter Tryz.func135, Tryz.ntmps135
  go_wp2
  go_loopw [3] (fun i wr => ∃ k : Nat, k ≤ 16 ∧ i = .int .i64 k ∧ Cl wr w.heap.size 16 .u32 (upTo (sts 4) k) ∧ Below w.heap.size w wr) (fun i _ => 16 - (intOf i).toNat)
  case atStart =>
    exact ⟨0, by omega, rfl, Cl.new w 16 .u32 _ _ _ rfl, (Below.refl _ _).alloc (Nat.le_refl _) _⟩
  case round =>
    obtain ⟨k, hk, rfl, hC, hB⟩ := hrel
    by_cases hlt : k < 16
    · have hlt' : (k : Int) < 16 := by omega
      have hc := hC.cell k hlt
      have hf := hC.fro k
      have H : Hid (Cl wr w.heap.size 16 .u32 (upTo (sts 4) k) ∧ Below w.heap.size w wr) := ⟨hC, hB⟩
      clear hC hB
      go_wp2_with (go_at_call 167; refine (shifted_any k (by omega) _).mono ?_; rintro e w1 ⟨rfl, rfl⟩)
      go_roundw
      case rel => exact ⟨k + 1, by omega, by go_num, H.out.1.set hlt (by rw [(upTo_set _ k).1]) (fun j _ => (upTo_set _ k).2 j), H.out.2.setCell (Nat.le_refl _) _⟩
      case measure => simp [intOf]; omega
    · obtain rfl : k = 16 := by omega
      go_wp2
      go_ret
      exact ⟨rfl, ⟨fun j hj => by rw [hC.cell j hj, show upTo (sts 4) 16 j = sts 4 j from if_pos hj], hC.fro, hC.lt⟩, hB⟩

theorem xor_ones {c : Nat} (h : c < 4294967296) : 4294967295 ^^^ c = 4294967295 - c := by
  apply Nat.eq_of_testBit_eq
  intro i
  rw [Nat.testBit_xor, show 4294967295 - c = 2 ^ 32 - (c + 1) by omega, Nat.testBit_two_pow_sub_succ (by omega), show (4294967295 : Nat) = 2 ^ 32 - 1 from rfl, Nat.testBit_two_pow_sub_one]
  by_cases hi : i < 32
  · simp [hi]
  · have : c.testBit i = false := Nat.testBit_lt_two_pow (Nat.lt_of_lt_of_le h (Nat.pow_le_pow_right (n := 2) (by decide) (by omega : 32 ≤ i)))
    simp [hi, this]

set_option maxHeartbeats 4000000 in
set_option maxRecDepth 100000 in
theorem sum1_any {b : Nat} {w : World} (hT : Tab w b) (l : List UInt8) (hl : l.length ≤ 9223372036854775800) :
    Calls Tryz.prog 168 #[.string (S l), .pointer (some ⟨b, 0, none⟩)] w fun e w' => e = .returned (.int .u32 (sumOf l : Nat)) ∧ w' = w := by
  have hs := S_size l
  go_enter Tryz.func168, Tryz.ntmps168
  go_wp2
  go_loop [4, 8] (fun c i => ∃ k : Nat, k ≤ l.length ∧ i = .int .i64 k ∧ c = .int .u32 (crc 4294967295 (l.take k) : Nat)) (fun _ i => l.length - (intOf i).toNat)
  case atStart => exact ⟨0, Nat.zero_le _, rfl, rfl⟩
  case round =>
    obtain ⟨k, hk, rfl, rfl⟩ := hrel
    by_cases hlt : k < l.length
    · have hli : (k : Int) < (l.length : Int) := by omega
      have hc := crc_lt (l.take k) (c := 4294967295) (by decide)
      have HC : Hid (byt (crc 4294967295 (l.take k)) l[k] = crc 4294967295 (l.take (k + 1))) := by show _ = _; rw [byte_snoc l hlt, crc_snoc]
      have hb : l[k].toNat < 256 := l[k].toNat_lt
      unfold byt at HC
      have hx := u32_xor _ _ hc (by omega : l[k].toNat < 4294967296)
      have hx0 := xor_lt hc (by omega : l[k].toNat < 4294967296)
      have hat : (S l)[k]'(by omega) = l[k] := S_at l hlt _
      generalize crc 4294967295 (l.take k) ^^^ l[k].toNat = x0 at *
      generalize crc 4294967295 (l.take k) = c0 at *
      have hd1 := half x0
      have ht1 := hT.cell (x0 % 16) (by omega)
      have hy0 := sts_lt 4 hx0
      have hz1 : bits .xor .u32 ((x0 : Int) / 16) ((sts 4 (x0 % 16) : Nat) : Int) = ((x0 / 16 ^^^ sts 4 (x0 % 16) : Nat) : Int) := u32_xor (x0 / 16) (sts 4 (x0 % 16)) (by omega) (sts_lt 4 (by omega))
      rw [← hd1] at hz1
      have HD : Hid (sts 8 x0 = sts 4 (sts 4 x0)) := sts_add 4 4 x0
      generalize hy : sts 4 x0 = y0 at *
      have hd2 := half y0
      have ht2 := hT.cell (y0 % 16) (by omega)
      have hy1 := sts_lt 4 hy0
      have hz2 : bits .xor .u32 ((y0 : Int) / 16) ((sts 4 (y0 % 16) : Nat) : Int) = ((y0 / 16 ^^^ sts 4 (y0 % 16) : Nat) : Int) := u32_xor (y0 / 16) (sts 4 (y0 % 16)) (by omega) (sts_lt 4 (by omega))
      rw [← hd2] at hz2
      generalize sts 4 (x0 % 16) = t1 at *
      generalize sts 4 (y0 % 16) = t2 at *
      clear hd1 hd2 hy
      have e1 : ((x0 : Int) % 16) = ((x0 % 16 : Nat) : Int) := by omega
      have e2 : ((y0 : Int) % 16) = ((y0 % 16 : Nat) : Int) := by omega
      generalize hm1 : x0 % 16 = m1 at *
      generalize hm2 : y0 % 16 = m2 at *
      have hm1' : m1 < 16 := by omega
      have hm2' : m2 < 16 := by omega
      have HM : Hid (x0 % 16 = m1 ∧ y0 % 16 = m2) := ⟨hm1, hm2⟩
      clear hm1 hm2
      go_wp2
      go_round
      case rel => exact ⟨k + 1, by omega, by go_num, by rw [← HC.out, HD.out]⟩
      case measure => simp [intOf]; omega
    · obtain rfl : k = l.length := by omega
      have hc := crc_lt (l.take l.length) (c := 4294967295) (by decide)
      have HC : Hid (crc 4294967295 (l.take l.length) = crc 4294967295 l) := by show _ = _; rw [List.take_length]
      generalize crc 4294967295 (l.take l.length) = c0 at *
      have hn : bits .xor .u32 4294967295 (c0 : Int) = ((4294967295 - c0 : Nat) : Int) := by
        rw [← xor_ones hc]; exact u32_xor 4294967295 c0 (by decide) hc
      go_wp2
      go_ret
      exact ⟨ret_int (by unfold sumOf; rw [← HC.out]; exact hn), rfl⟩

set_option maxHeartbeats 400000 in
theorem Sum_any (l : List UInt8) (hl : l.length ≤ 9223372036854775800) (w : World) :
    Calls Tryz.prog 116 #[.string (S l)] w fun e w' => e = .returned (.int .u32 (sumOf l : Nat)) ∧ Below w.heap.size w w' := by
  go_enter Tryz.func116, Tryz.ntmps116
  go_wp2_with (first
    | (go_at_call 135; refine (sums_any _).mono ?_; rintro e w1 ⟨rfl, hT, hB⟩)
    | (go_at_call 168; refine (sum1_any hT l hl).mono ?_; rintro e w2 ⟨rfl, rfl⟩))
  go_ret
  exact ⟨rfl, hB⟩

def fourAt (c j : Nat) : Nat := c / 2 ^ (8 * j) % 256
theorem four_at (c : Nat) (hc : c < 4294967296) : ∀ j (hj : j < (four c).length), ((four c)[j].toNat) = fourAt c j := by
  intro j hj
  match j, hj with
  | 0, _ => show ((c % 256).toUInt8).toNat = _; rw [Lib.toUInt8_toNat (by omega)]; unfold fourAt; simp
  | 1, _ => show ((c / 256 % 256).toUInt8).toNat = _; rw [Lib.toUInt8_toNat (by omega)]; rfl
  | 2, _ => show ((c / 65536 % 256).toUInt8).toNat = _; rw [Lib.toUInt8_toNat (by omega)]; rfl
  | 3, _ => show ((c / 16777216).toUInt8).toNat = _; rw [Lib.toUInt8_toNat (by omega)]; unfold fourAt; simp; omega
  | n + 4, h => exact absurd h (by simp [four])

set_option maxHeartbeats 2000000 in
set_option maxRecDepth 100000 in
theorem written_any (c : Nat) (hc : c < 4294967296) (w : World) :
    Calls Tryz.prog 115 #[.int .u32 (c : Nat)] w fun e w' => e = .returned (.string (S (four c))) ∧ Below w.heap.size w w' := by
  go_enter Tryz.func115, Tryz.ntmps115
  go_wp2
  go_loopw [5] (fun i wr => ∃ k : Nat, k ≤ 4 ∧ i = .int .i64 k ∧ Cl wr w.heap.size 4 .u8 (upTo (fourAt c) k) ∧ Below w.heap.size w wr) (fun i _ => 4 - (intOf i).toNat)
  case atStart =>
    exact ⟨0, by omega, rfl, Cl.new w 4 .u8 _ _ _ rfl, (Below.refl _ _).alloc (Nat.le_refl _) _⟩
  case round =>
    obtain ⟨k, hk, rfl, hC, hB⟩ := hrel
    by_cases hlt : k < 4
    · have hlt' : (k : Int) < 4 := by omega
      have hcc := hC.cell k hlt
      have hf := hC.fro k
      have H : Hid (Cl wr w.heap.size 4 .u8 (upTo (fourAt c) k) ∧ Below w.heap.size w wr) := ⟨hC, hB⟩
      clear hC hB
      go_wp2
      go_roundw
      case rel => exact ⟨k + 1, by omega, by go_num, H.out.1.set hlt (by rw [(upTo_set _ k).1]; simp [fourAt]) (fun j _ => (upTo_set _ k).2 j), H.out.2.setCell (Nat.le_refl _) _⟩
      case measure => simp [intOf]; omega
    · obtain rfl : k = 4 := by omega
      have hcv : (convert 116 9 (.slice (some ⟨w.heap.size, 0, none⟩) 4 4)).run Tryz.prog wr = .ok (.string (S (four c))) wr :=
        run_convert_bytes_back (P := Tryz.prog) wr 116 9 5 ⟨w.heap.size, 0, none⟩ 4 (four c) Tryz.underlying116 Tryz.underlying5 Tryz.underlying9 (fun j hj => by
          rw [Addr.add_lit, four_at c hc j hj]
          have hj4 : j < 4 := hj
          have := hC.cell j hj4
          rw [show upTo (fourAt c) 4 j = fourAt c j from if_pos hj4] at this
          simpa using this)
      go_wp2
      go_ret
      exact ⟨rfl, hB⟩
end Go.Proofs.YteifkkceldlfnaaGreatDoor
namespace Go.Proofs.YteifkkceldlfnaaGreatDoor
open Go.RowKit

/-- no cell of the row is marked -/
def noMark (cur : Array Value) (fz : Nat × Nat) : Prop := ∀ j, j < cur.size → (decide (fz.1 ≤ j) && decide (j < fz.2)) = false

/-- the slice value v owns the cells xs: a row of one-cell elements of type e, marked or not -/
def ownsM (w : World) (base : Nat) (e : TypeId) (v : Value) (n : Nat) (xs : List Value) : Prop :=
  xs.length = n ∧ ∃ g cap cur fz, v = .slice (some ⟨g, 0, none⟩) n cap ∧ base ≤ g ∧ w.heap[g]? = some (.cells cur e fz) ∧ noMark cur fz ∧ n ≤ cap ∧ cap ≤ maxLen ∧ cur.size = cap ∧ cur.toList.take n = xs

theorem ownsM.cells {w : World} {base : Nat} {e : TypeId} {v : Value} {n : Nat} {xs : List Value} (h : ownsM w base e v n xs) : ∃ g cap, v = .slice (some ⟨g, 0, none⟩) n cap ∧ base ≤ g ∧ g < w.heap.size ∧ ∀ j u, xs[j]? = some u → w.cell? ((⟨g, 0, none⟩ : Addr).add j) = some u := by
  obtain ⟨h1, g, cap, cur, fz, rfl, hb, hg, _, hn, _, hs, ht⟩ := h
  refine ⟨g, cap, rfl, hb, ?_, fun j u hj => ?_⟩
  · rcases Nat.lt_or_ge g w.heap.size with h | h
    · exact h
    · rw [Array.getElem?_eq_none h] at hg; cases hg
  · rw [Addr.add_lit, Nat.zero_add]
    have hjn : j < n := by rw [← h1]; exact (List.getElem?_eq_some_iff.1 hj).1
    rw [← ht, List.getElem?_take_of_lt hjn] at hj
    simp only [World.cell?, hg]
    simpa using hj

theorem ownsM.mono {w : World} {base base' : Nat} {e : TypeId} {v : Value} {n : Nat} {xs : List Value} (h : ownsM w base e v n xs) (hb : base' ≤ base) : ownsM w base' e v n xs := by
  obtain ⟨h1, g, cap, cur, fz, hv, hg, r⟩ := h
  exact ⟨h1, g, cap, cur, fz, hv, Nat.le_trans hb hg, r⟩
theorem ownsM.below {w w' : World} {base : Nat} {e : TypeId} {v : Value} {n : Nat} {xs : List Value} (h : ownsM w base e v n xs) (hb : Below w.heap.size w w') : ownsM w' base e v n xs := by
  obtain ⟨_, _, hv2, _, hlt, _⟩ := h.cells
  obtain ⟨h1, g, cap, cur, fz, hv, hg, hh, r⟩ := h
  subst hv
  simp at hv2
  obtain ⟨rfl, rfl⟩ := hv2
  exact ⟨h1, g, cap, cur, fz, rfl, hg, by rw [hb.block g hlt]; exact hh, r⟩

section
variable {P : Program}

theorem run_storeCells_M (g o : Nat) (t : TypeId) (fz : Nat × Nat) : ∀ (vs : List Value) (i : Nat) (cur : Array Value) (w : World), w.heap[g]? = some (.cells cur t fz) → noMark cur fz → o + i + vs.length ≤ cur.size → (∀ v ∈ vs, v.oneCell' = true) →
    (storeCells ⟨g, o, none⟩ vs i).run P w = .ok () (w.setRow g (cur.toList.take (o + i) ++ vs ++ cur.toList.drop (o + i + vs.length)).toArray)
  | [], i, cur, w, hg, _, _, _ => by
    simp only [storeCells, List.append_nil, List.length_nil, Nat.add_zero, List.take_append_drop, Array.toArray_toList]
    rw [setRow_self w g cur t fz hg]
    rfl
  | v :: rest, i, cur, w, hg, hm, hl, h1 => by
    have hi : o + i < cur.size := by simp at hl; omega
    have hcell : w.cell? ⟨g, o + i, none⟩ = some cur[o + i] := by simp [World.cell?, hg, hi]
    have hfro : w.frozen? ⟨g, o + i, none⟩ = false := by simp only [World.frozen?, hg]; exact hm _ hi
    have hst : (store ((⟨g, o, none⟩ : Addr).add i) v).run P w = .ok () (w.setRow g (cur.setIfInBounds (o + i) v)) := by
      rw [Addr.add_lit, run_store P w _ v _ (h1 v (by simp)), hcell]
      simp [hfro, setCell_eq_setRow w g (o + i) cur t fz v hg]
    have ih := run_storeCells_M g o t fz rest (i + 1) (cur.setIfInBounds (o + i) v) (w.setRow g (cur.setIfInBounds (o + i) v)) (setRow_heap w g cur _ t _ hg) (fun j hj => hm j (by simpa using hj)) (by simp at hl ⊢; omega) (fun x hx => h1 x (by simp [hx]))
    simp only [storeCells, Sem.run_bind, hst, Result.andThen_ok, ih, setRow_setRow]
    congr 3
    have e := list_seg_step cur.toList (o + i) v rest (by simp at hl ⊢; omega)
    simpa [Array.toList_setIfInBounds, Nat.add_assoc] using e

/-- append(b, s...), b such a slice -/
theorem run_append_M (w : World) (base : Nat) (t u ty e : TypeId) (i : TypeInfo) (ht : P.underlying t = some (.slice e)) (hu : P.underlying u = some .string) (hi : P.info? e = some i) (hz : i.zero = some (.int .u8 0))
    (hsize : i.size = 1) (hby : i.bytes = 1) (v : Value) (n : Nat) (xs : List Value) (hown : ownsM w base e v n xs) (s : ByteArray) (hbytes : n + s.size ≤ 140737488355328) (hbase : base ≤ w.heap.size) :
    ∃ v' w', (Builtin.append_ #[t, u] ty #[v, .string s]).run P w = .ok v' w' ∧ ownsM w' base e v' (n + s.size) (xs ++ Lib.strCells s) ∧ Below base w w' := by
  obtain ⟨g0, cap0, hv0, _, _, hcs⟩ := hown.cells
  obtain ⟨hxl, g, cap, cur, fz, rfl, hbg, hg, hm, hnc, hcm, hcu, htk⟩ := hown
  obtain ⟨rfl, rfl⟩ : g0 = g ∧ cap0 = cap := by simp at hv0; exact ⟨hv0.1.symm, hv0.2.symm⟩
  have hlen : (xs ++ Lib.strCells s).length = n + s.size := by rw [List.length_append, hxl, Lib.strCells_length]
  by_cases hroom : n + s.size ≤ cap0
  · have hf := Lib.run_firstCells_string (P := P) w 1 s
    have hst := run_storeCells_M (P := P) g0 n e fz (Lib.strCells s) 0 cur w hg hm (by rw [Lib.strCells_length]; omega) (Lib.strCells_oneCell s)
    simp only [Nat.add_zero, Lib.strCells_length] at hst
    have hr : (Builtin.append_ #[t, u] ty #[.slice (some ⟨g0, 0, none⟩) n cap0, .string s]).run P w = .ok (.slice (some ⟨g0, 0, none⟩) (n + s.size) cap0) (w.setRow g0 (cur.toList.take n ++ Lib.strCells s ++ cur.toList.drop (n + s.size)).toArray) := by
      simp [Builtin.append_, run_underlying ht, run_underlying hu, Go.sizeOf, typeInfo, hi, hsize, Builtin.lenOf, hroom, hf, Addr.add_lit, hst]
    refine ⟨_, _, hr, ⟨hlen, g0, cap0, _, fz, rfl, hbg, setRow_heap w g0 cur _ e _ hg, ?_, hroom, hcm, ?_, ?_⟩, ⟨rfl, rfl, rfl, by simp, fun k hk => setRow_other w g0 k _ (by omega)⟩⟩
    · intro j hj
      refine hm j ?_
      simp only [List.size_toArray, List.length_append, List.length_take, List.length_drop, Array.length_toList, Lib.strCells_length] at hj
      omega
    · simp only [List.size_toArray, List.length_append, List.length_take, List.length_drop, Array.length_toList, Lib.strCells_length]
      omega
    · rw [htk, ← hlen]
      exact List.take_left
  · have hr := Lib.run_append_grow_string (P := P) w t u ty e i (.int .u8 0) ht hu hi hz ⟨g0, 0, none⟩ n cap0 xs (by rw [hsize]; simpa using hxl) hcs s (by omega) (by omega) (by rw [hby]; exact growslice_fits (by omega) (by omega))
    have hge := grownCap_ge w (n + s.size) cap0 e
    have hcm2 : grownCap w (n + s.size) cap0 e ≤ maxLen := grownCap_le_maxLen w (n + s.size) cap0 e (by unfold maxLen; omega)
    refine ⟨_, _, hr, ⟨hlen, w.heap.size, _, _, (0, 0), rfl, hbase, heap_alloc_new w.drew _, fun j _ => by simp, hge, hcm2, ?_, ?_⟩, ((Below.refl base w).drew.alloc hbase _)⟩
    · have hz1 : (Value.int IntKind.u8 0).cells.size = 1 := rfl
      simp only [Array.size_append, List.size_toArray, size_zeroCells, hz1, hxl, Lib.strCells_length]
      omega
    · simp only [Array.toList_append, List.append_assoc]
      rw [← List.append_assoc, ← hlen]
      exact List.take_left

/-- the operation, for the walk -/
theorem wpList_append_M {w : World} {ops : Array Oper} {rest : List Oper} {o : Oper} {a : Act} {Q : Exit → Act → World → Prop} (hgd : o.guard = none) (sl x : Operand) (t u : TypeId)
    (ho : o.op = .call { callee := .builtin .append, args := #[sl, x], argTypes := #[t, u] })
    (base : Nat) (e : TypeId) (i : TypeInfo) (ht : P.underlying t = some (.slice e)) (hu : P.underlying u = some .string) (hi : P.info? e = some i) (hz : i.zero = some (.int .u8 0))
    (hsize : i.size = 1) (hby : i.bytes = 1) (v : Value) (n : Nat) (xs : List Value) (hs : a.eval sl = v) (hown : ownsM w base e v n xs) (s : ByteArray) (hx : a.eval x = .string s)
    (hbytes : n + s.size ≤ 140737488355328) (hbase : base ≤ w.heap.size)
    (h : ∀ v' w', ownsM w' base e v' (n + s.size) (xs ++ Lib.strCells s) → Below base w w' → wpList P ops Q rest (a.put o.dst v') w') : wpList P ops Q (o :: rest) a w := by
  refine wpList_plain hgd fun K hK => ?_
  obtain ⟨v', w', hr, h2, h3⟩ := run_append_M (P := P) w base t u o.type e i ht hu hi hz hsize hby v n xs hown s hbytes hbase
  unfold Oper.wp execOp
  simp only [ho, resolve, invoke, builtin, Sem.run_bind, Sem.run_pure, Result.andThen_ok, List.map_toArray, List.map_cons, List.map_nil, hs, hx, hr]
  exact hK _ _ (h v' w' h2 h3)

/-- []byte(s): such a slice -/
theorem bytes_M (w : World) (e : TypeId) (l : List UInt8) (hl : l.length ≤ maxLen) :
    ownsM (w.drew.alloc (.cells (bytesRow ⟨l.toArray⟩ (grownCap w l.length 0 e)) e ((bytesRow ⟨l.toArray⟩ (grownCap w l.length 0 e)).size, (bytesRow ⟨l.toArray⟩ (grownCap w l.length 0 e)).size + 1))) w.heap.size e
      (.slice (some ⟨w.heap.size, 0, none⟩) l.length (grownCap w l.length 0 e)) l.length (Lib.byteCells l) := by
  have hge := grownCap_ge w l.length 0 e
  have hs : (⟨l.toArray⟩ : ByteArray).size = l.length := by simp [ByteArray.size]
  refine ⟨Lib.byteCells_length l, w.heap.size, _, _, _, rfl, Nat.le_refl _, heap_alloc_new w.drew _, fun j hj => ?_, hge, grownCap_le_maxLen w l.length 0 e hl, ?_, ?_⟩
  · have : ¬ ((bytesRow ⟨l.toArray⟩ (grownCap w l.length 0 e)).size ≤ j) := by omega
    simp [this]
  · simp only [bytesRow, Array.size_append, Array.size_map, Array.size_replicate, hs]
    simp
    omega
  · simp only [bytesRow, Array.toList_append, Array.toList_map]
    rw [show (l.toArray.toList).map (fun b => Value.int .u8 (b.toNat : Int)) = Lib.byteCells l from rfl]
    rw [show l.length = (Lib.byteCells l).length from (Lib.byteCells_length l).symm]
    exact List.take_left
end
end Go.Proofs.YteifkkceldlfnaaGreatDoor
namespace Go.Proofs.YteifkkceldlfnaaGreatDoor
open Go.RowKit

theorem conv_one (W : World) (v : Int) (c : UInt8) (hv : (c.toNat : Int) = v) :
    (convert 116 9 (.slice (some ⟨W.heap.size, 0, none⟩) 1 1)).run Tryz.prog (W.alloc (.cells #[.int .u8 v] 5)) = .ok (.string (S [c])) (W.alloc (.cells #[.int .u8 v] 5)) := by
  refine run_convert_bytes_back _ 116 9 5 ⟨W.heap.size, 0, none⟩ 1 [c] Tryz.underlying116 Tryz.underlying5 Tryz.underlying9 (fun j hj => ?_)
  have hj0 : j = 0 := by simpa using hj
  subst hj0
  rw [Addr.add_lit, World.cell?_alloc_at _ _ _ _ (by simp)]
  simp [hv]

theorem S_append (a b : List UInt8) : S a ++ S b = S (a ++ b) := by
  apply ByteArray.ext
  simp [S]

set_option maxHeartbeats 1000000 in
set_option maxRecDepth 100000 in
theorem refUint_any (x : Nat) (hx : x < 18446744073709551616) (w : World) :
    Calls Tryz.prog 111 #[.int .u64 (x : Int)] w fun e w' => e = .returned (.string (S (Lib.uvarint x))) ∧ Below w.heap.size w w' := by
  go_enter Tryz.func111, Tryz.ntmps111
  go_wp2
  go_loopw [0, 3] (fun vx vs wr => ∃ (y : Nat) (pre : List UInt8), vx = .int .u64 (y : Int) ∧ y ≤ x ∧ vs = .string (S pre) ∧ Hid (Lib.uvarint x = pre ++ Lib.uvarint y) ∧ Below w.heap.size w wr)
    (fun vx _ _ => (intOf vx).toNat)
  case atStart => exact ⟨x, [], rfl, Nat.le_refl _, rfl, rfl, Below.refl _ _⟩
  case round =>
    obtain ⟨y, pre, rfl, hy, rfl, HS, hbel⟩ := hrel
    have hpl : pre.length + (Lib.uvarint y).length ≤ 10 := by
      have h2 := congrArg List.length HS.out
      have h3 := Lib.uvarint_length64 hx
      rw [List.length_append] at h2
      omega
    have hsp := S_size pre
    by_cases h128 : 128 ≤ y
    · obtain ⟨c, hc⟩ : ∃ c : UInt8, c = (y % 128 + 128).toUInt8 := ⟨_, rfl⟩
      have HS2 : Hid (Lib.uvarint x = (pre ++ [c]) ++ Lib.uvarint (y / 128)) := by
        show _ = _
        rw [HS.out, Lib.uvarint_big h128, hc]
        simp
      have hcv := conv_one wr (128 + (y : Int) % 128) c (by rw [hc, Lib.toUInt8_toNat (by omega)]; omega)
      have hsc := S_size [c]
      simp only [List.length_singleton] at hsc
      have hap := S_append pre [c]
      clear hc HS
      go_wp2
      refine ⟨⟨y / 128, pre ++ [c], by go_num, by omega, rfl, HS2, hbel.alloc hbel.size _⟩, by simp [intOf]; omega⟩
    · obtain ⟨c, hc⟩ : ∃ c : UInt8, c = y.toUInt8 := ⟨_, rfl⟩
      have HS2 : Hid (Lib.uvarint x = pre ++ [c]) := by
        show _ = _
        rw [HS.out, Lib.uvarint_small (by omega), hc]
      have hcv := conv_one wr (y : Int) c (by rw [hc, Lib.toUInt8_toNat (by omega)])
      have hsc := S_size [c]
      simp only [List.length_singleton] at hsc
      have hap := S_append pre [c]
      clear hc HS
      go_wp2
      go_ret
      exact ⟨by rw [HS2.out]; rfl, hbel.alloc hbel.size _⟩

theorem refUint_int (m : Int) (n : Nat) (hm : (n : Int) = m) (hn : n < 18446744073709551616) (w : World) :
    Calls Tryz.prog 111 #[.int .u64 m] w fun e w' => e = .returned (.string (S (Lib.uvarint n))) ∧ Below w.heap.size w w' := by
  subst hm
  exact refUint_any n hn w

set_option maxHeartbeats 400000 in
theorem refText_any (s : List UInt8) (hs : s.length ≤ 140737488355328) (w : World) :
    Calls Tryz.prog 110 #[.string (S s)] w fun e w' => e = .returned (.string (S (txt s))) ∧ Below w.heap.size w w' := by
  have hss := S_size s
  have hlt : s.length < 18446744073709551616 := by omega
  have hul := Lib.uvarint_length64 hlt
  have hsu := S_size (Lib.uvarint s.length)
  have hap : S (Lib.uvarint s.length) ++ S s = S (txt s) := S_append _ _
  go_enter Tryz.func110, Tryz.ntmps110
  go_wp2_with fail
  refine (refUint_any s.length hlt _).mono ?_
  rintro e w1 ⟨rfl, hb⟩
  go_wp2
  go_ret
  exact ⟨rfl, hb⟩

set_option maxHeartbeats 2000000 in
set_option maxRecDepth 100000 in
theorem refList_any {v : Value} {ls : List (List UInt8)} {w : World} (hv : Strs w v ls) (hlim : (lst ls).length + 10 ≤ 140737488355328) :
    Calls Tryz.prog 112 #[v] w fun e w' => e = .returned (.string (S (lst ls))) ∧ Below w.heap.size w w' := by
  obtain ⟨i0, hi, hz0, hz1, hz2⟩ := info_parts infoByte
  have hcl := cat_len ls
  have hll : (lst ls).length = (Lib.uvarint ls.length).length + (cat ls).length := by simp [lst]
  have hlt : ls.length < 18446744073709551616 := by omega
  obtain ⟨a, cap, rfl, hv⟩ := hv
  have hss := S_size (Lib.uvarint ls.length)
  go_enter Tryz.func112, Tryz.ntmps112
  go_wp2_with fail
  refine (refUint_any ls.length hlt _).mono ?_
  rintro e w1 ⟨rfl, hb1⟩
  have hcv := run_bytes_of_string (P := Tryz.prog) w1 9 116 5 (S (Lib.uvarint ls.length)) Tryz.underlying9 Tryz.underlying116 Tryz.underlying5
  rw [hss] at hcv
  have hM := bytes_M w1 5 (Lib.uvarint ls.length) (by unfold maxLen; omega)
  obtain ⟨O, hO⟩ : ∃ O, O = (Obj.cells (bytesRow (S (Lib.uvarint ls.length)) (grownCap w1 (Lib.uvarint ls.length).length 0 5)) 5 ((bytesRow (S (Lib.uvarint ls.length)) (grownCap w1 (Lib.uvarint ls.length).length 0 5)).size, (bytesRow (S (Lib.uvarint ls.length)) (grownCap w1 (Lib.uvarint ls.length).length 0 5)).size + 1)) := ⟨_, rfl⟩
  change ownsM (w1.drew.alloc (Obj.cells (bytesRow (S (Lib.uvarint ls.length)) (grownCap w1 (Lib.uvarint ls.length).length 0 5)) 5 ((bytesRow (S (Lib.uvarint ls.length)) (grownCap w1 (Lib.uvarint ls.length).length 0 5)).size, (bytesRow (S (Lib.uvarint ls.length)) (grownCap w1 (Lib.uvarint ls.length).length 0 5)).size + 1))) _ _ _ _ _ at hM
  rw [← hO] at hM hcv
  generalize grownCap w1 (Lib.uvarint ls.length).length 0 5 = gc at hM hcv
  clear hO
  go_wp2_with fail
  go_loopw [3, 4] (fun vb vi wr => ∃ k : Nat, k ≤ ls.length ∧ vi = .int .i64 (k : Int) ∧ ownsM wr w.heap.size 5 vb ((Lib.uvarint ls.length).length + (cat (ls.take k)).length) (Lib.byteCells (Lib.uvarint ls.length ++ cat (ls.take k))) ∧ Below w.heap.size w wr)
    (fun _ vi _ => ls.length - (intOf vi).toNat)
  case atStart =>
    refine ⟨0, Nat.zero_le _, rfl, ?_, (hb1.alloc hb1.size _).drew⟩
    have h0 : cat (ls.take 0) = [] := rfl
    rw [h0, List.append_nil, List.length_nil, Nat.add_zero]
    exact hM.mono hb1.size
  case round =>
    obtain ⟨k, hk, rfl, hown, hbel⟩ := hrel
    clear hM hb1 hcv
    by_cases hkl : k < ls.length
    · rcases hv with hv | ⟨b, off, rfl, hlt2, hc⟩
      · rw [hv] at hkl; simp at hkl
      · have hck := (hbel.cell (p := ⟨b, off + k, none⟩) hlt2).trans (hc k hkl)
        have hsn := cat_snoc ls k hkl
        have hle := cat_take_le ls (k + 1)
        rw [hsn] at hle
        have htl := txt_length (ls.getD k [])
        have hge := txt_ge (ls.getD k [])
        have hsz := hbel.size
        generalize ls.getD k [] = s at *
        have HS : Hid (cat (ls.take (k + 1)) = cat (ls.take k) ++ txt s) := hsn
        rw [List.length_append] at hle
        have hst := S_size (txt s)
        clear hsn hc
        go_wp2_with fail
        refine (refText_any s (by omega) _).mono ?_
        rintro e w2 ⟨rfl, hb2⟩
        have hown2 := hown.below hb2
        have hbel2 := hbel.trans (hb2.mono hsz)
        have hsz2 := hbel2.size
        clear hown hb2 hbel
        go_wp2_with (at_builtin; refine wpList_append_M rfl _ _ 116 9 rfl w.heap.size 5 i0 Tryz.underlying116 Tryz.underlying9 hi hz0 hz1 hz2 _ _ _ rfl hown2 (S (txt s)) rfl (by omega) hsz2 ?_)
        intro v3 w3 hown3 hb3
        have hbel3 := hbel2.trans hb3
        clear hown2 hb3 hbel2
        go_wp2
        refine ⟨⟨k + 1, by omega, by go_num, ?_, hbel3⟩, by simp [intOf]; omega⟩
        rw [HS.out, List.length_append, ← List.append_assoc, Lib.byteCells_append _ (txt s), ← Nat.add_assoc, htl]
        rw [Lib.strCells_eq, S_list] at hown3
        exact hown3
    · have hkk : k = ls.length := by omega
      subst hkk
      obtain ⟨g, cp, rfl, _, _, hcs⟩ := hown.cells
      rw [List.take_length] at hcs
      have hlen : (Lib.uvarint ls.length ++ cat ls).length = (Lib.uvarint ls.length).length + (cat ls).length := by simp
      have hcv := run_convert_bytes_back (P := Tryz.prog) wr 116 9 5 ⟨g, 0, none⟩ cp (Lib.uvarint ls.length ++ cat ls) Tryz.underlying116 Tryz.underlying5 Tryz.underlying9
        (fun j hj => hcs j _ (by simp only [Lib.byteCells, List.getElem?_map]; rw [List.getElem?_eq_getElem hj]; rfl))
      rw [hlen] at hcv
      change _ = Result.ok (Value.string (S (lst ls))) wr at hcv
      clear hlen hown hll hcs
      go_wp2
      go_ret
      exact ⟨rfl, hbel⟩

end Go.Proofs.YteifkkceldlfnaaGreatDoor
namespace Go.Proofs.YteifkkceldlfnaaGreatDoor
open Go.RowKit

theorem bcell {W w1 : World} (hb : Below W.heap.size W w1) : (∀ b o, b < W.heap.size → w1.cell? ⟨b, o, none⟩ = W.cell? ⟨b, o, none⟩) ∧ (∀ b o, b < W.heap.size → w1.frozen? ⟨b, o, none⟩ = W.frozen? ⟨b, o, none⟩) :=
  ⟨fun b o h => hb.cell (p := ⟨b, o, none⟩) h, fun b o h => hb.frozen (p := ⟨b, o, none⟩) h⟩
theorem bel_of {B : Nat} {w W w1 : World} (h : Below B w W) (hb : Below W.heap.size W w1) (hB : B ≤ w.heap.size) : Below B w w1 := h.trans (hb.mono (Nat.le_trans hB h.size))
theorem conv_byte (c : UInt8) (W : World) (b : Nat) (h : W.cell? ⟨b, 0, none⟩ = some (.int .u8 (c.toNat : Int))) :
    (convert 116 9 (.slice (some ⟨b, 0, none⟩) 1 1)).run Tryz.prog W = .ok (.string (S [c])) W := by
  refine run_convert_bytes_back W 116 9 5 ⟨b, 0, none⟩ 1 [c] Tryz.underlying116 Tryz.underlying5 Tryz.underlying9 (fun j hj => ?_)
  have hj0 : j = 0 := by simpa using hj
  subst hj0
  rw [Addr.add_lit]
  simpa using h

set_option maxHeartbeats 400000 in
theorem Put_long (k : UInt8) (l : List UInt8) (h : 65536 < l.length) (hl : l.length ≤ 9223372036854775800) (w : World) :
    Calls Tryz.prog 89 #[.int .u8 (k.toNat : Int), .string (S l)] w fun e w' => e = .returned (.tuple #[.string ⟨#[]⟩, .int .i64 13]) ∧ w' = w := by
  have hs := S_size l
  have h' : (65536 : Int) < (l.length : Int) := by omega
  go_enter Tryz.func89, Tryz.ntmps89
  go_wp2
  go_ret2
  exact ⟨rfl, rfl⟩

set_option maxHeartbeats 4000000 in
set_option maxRecDepth 100000 in
theorem Put_any (k : UInt8) (l : List UInt8) (h : l.length ≤ 65536) (w : World) :
    Calls Tryz.prog 89 #[.int .u8 (k.toNat : Int), .string (S l)] w fun e w' => e = .returned (.tuple #[.string (S (frm k l)), .int .i64 0]) ∧ Below w.heap.size w w' := by
  have hs := S_size l
  have h' : ¬ (65536 : Int) < (l.length : Int) := by omega
  have hcv := conv_byte k
  have hl4 := sumOf_lt (k :: txt l)
  have htl : (k :: txt l).length ≤ 65560 := by
    have := Lib.uvarint_length64 (show l.length < 18446744073709551616 by omega)
    simp [txt]; omega
  have hz1 : (S [k]).size = 1 := S_size [k]
  have hz2 := S_size (txt l)
  have hz3 := S_size (k :: txt l)
  have hz4 : (S (four (sumOf (k :: txt l)))).size = 4 := S_size _
  have htl2 : (txt l).length ≤ 65559 := by simp at htl; omega
  have hap : S [k] ++ S (txt l) = S (k :: txt l) := S_append [k] (txt l)
  have hap2 : S (four (sumOf (k :: txt l))) ++ S (k :: txt l) = S (frm k l) := S_append _ _
  go_enter Tryz.func89, Tryz.ntmps89
  go_wp2_with fail
  go_region_with (first | (go_at_call 114; refine (Text_any l (by omega) _).mono ?_; rintro e w1 ⟨rfl, hb⟩; obtain ⟨hc, hf⟩ := bcell hb))
  all_goals
    have hB : Below w.heap.size w w1 := by
      have h0 : Below w.heap.size w w := Below.refl _ _
      first
        | exact bel_of h0.drew hb (Nat.le_refl _)
        | exact bel_of (h0.alloc (Nat.le_refl _) _).drew hb (Nat.le_refl _)
    have HB : Hid (Below w.heap.size w w1) := hB
    clear hb hB
    go_wp2_with (first
      | (go_at_call 116; refine (Sum_any _ (by omega) _).mono ?_; rintro e w2 ⟨rfl, h2⟩)
      | (go_at_call 115; refine (written_any _ hl4 _).mono ?_; rintro e w3 ⟨rfl, h3⟩))
    go_ret2
    first
      | exact ⟨rfl, bel_of (bel_of HB.out h2 (Nat.le_refl _)) h3 (Nat.le_refl _)⟩
      | exact ⟨rfl, bel_of (bel_of (HB.out.alloc HB.out.size _) h2 (Nat.le_refl _)) h3 (Nat.le_refl _)⟩

set_option maxHeartbeats 400000 in
theorem rPut_long (k : UInt8) (l : List UInt8) (h : 65536 < l.length) (hl : l.length ≤ 9223372036854775800) (w : World) :
    Calls Tryz.prog 82 #[.int .u8 (k.toNat : Int), .string (S l)] w fun e w' => e = .returned (.tuple #[.string ⟨#[]⟩, .int .i64 13]) ∧ w' = w := by
  have hs := S_size l
  have h' : (65536 : Int) < (l.length : Int) := by omega
  go_enter Tryz.func82, Tryz.ntmps82
  go_wp2
  go_ret2
  exact ⟨rfl, rfl⟩

set_option maxHeartbeats 4000000 in
set_option maxRecDepth 100000 in
theorem rPut_any (k : UInt8) (l : List UInt8) (h : l.length ≤ 65536) (w : World) :
    Calls Tryz.prog 82 #[.int .u8 (k.toNat : Int), .string (S l)] w fun e w' => e = .returned (.tuple #[.string (S (frm k l)), .int .i64 0]) ∧ Below w.heap.size w w' := by
  have hs := S_size l
  have h' : ¬ (65536 : Int) < (l.length : Int) := by omega
  have hcv := conv_byte k
  have hl4 := sumOf_lt (k :: txt l)
  have htl : (k :: txt l).length ≤ 65560 := by
    have := Lib.uvarint_length64 (show l.length < 18446744073709551616 by omega)
    simp [txt]; omega
  have hz1 : (S [k]).size = 1 := S_size [k]
  have hz2 := S_size (txt l)
  have hz3 := S_size (k :: txt l)
  have hz4 : (S (four (sumOf (k :: txt l)))).size = 4 := S_size _
  have htl2 : (txt l).length ≤ 65559 := by simp at htl; omega
  have hap : S [k] ++ S (txt l) = S (k :: txt l) := S_append [k] (txt l)
  have hap2 : S (four (sumOf (k :: txt l))) ++ S (k :: txt l) = S (frm k l) := S_append _ _
  go_enter Tryz.func82, Tryz.ntmps82
  go_wp2_with fail
  go_region_with (first | (go_at_call 110; refine (refText_any l (by omega) _).mono ?_; rintro e w1 ⟨rfl, hb⟩; obtain ⟨hc, hf⟩ := bcell hb))
  all_goals
    have hB : Below w.heap.size w w1 := by
      have h0 : Below w.heap.size w w := Below.refl _ _
      first
        | exact bel_of h0.drew hb (Nat.le_refl _)
        | exact bel_of (h0.alloc (Nat.le_refl _) _).drew hb (Nat.le_refl _)
    have HB : Hid (Below w.heap.size w w1) := hB
    clear hb hB
    go_wp2_with (first
      | (go_at_call 106; refine (rSum_any _ (by omega) _).mono ?_; rintro e w2 ⟨rfl, rfl⟩)
      | (go_at_call 105; refine (rFour_any _ hl4 _).mono ?_; rintro e w3 ⟨rfl, h3⟩))
    go_ret2
    first
      | exact ⟨rfl, bel_of HB.out h3 (Nat.le_refl _)⟩
      | exact ⟨rfl, bel_of (HB.out.alloc HB.out.size _) h3 (Nat.le_refl _)⟩
end Go.Proofs.YteifkkceldlfnaaGreatDoor
namespace Go.Proofs.YteifkkceldlfnaaGreatDoor
open Go.RowKit

theorem frm_length (k : UInt8) (l : List UInt8) : (frm k l).length = 5 + (txt l).length := by simp [frm, four_length]; omega
theorem txt_pos (l : List UInt8) : l.length + 1 ≤ (txt l).length := by
  have := Lib.uvarint_pos l.length
  rw [txt_length]
  omega
theorem drop_four (c : Nat) (r : List UInt8) : (four c ++ r).drop 4 = r := List.drop_left' (four_length c)
theorem take_four (c : Nat) (r : List UInt8) : (four c ++ r).take 4 = four c := List.take_left' (four_length c)
/-- four bytes, then a kind, then a text, then more -/
theorem tak_any (q : List UInt8) (hq : q.length = 4) (k : UInt8) (l more : List UInt8) (hl : l.length ≤ 65536) :
    tak (q ++ k :: (txt l ++ more)) = if q = four (sumOf (k :: txt l)) then (k, l, 5 + (txt l).length, 0) else (0, [], 0, 3) := by
  have h1 := txt_pos l
  have hlen : (q ++ k :: (txt l ++ more)).length = 5 + (txt l).length + more.length := by simp [hq]; omega
  have h5 : (q ++ k :: (txt l ++ more)).drop 5 = txt l ++ more := by
    rw [show (5 : Nat) = 4 + 1 from rfl, ← List.drop_drop, List.drop_left' hq]; rfl
  have h4 : (q ++ k :: (txt l ++ more)).drop 4 = k :: (txt l ++ more) := List.drop_left' hq
  have ht : (q ++ k :: (txt l ++ more)).take 4 = q := List.take_left' hq
  have hb : (k :: (txt l ++ more)).take (5 + (txt l).length + more.length - 4 - more.length) = k :: txt l := by
    rw [show 5 + (txt l).length + more.length - 4 - more.length = (txt l).length + 1 by omega, List.take_succ_cons, List.take_left' rfl]
  have hg : (q ++ k :: (txt l ++ more)).getD 4 0 = k := by
    simp [List.getD, hq]
  unfold tak
  rw [if_neg (by rw [hlen]; omega), h5, tex_back (by omega) (by omega), h4, ht, hlen, hg]
  show (if (0 : Nat) ≠ 0 then _ else if q = four (sumOf ((k :: (txt l ++ more)).take (5 + (txt l).length + more.length - 4 - more.length))) then _ else _) = _
  rw [if_neg (by simp), hb, Nat.add_sub_cancel]
/-- what was put is taken, whatever follows -/
theorem tak_back (k : UInt8) (l more : List UInt8) (hl : l.length ≤ 65536) : tak (frm k l ++ more) = (k, l, (frm k l).length, 0) := by
  unfold frm
  rw [List.append_assoc, List.cons_append, tak_any _ (four_length _) k l more hl, if_pos rfl]
  congr 3
  simp [four_length]
  omega
theorem tak_none (k : UInt8) (l : List UInt8) (hl : l.length ≤ 65536) : tak (frm k l) = (k, l, (frm k l).length, 0) := by
  have := tak_back k l [] hl
  rwa [List.append_nil] at this
/-- no beginning of a frame is one -/
theorem tak_cut (k : UInt8) (l : List UInt8) (hl : l.length ≤ 65536) {n : Nat} (hn : n < (frm k l).length) : (tak ((frm k l).take n)).2.2.2 = 2 := by
  rw [frm_length] at hn
  by_cases h6 : n < 6
  · unfold tak
    rw [if_pos (by simp; omega)]
  · have e : (frm k l).take n = four (sumOf (k :: txt l)) ++ k :: (txt l).take (n - 5) := by
      unfold frm
      rw [List.take_append, List.take_of_length_le (by rw [four_length]; omega), four_length, show n - 4 = (n - 5) + 1 by omega, List.take_succ_cons]
    have h5 : ((frm k l).take n).drop 5 = (txt l).take (n - 5) := by
      rw [e, show (5 : Nat) = 4 + 1 from rfl, ← List.drop_drop, drop_four]; rfl
    have hc := tex_cut (s := l) (k := n - 5) (most := 65536) (by omega) (by omega) (by omega)
    have hlen : ((frm k l).take n).length = n := by rw [List.length_take, frm_length]; omega
    unfold tak
    rw [if_neg (by rw [hlen]; exact h6), h5]
    generalize tex 65536 ((txt l).take (n - 5)) = r at hc ⊢
    obtain ⟨s, rest, er⟩ := r
    simp only at hc
    subst hc
    rfl
theorem cons_ne {a b c : List UInt8} {x y : UInt8} (h : x ≠ y) : a ++ y :: b ≠ a ++ x :: c := fun e => h (List.cons.inj (List.append_cancel_left e)).1.symm
/-- one byte is another one -/
theorem tak_turned (k : UInt8) (l : List UInt8) (hl : l.length ≤ 65536) {a b : List UInt8} {x y : UInt8} (h : frm k l = a ++ x :: b) (hxy : x ≠ y) (hp : a.length ≤ 4 ∨ (frm k l).length - l.length ≤ a.length) : (tak (a ++ y :: b)).2.2.2 = 3 := by
  have hfl := frm_length k l
  have hc4 := four_length (sumOf (k :: txt l))
  have htl := txt_length l
  have hlen : (frm k l).length = a.length + 1 + b.length := by rw [h]; simp; omega
  unfold frm at h
  by_cases h4 : a.length < 4
  · have ht := congrArg (List.take 4) h
    have hd := congrArg (List.drop 4) h
    rw [take_four, List.take_append, List.take_of_length_le (by omega), show 4 - a.length = (3 - a.length) + 1 by omega, List.take_succ_cons] at ht
    rw [drop_four, List.drop_append, List.drop_of_length_le (by omega), List.nil_append, show 4 - a.length = (3 - a.length) + 1 by omega, List.drop_succ_cons] at hd
    have e : a ++ y :: b = (a ++ y :: b.take (3 - a.length)) ++ k :: (txt l ++ []) := by
      rw [List.append_nil, hd, List.append_assoc, List.cons_append, List.take_append_drop]
    have hlq : (a ++ y :: b.take (3 - a.length)).length = 4 := by
      have := congrArg List.length ht
      rw [hc4] at this
      simp at this ⊢
      omega
    rw [e, tak_any _ hlq k l [] hl, if_neg (by rw [ht]; exact cons_ne hxy)]
  · by_cases h5 : a.length = 4
    · obtain ⟨h1, h2⟩ := List.append_inj h (by rw [hc4, h5])
      obtain ⟨h2, h3⟩ := List.cons.inj h2
      subst h1 h2 h3
      have e : four (sumOf (k :: txt l)) ++ y :: txt l = four (sumOf (k :: txt l)) ++ y :: (txt l ++ []) := by rw [List.append_nil]
      rw [e, tak_any _ hc4 y l [] hl, if_neg]
      intro e2
      exact sum_apart [] (txt l) hxy (four_inj (sumOf_lt _) (sumOf_lt _) e2)
    · have hp' : 5 + (Lib.uvarint l.length).length ≤ a.length := by rcases hp with h | h <;> omega
      have hfr : four (sumOf (k :: txt l)) ++ k :: txt l = (four (sumOf (k :: txt l)) ++ k :: Lib.uvarint l.length) ++ l := by unfold txt; simp
      have hpl : (four (sumOf (k :: txt l)) ++ k :: Lib.uvarint l.length).length = 5 + (Lib.uvarint l.length).length := by rw [List.length_append, hc4, List.length_cons]; omega
      rw [hfr] at h
      have ha : a = a.take (5 + (Lib.uvarint l.length).length) ++ a.drop (5 + (Lib.uvarint l.length).length) := (List.take_append_drop _ _).symm
      have h' : (four (sumOf (k :: txt l)) ++ k :: Lib.uvarint l.length) ++ l = a.take (5 + (Lib.uvarint l.length).length) ++ (a.drop (5 + (Lib.uvarint l.length).length) ++ x :: b) := by
        rw [← List.append_assoc, List.take_append_drop]; exact h
      obtain ⟨h1, h2⟩ := List.append_inj h' (by rw [hpl, List.length_take]; omega)
      generalize a.drop (5 + (Lib.uvarint l.length).length) = a2 at *
      have hll : l.length = (a2 ++ y :: b).length := by have := congrArg List.length h2; simp at this ⊢; omega
      have htx : txt (a2 ++ y :: b) = Lib.uvarint l.length ++ (a2 ++ y :: b) := by unfold txt; rw [← hll]
      have e : a ++ y :: b = four (sumOf (k :: txt l)) ++ k :: (txt (a2 ++ y :: b) ++ []) := by
        rw [ha, ← h1, htx]; simp
      rw [e, tak_any _ hc4 k _ [] (by rw [← hll]; exact hl), if_neg]
      intro e2
      refine sum_apart (k :: (Lib.uvarint l.length ++ a2)) b hxy ?_
      have e3 := four_inj (sumOf_lt _) (sumOf_lt _) e2
      have htx2 : txt l = Lib.uvarint l.length ++ (a2 ++ x :: b) := by unfold txt; rw [← h2]
      rw [htx, htx2] at e3
      simpa using e3
end Go.Proofs.YteifkkceldlfnaaGreatDoor
namespace Go.Proofs.YteifkkceldlfnaaGreatDoor
open Go.RowKit

/-- a frame that was taken: kind, load, how many bytes -/
abbrev Fr := UInt8 × List UInt8 × Nat
def frs : Nat → List UInt8 → List Fr
  | 0, _ => []
  | f + 1, l => if (tak l).2.2.2 = 0 then ((tak l).1, (tak l).2.1, (tak l).2.2.1) :: frs f (l.drop (tak l).2.2.1) else []
/-- all of them -/
def fra (l : List UInt8) : List Fr := frs l.length l
theorem tak_ok {l : List UInt8} (h : (tak l).2.2.2 = 0) : 6 ≤ l.length ∧ 5 ≤ (tak l).2.2.1 ∧ (tak l).2.2.1 ≤ l.length := by
  unfold tak at h ⊢
  by_cases h6 : l.length < 6
  · rw [if_pos h6] at h; simp at h
  · rw [if_neg h6] at h ⊢
    obtain ⟨s, rest, e, hx⟩ : ∃ s rest e, tex 65536 (l.drop 5) = (s, rest, e) := ⟨_, _, _, rfl⟩
    have hl := tex_le 65536 (l.drop 5)
    rw [hx, List.length_drop] at hl
    rw [hx] at h ⊢
    simp only at h hl ⊢
    by_cases he : e ≠ 0
    · rw [if_pos he] at h; simp only at h; exact absurd h he
    · rw [if_neg he] at h ⊢
      by_cases hq : l.take 4 = four (sumOf ((l.drop 4).take (l.length - 4 - rest.length)))
      · rw [if_pos hq]; simp only; omega
      · rw [if_neg hq] at h; simp at h
theorem frs_fuel : ∀ (f : Nat) (l : List UInt8), l.length ≤ f → frs f l = frs l.length l
  | 0, l, h => by rw [show l.length = 0 by omega]
  | f + 1, l, h => by
    cases hn : l.length with
    | zero =>
      show (if (tak l).2.2.2 = 0 then _ else _) = []
      rw [if_neg (fun h0 => by have := tak_ok h0; omega)]
    | succ n =>
      show (if (tak l).2.2.2 = 0 then _ else _) = (if (tak l).2.2.2 = 0 then _ else _)
      by_cases h0 : (tak l).2.2.2 = 0
      · obtain ⟨h1, h2, h3⟩ := tak_ok h0
        rw [if_pos h0, if_pos h0]
        have hd : (l.drop (tak l).2.2.1).length = l.length - (tak l).2.2.1 := List.length_drop
        rw [frs_fuel f _ (by omega), frs_fuel n _ (by omega)]
      · rw [if_neg h0, if_neg h0]
theorem fra_step {l : List UInt8} (h : (tak l).2.2.2 = 0) : fra l = ((tak l).1, (tak l).2.1, (tak l).2.2.1) :: fra (l.drop (tak l).2.2.1) := by
  obtain ⟨h1, h2, h3⟩ := tak_ok h
  unfold fra
  obtain ⟨n, hn⟩ : ∃ n, l.length = n + 1 := ⟨l.length - 1, by omega⟩
  rw [hn]
  show (if (tak l).2.2.2 = 0 then _ else _) = _
  have hd : (l.drop (tak l).2.2.1).length = l.length - (tak l).2.2.1 := List.length_drop
  rw [if_pos h, frs_fuel n _ (by omega)]
theorem fra_end {l : List UInt8} (h : (tak l).2.2.2 ≠ 0) : fra l = [] := by
  unfold fra
  cases hn : l.length with
  | zero => rfl
  | succ n => exact if_neg h
/-- how many bytes these have -/
def god (l : List Fr) : Nat := (l.map (·.2.2)).sum
theorem god_le : ∀ (n : Nat) (l : List UInt8), l.length ≤ n → god (fra l) ≤ l.length
  | 0, l, h => by
    rw [fra_end (fun h0 => by have := tak_ok h0; omega)]; simp [god]
  | n + 1, l, h => by
    by_cases h0 : (tak l).2.2.2 = 0
    · obtain ⟨h1, h2, h3⟩ := tak_ok h0
      have hd : (l.drop (tak l).2.2.1).length = l.length - (tak l).2.2.1 := List.length_drop
      have := god_le n (l.drop (tak l).2.2.1) (by omega)
      rw [fra_step h0]
      simp only [god, List.map_cons, List.sum_cons] at this ⊢
      omega
    · rw [fra_end h0]; simp [god]
theorem god_snoc (l : List Fr) (x : Fr) : god (l ++ [x]) = god l + x.2.2 := by simp [god]
theorem god_append (a b : List Fr) : god (a ++ b) = god a + god b := by simp [god]
theorem fra_len : ∀ (n : Nat) (l : List UInt8), l.length ≤ n → 5 * (fra l).length ≤ l.length
  | 0, l, h => by
    rw [fra_end (fun h0 => by have := tak_ok h0; omega)]; simp
  | n + 1, l, h => by
    by_cases h0 : (tak l).2.2.2 = 0
    · obtain ⟨h1, h2, h3⟩ := tak_ok h0
      have hd : (l.drop (tak l).2.2.1).length = l.length - (tak l).2.2.1 := List.length_drop
      have := fra_len n (l.drop (tak l).2.2.1) (by omega)
      rw [fra_step h0, List.length_cons]
      omega
    · rw [fra_end h0]; simp
theorem fra_frm (k : UInt8) (l more : List UInt8) (hl : l.length ≤ 65536) : fra (frm k l ++ more) = (k, l, (frm k l).length) :: fra more := by
  have h := tak_back k l more hl
  rw [fra_step (by rw [h]), h]
  simp only
  rw [List.drop_left' rfl]
end Go.Proofs.YteifkkceldlfnaaGreatDoor
namespace Go.Proofs.YteifkkceldlfnaaGreatDoor
open Go.RowKit

theorem ownsRow_mono {w : World} {base base' : Nat} {t : TypeId} {size : Nat} {v : Value} {n : Nat} {xs : List Value} (h : w.ownsRow base t size v n xs) (hb : base' ≤ base) : w.ownsRow base' t size v n xs := by
  obtain ⟨h1, h2⟩ := h
  refine ⟨h1, ?_⟩
  rcases h2 with h2 | ⟨g, cap, cur, hv, hg, r⟩
  · exact .inl h2
  · exact .inr ⟨g, cap, cur, hv, Nat.le_trans hb hg, r⟩

set_option maxHeartbeats 2000000 in
theorem Lst_own {b : Nat} {many most : Int} {res : List (List UInt8)} {l rest : List UInt8} {w : World} (h : Rd w b l 0) (hl : l.length ≤ 8796093022208) (hmany : many ≤ 9223372036854775807) (hm : most ≤ 9223372036854775807) (hres : Hid (lis many most l = (res, rest, 0))) :
    Calls Tryz.prog 130 #[.pointer (some ⟨b, 0, none⟩), .int .i64 many, .int .i64 most] w fun r w' => ∃ v', r = .returned v' ∧ w'.ownsRow w.heap.size 9 1 v' res.length (strCs res) ∧ Rd w' b rest 0 ∧ But b w w' := by
  have h2 := (((h.alloc (.cells #[.pointer (some ⟨b, 0, none⟩)] 196)).alloc (.cells #[.int .i64 many] 3)).alloc (.cells #[.int .i64 most] 3))
  obtain ⟨k1, k2, k3⟩ := three w (.pointer (some ⟨b, 0, none⟩)) (.int .i64 many) (.int .i64 most) 196 3 3
  have h0 := h2.rest
  have hsz : w.heap.size ≤ (((w.alloc (.cells #[.pointer (some ⟨b, 0, none⟩)] 196)).alloc (.cells #[.int .i64 many] 3)).alloc (.cells #[.int .i64 most] 3)).heap.size := by simp; omega
  have HSZ := (show Hid (w.heap.size ≤ (((w.alloc (.cells #[.pointer (some ⟨b, 0, none⟩)] 196)).alloc (.cells #[.int .i64 many] 3)).alloc (.cells #[.int .i64 most] 3)).heap.size) from hsz)
  clear hsz
  go_enter Tryz.func130, Tryz.ntmps130
  go_wp2_with (first
    | (go_at_call 163; refine (Err_any h2).mono ?_; rintro r w' ⟨rfl, rfl⟩)
    | (go_at_call 162; refine (takeList_res h2 hl hmany hm hres).mono ?_; rintro r w' ⟨v', rfl, hown, hr, hb⟩; have hst := ownsRow_mono hown HSZ.out; clear hown)
    | go_in)
  go_ret
  exact ⟨_, rfl, hst, hr, ((((But.refl _ _).alloc _).alloc _).alloc _).trans hb⟩

end Go.Proofs.YteifkkceldlfnaaGreatDoor
namespace Go.Proofs.YteifkkceldlfnaaGreatDoor
open Go.RowKit

theorem S_get {l t : List UInt8} {c : UInt8} {k : Nat} (h : l.drop k = c :: t) (hk : k < (S l).size) : (S l)[k]'hk = c := by
  have hk2 : k < l.length := by rw [S_size] at hk; exact hk
  have h1 : l[k] = c := by
    have := List.getElem_drop (xs := l) (i := k) (j := 0) (h := by rw [h]; simp)
    simp [h] at this
    exact this.symm
  rw [← h1]
  rfl

theorem drop_step {l t : List UInt8} {c : UInt8} {k : Nat} (h : l.drop k = c :: t) : k < l.length ∧ l.drop (k + 1) = t ∧ t.length + (k + 1) = l.length := by
  have h1 : k < l.length := by
    rcases Nat.lt_or_ge k l.length with h2 | h2
    · exact h2
    · rw [List.drop_eq_nil_of_le h2] at h; cases h
  have h3 : l.drop (k + 1) = t := by
    rw [List.drop_eq_getElem_cons h1] at h
    exact (List.cons.inj h).2
  refine ⟨h1, h3, ?_⟩
  rw [← h3, List.length_drop]
  omega

set_option maxHeartbeats 4000000 in
set_option maxRecDepth 100000 in
theorem Number_res {l : List UInt8} (hl : l.length ≤ 9223372036854775800) {v er : Nat} {rest : List UInt8} (hres : Hid (numb 0 0 l = (v, rest, er))) (w : World) :
    Calls Tryz.prog 104 #[.string (S l)] w fun r w' => r = .returned (.tuple #[.int .u64 ((if er = 0 then v else 0 : Nat) : Int), .int .i64 ((if er = 0 then l.length - rest.length else 0 : Nat) : Int), .int .i64 (er : Int)]) ∧ w' = w := by
  have hss := S_size l
  go_enter Tryz.func104, Tryz.ntmps104
  go_wp2_with fail
  go_loop [5, 6, 7] (fun vv vs vi => ∃ k acc : Nat, vi = .int .i64 (k : Int) ∧ vv = .int .u64 (acc : Int) ∧ vs = .int .u64 ((2 ^ (k * 7) : Nat) : Int) ∧ k ≤ 9 ∧ k ≤ l.length ∧ acc < 2 ^ (k * 7) ∧ Hid (numb k acc (l.drop k) = (v, rest, er)))
    (fun _ _ vi => l.length - (intOf vi).toNat)
  case atStart => exact ⟨0, 0, rfl, rfl, rfl, by omega, by omega, by decide, hres⟩
  case round =>
    obtain ⟨k, acc, rfl, rfl, rfl, hk9, hkl, hacc, HN⟩ := hrel
    clear hres
    have hp63 : 2 ^ (k * 7) ≤ 2 ^ 63 := Nat.pow_le_pow_right (by decide) (by omega)
    have hpp : 0 < 2 ^ (k * 7) := Nat.two_pow_pos _
    have hstep := fun c => acc_step (c := c) hacc
    have hnext : 2 ^ ((k + 1) * 7) = 128 * 2 ^ (k * 7) := pow_step k
    cases hd : l.drop k with
    | nil =>
      have hkk : k = l.length := by
        have := List.drop_eq_nil_iff.1 hd
        omega
      rw [hd] at HN
      obtain ⟨rfl, rfl, rfl⟩ : v = 0 ∧ rest = [] ∧ er = 2 := by
        have := HN.out; rw [numb, if_neg (by omega), Prod.mk.injEq, Prod.mk.injEq] at this; exact ⟨this.1.symm, this.2.1.symm, this.2.2.symm⟩
      clear HN hd hstep hnext
      have hge : ¬ ((k : Int) < (l.length : Int)) := by omega
      go_wp2
      go_ret3
      exact ⟨rfl, rfl⟩
    | cons c t =>
      obtain ⟨hkl2, hd2, htl⟩ := drop_step hd
      have hksz : k < (S l).size := by rw [S_size]; exact hkl2
      have hget := S_get hd hksz
      have hc256 : c.toNat < 256 := c.toNat_lt
      rw [hd] at HN
      clear hd
      have hN := HN.out
      rw [numb, if_neg (by omega)] at hN
      obtain ⟨q, hq⟩ : ∃ q : Nat, q = c.toNat % 128 * 2 ^ (k * 7) := ⟨_, rfl⟩
      have hst := hstep c.toNat
      rw [← hq, hnext] at hst
      rw [← hq] at hN
      have hq1 : q ≤ 127 * 2 ^ (k * 7) := by rw [hq]; exact Nat.mul_le_mul_right _ (by omega)
      have hqi : ((c.toNat : Int) % 128 * ((2 ^ (k * 7) : Nat) : Int)) = (q : Int) := by rw [hq]; simp
      clear HN hstep
      by_cases h9 : k = 9
      · have e9 : ((k : Int) == 9) = true := beq_iff_eq.2 (by omega)
        have d0 : decide ((0 : Int) < (k : Int)) = true := decide_eq_true (by omega)
        have hkp : 0 < k := by omega
        by_cases hc1 : 1 < c.toNat
        · have d1 : decide ((1 : Int) < (c.toNat : Int)) = true := decide_eq_true (by omega)
          obtain ⟨rfl, rfl⟩ : v = 0 ∧ er = 3 := by
            split at hN
            · subst h9
              cases t with
              | nil => rw [numb, if_pos rfl] at hN; simp only [Prod.mk.injEq] at hN; exact ⟨hN.1.symm, hN.2.2.symm⟩
              | cons c2 t2 => rw [numb, if_pos rfl] at hN; simp only [Prod.mk.injEq] at hN; exact ⟨hN.1.symm, hN.2.2.symm⟩
            · rw [if_neg (by subst h9; simp [mayEnd]; omega)] at hN
              simp only [Prod.mk.injEq] at hN; exact ⟨hN.1.symm, hN.2.2.symm⟩
          clear hN hnext hq hqi hst hq1 h9
          go_wp2
          go_ret3
          exact ⟨rfl, rfl⟩
        · have d1 : decide ((1 : Int) < (c.toNat : Int)) = false := decide_eq_false (by omega)
          by_cases hc0 : c.toNat = 0
          · have z0 : ((c.toNat : Int) == 0) = true := beq_iff_eq.2 (by omega)
            obtain ⟨rfl, rfl⟩ : v = 0 ∧ er = 3 := by
              rw [if_neg (by omega), if_neg (by subst h9; simp [mayEnd]; omega)] at hN
              simp only [Prod.mk.injEq] at hN; exact ⟨hN.1.symm, hN.2.2.symm⟩
            clear hN hnext hq hqi hst hq1 h9 hc0
            go_wp2
            go_ret3
            exact ⟨rfl, rfl⟩
          · have z0 : ((c.toNat : Int) == 0) = false := beq_eq_false_iff_ne.2 (by omega)
            have hlt : (c.toNat : Int) < 128 := by omega
            have hcone : c.toNat = 1 := by omega
            obtain ⟨rfl, rfl, rfl⟩ : v = acc + q ∧ rest = t ∧ er = 0 := by
              rw [if_neg (by omega), if_pos (by subst h9; simp [mayEnd]; omega)] at hN
              simp only [Prod.mk.injEq] at hN; exact ⟨hN.1.symm, hN.2.1.symm, hN.2.2.symm⟩
            have hqle : q ≤ 9223372036854775808 := by rw [hq, hcone]; simpa using hp63
            have hacc2 : acc < 9223372036854775808 := Nat.lt_of_lt_of_le hacc hp63
            have hn1 : l.length - rest.length = k + 1 := by omega
            clear hN hnext hq hst hq1 h9 hc0 hcone hpp
            generalize hpg : 2 ^ (k * 7) = p at *
            have hp2 : p ≤ 9223372036854775808 := hp63
            clear hpg hp63
            go_wp2
            go_ret3
            exact ⟨rfl, rfl⟩
      · have e9 : ((k : Int) == 9) = false := beq_eq_false_iff_ne.2 (by omega)
        have hp56 : 128 * 2 ^ (k * 7) ≤ 2 ^ 63 := by rw [← hnext]; exact Nat.pow_le_pow_right (by decide) (by omega)
        by_cases hbad : 0 < k ∧ c.toNat = 0
        · have d0 : decide ((0 : Int) < (k : Int)) = true := decide_eq_true (by omega)
          have hkp : 0 < k := hbad.1
          have z0 : ((c.toNat : Int) == 0) = true := beq_iff_eq.2 (by omega)
          obtain ⟨rfl, rfl⟩ : v = 0 ∧ er = 3 := by
            rw [if_neg (by omega), if_neg (by simp [mayEnd, h9]; omega)] at hN
            simp only [Prod.mk.injEq] at hN; exact ⟨hN.1.symm, hN.2.2.symm⟩
          clear hN hnext hq hqi hst hq1 h9 hbad
          go_wp2
          go_ret3
          exact ⟨rfl, rfl⟩
        · have g0 : (((decide ((0 : Int) < (k : Int))) = false) ∧ ¬ 0 < k) ∨ ((c.toNat : Int) == 0) = false ∧ decide ((0 : Int) < (k : Int)) = true ∧ 0 < k := by
            by_cases h0 : 0 < k
            · exact .inr ⟨beq_eq_false_iff_ne.2 (by omega), decide_eq_true (by omega), h0⟩
            · exact .inl ⟨decide_eq_false (by omega), h0⟩
          have hacc2 : acc < 9223372036854775808 := Nat.lt_of_lt_of_le hacc hp63
          have hp2 : 128 * 2 ^ (k * 7) ≤ 9223372036854775808 := hp56
          by_cases hc : 128 ≤ c.toNat
          · rw [if_pos hc] at hN
            have HN2 : Hid (numb (k + 1) (acc + q) (l.drop (k + 1)) = (v, rest, er)) := by rw [hd2]; exact hN
            have HP : Hid (2 ^ ((k + 1) * 7) = 128 * 2 ^ (k * 7)) := hnext
            have hk8 : k + 1 ≤ 9 := by omega
            clear hN hnext hq h9 hbad hp56 hp63 hk9 hpp
            generalize 2 ^ (k * 7) = p at *
            rcases g0 with ⟨g0, hk0⟩ | ⟨z0, g0, hk0⟩
            all_goals
              go_wp2
              refine ⟨⟨k + 1, acc + q, by go_num, by go_num, ?_, hk8, by omega, by rw [HP.out]; exact hst, HN2⟩, by simp [intOf]; omega⟩
              rw [HP.out]
              go_num
          · rw [if_neg hc, if_pos (by simp [mayEnd, h9]; omega)] at hN
            obtain ⟨rfl, rfl, rfl⟩ : v = acc + q ∧ rest = t ∧ er = 0 := by
              simp only [Prod.mk.injEq] at hN; exact ⟨hN.1.symm, hN.2.1.symm, hN.2.2.symm⟩
            have hn1 : l.length - rest.length = k + 1 := by omega
            have hlt : (c.toNat : Int) < 128 := by omega
            clear hN hnext hq h9 hbad hp56 hp63 hpp
            generalize 2 ^ (k * 7) = p at *
            rcases g0 with ⟨g0, hk0⟩ | ⟨z0, g0, hk0⟩
            all_goals
              go_wp2
              go_ret3
              exact ⟨rfl, rfl⟩

theorem Number_ok {l : List UInt8} (hl : l.length ≤ 9223372036854775800) {v : Nat} {rest : List UInt8} (hres : Hid (numb 0 0 l = (v, rest, 0))) (w : World) :
    Calls Tryz.prog 104 #[.string (S l)] w fun r w' => r = .returned (.tuple #[.int .u64 (v : Int), .int .i64 ((l.length - rest.length : Nat) : Int), .int .i64 0]) ∧ w' = w := Number_res hl hres w
theorem Number_bad {l : List UInt8} (hl : l.length ≤ 9223372036854775800) {v er : Nat} {rest : List UInt8} (hres : Hid (numb 0 0 l = (v, rest, er))) (he : er ≠ 0) (w : World) :
    Calls Tryz.prog 104 #[.string (S l)] w fun r w' => r = .returned (.tuple #[.int .u64 0, .int .i64 0, .int .i64 (er : Int)]) ∧ w' = w := by
  have h := Number_res hl hres w
  rw [if_neg he, if_neg he] at h
  exact h

/-- A NUMBER, of a reader with l left and error e: the number, what is left then, its error then -/
def rdU (l : List UInt8) (e : Nat) : Nat × List UInt8 × Nat :=
  if e = 0 then (if (numb 0 0 l).2.2 = 0 then ((numb 0 0 l).1, (numb 0 0 l).2.1, 0) else (0, l, (numb 0 0 l).2.2)) else (0, l, e)

theorem Uint_all {b e v e2 : Nat} {l l2 : List UInt8} {w : World} (h : Rd w b l e) (hres : Hid (rdU l e = (v, l2, e2))) :
    Calls Tryz.prog 129 #[.pointer (some ⟨b, 0, none⟩)] w fun r w' => r = .returned (.int .u64 (v : Int)) ∧ Rd w' b l2 e2 ∧ But b w w' := by
  have hr := hres.out
  obtain ⟨v1, r1, f1, hn⟩ : ∃ v1 r1 f1, numb 0 0 l = (v1, r1, f1) := ⟨_, _, _, rfl⟩
  unfold rdU at hr
  rw [hn] at hr
  by_cases he : e = 0
  · subst he
    rw [if_pos rfl] at hr
    by_cases hf : f1 = 0
    · subst hf
      rw [if_pos rfl] at hr
      simp only [Prod.mk.injEq] at hr
      obtain ⟨rfl, rfl, rfl⟩ := hr
      exact Uint_ok h hn
    · rw [if_neg hf] at hr
      simp only [Prod.mk.injEq] at hr
      obtain ⟨rfl, rfl, rfl⟩ := hr
      exact Uint_bad h hn hf
  · rw [if_neg he] at hr
    simp only [Prod.mk.injEq] at hr
    obtain ⟨rfl, rfl, rfl⟩ := hr
    refine (Uint_wrong h he).mono ?_
    rintro r w' ⟨rfl, rfl⟩
    exact ⟨rfl, h, But.refl _ _⟩

theorem drop_rest {l rest : List UInt8} {v : Nat} (h : numb 0 0 l = (v, rest, 0)) : (S l).extract (l.length - rest.length) l.length = S rest ∧ rest.length ≤ l.length := by
  have h1 := numb_one0 h
  have h2 : l.length = (Lib.uvarint v).length + rest.length := by rw [h1, List.length_append]
  refine ⟨?_, by omega⟩
  rw [S_drop, show l.length - rest.length = (Lib.uvarint v).length from by omega]
  conv => lhs; rw [h1]
  rw [List.drop_left]

set_option maxHeartbeats 1000000 in
theorem rUint_all {b e v e2 : Nat} {l l2 : List UInt8} {w : World} (h : Rd w b l e) (hl : l.length ≤ 9223372036854775800) (hres : Hid (rdU l e = (v, l2, e2))) :
    Calls Tryz.prog 75 #[.pointer (some ⟨b, 0, none⟩)] w fun r w' => r = .returned (.int .u64 (v : Int)) ∧ Rd w' b l2 e2 ∧ But b w w' := by
  have hr := hres.out
  have hss := S_size l
  have c0 := h.rest
  have c1 := h.err
  have f0 := h.fr
  have f1' := h.fe
  obtain ⟨v1, r1, f1, hn⟩ : ∃ v1 r1 f1, numb 0 0 l = (v1, r1, f1) := ⟨_, _, _, rfl⟩
  have HN : Hid (numb 0 0 l = (v1, r1, f1)) := hn
  unfold rdU at hr
  rw [hn] at hr
  clear hres
  by_cases he : e = 0
  · subst he
    rw [if_pos rfl] at hr
    by_cases hf : f1 = 0
    · subst hf
      rw [if_pos rfl] at hr
      simp only [Prod.mk.injEq] at hr
      obtain ⟨rfl, rfl, rfl⟩ := hr
      obtain ⟨hx, hle⟩ := drop_rest hn
      have g1 : (0 : Int) ≤ ((l.length - r1.length : Nat) : Int) := by omega
      have g2 : ((l.length - r1.length : Nat) : Int) ≤ (l.length : Int) := by omega
      have g3 : l.length - r1.length ≤ l.length := by omega
      clear hn
      go_enter Tryz.func75, Tryz.ntmps75
      go_wp2_with fail
      refine (Number_ok hl HN _).mono ?_
      rintro r w1 ⟨rfl, rfl⟩
      obtain ⟨n, hnn⟩ : ∃ n, n = l.length - r1.length := ⟨_, rfl⟩
      rw [← hnn] at hx g1 g2 g3 ⊢
      clear hnn
      go_wp2
      go_ret
      exact ⟨rfl, h.set0 r1, (But.refl _ _).setCell _ _⟩
    · rw [if_neg hf] at hr
      simp only [Prod.mk.injEq] at hr
      obtain ⟨rfl, rfl, rfl⟩ := hr
      have hbe : (((f1 : Nat) : Int) != 0) = true := by rw [bne_iff_ne]; omega
      clear hn
      go_enter Tryz.func75, Tryz.ntmps75
      go_wp2_with fail
      refine (Number_bad hl HN hf _).mono ?_
      rintro r w1 ⟨rfl, rfl⟩
      clear hf
      go_wp2
      go_ret
      exact ⟨rfl, h.set1 f1, (But.refl _ _).setCell _ _⟩
  · rw [if_neg he] at hr
    simp only [Prod.mk.injEq] at hr
    obtain ⟨rfl, rfl, rfl⟩ := hr
    have hbe : (((e : Nat) : Int) != 0) = true := by rw [bne_iff_ne]; omega
    clear he hn
    go_enter Tryz.func75, Tryz.ntmps75
    go_wp2
    go_ret
    exact ⟨rfl, h, But.refl _ _⟩

theorem rdU_lt {l l2 : List UInt8} {e v e2 : Nat} (h : Hid (rdU l e = (v, l2, e2))) : v < 18446744073709551616 := by
  have hr := h.out
  unfold rdU at hr
  have hn := numb_lt l 0 0 (by omega) (by simp)
  split at hr
  · split at hr
    · simp only [Prod.mk.injEq] at hr; omega
    · simp only [Prod.mk.injEq] at hr; omega
  · simp only [Prod.mk.injEq] at hr; omega

end Go.Proofs.YteifkkceldlfnaaGreatDoor
namespace Go.Proofs.YteifkkceldlfnaaGreatDoor
open Go.RowKit

set_option maxHeartbeats 400000 in
theorem wRead_any (l : List UInt8) (w : World) : Calls Tryz.prog 128 #[.string (S l)] w fun r w' => r = .returned (.pointer (some ⟨w.heap.size, 0, none⟩)) ∧ Rd w' w.heap.size l 0 ∧ Below w.heap.size w w' ∧ w'.heap.size = w.heap.size + 1 := by
  go_enter Tryz.func128, Tryz.ntmps128
  go_wp2
  go_ret
  exact ⟨rfl, ⟨by go_simp, by go_simp, by go_simp, by go_simp, by simp⟩, (Below.refl _ _).alloc (Nat.le_refl _) _, by simp⟩

/-- a piece that was not filled yet -/
structure Ze (w : World) (b : Nat) : Prop where
  c0 : w.cell? ⟨b, 0, none⟩ = some (.int .u8 0)
  c1 : w.cell? ⟨b, 1, none⟩ = some (.string ⟨#[]⟩)
  c2 : w.cell? ⟨b, 2, none⟩ = some (.int .i64 0)
  fr : ∀ o, w.frozen? ⟨b, o, none⟩ = false
  lt : b < w.heap.size
theorem Ze.below {B b : Nat} {w w' : World} (h : Ze w b) (hb : Below B w w') (hB : b < B) : Ze w' b :=
  ⟨(hb.cell (p := ⟨b, 0, none⟩) hB).trans h.c0, (hb.cell (p := ⟨b, 1, none⟩) hB).trans h.c1, (hb.cell (p := ⟨b, 2, none⟩) hB).trans h.c2, fun o => (hb.frozen (p := ⟨b, o, none⟩) hB).trans (h.fr o), Nat.lt_of_lt_of_le h.lt hb.size⟩
theorem Ze.but {b c : Nat} {w w' : World} (h : Ze w b) (hb : But c w w') (hB : b ≠ c) : Ze w' b :=
  ⟨(hb.cell (p := ⟨b, 0, none⟩) h.lt hB).trans h.c0, (hb.cell (p := ⟨b, 1, none⟩) h.lt hB).trans h.c1, (hb.cell (p := ⟨b, 2, none⟩) h.lt hB).trans h.c2, fun o => (hb.frozen (p := ⟨b, o, none⟩) h.lt hB).trans (h.fr o), Nat.lt_of_lt_of_le h.lt hb.size⟩
theorem Ze.new (w : World) (t : TypeId) : Ze (w.alloc (.cells #[.int .u8 0, .string ⟨#[]⟩, .int .i64 0] t)) w.heap.size :=
  ⟨by go_simp, by go_simp, by go_simp, fun o => by go_simp, by simp⟩
theorem Cl.but {w w' : World} {b n c : Nat} {K : IntKind} {f : Nat → Nat} (h : Cl w b n K f) (hb : But c w w') (hB : b ≠ c) : Cl w' b n K f :=
  ⟨fun j hj => (hb.cell (p := ⟨b, j, none⟩) h.lt hB).trans (h.cell j hj), fun j => (hb.frozen (p := ⟨b, j, none⟩) h.lt hB).trans (h.fro j), Nat.lt_of_lt_of_le h.lt hb.size⟩
theorem Cl.drew {w : World} {b n : Nat} {K : IntKind} {f : Nat → Nat} (h : Cl w b n K f) : Cl w.drew b n K f := ⟨h.cell, h.fro, h.lt⟩
theorem S_ext (l : List UInt8) (a b : Nat) : (S l).extract a b = S ((l.drop a).take (b - a)) := by
  apply ByteArray.ext
  rw [ByteArray.data_extract]
  simp [S]
/-- what take comes to, as a value -/
def pce (r : UInt8 × List UInt8 × Nat × Nat) : Value := .agg #[.int .u8 (r.1.toNat : Int), .string (S r.2.1), .int .i64 (r.2.2.1 : Int)]

set_option maxHeartbeats 400000 in
theorem take_short {b : Nat} {w : World} (l : List UInt8) (h : l.length < 6) :
    Calls Tryz.prog 157 #[.string (S l), .func (.func 168) #[] #[.pointer (some ⟨b, 0, none⟩)]] w fun e w' => e = .returned (.tuple #[pce (0, [], 0, 2), .int .i64 2]) ∧ Below w.heap.size w w' := by
  have hs := S_size l
  have h' : (l.length : Int) < 6 := by omega
  go_enter Tryz.func157, Tryz.ntmps157
  go_wp2
  exact bodyPost_ret (v := .tuple #[.agg #[.int .u8 0, .string ⟨#[]⟩, .int .i64 0], .int .i64 2]) (by simp [results, Tryz.results157, go_sem]) rfl ⟨rfl, ((Below.refl _ _).alloc (Nat.le_refl _) _)⟩

set_option maxHeartbeats 2000000 in
set_option maxRecDepth 100000 in
theorem take_bad {b : Nat} {w : World} (l : List UInt8) (h : 6 ≤ l.length) (hl : l.length ≤ 4611686018427387904) {s rest : List UInt8} {er : Nat} (hres : Hid (tex 65536 (l.drop 5) = (s, rest, er))) (he : er ≠ 0) :
    Calls Tryz.prog 157 #[.string (S l), .func (.func 168) #[] #[.pointer (some ⟨b, 0, none⟩)]] w fun e w' => e = .returned (.tuple #[pce (0, [], 0, 2), .int .i64 (er : Int)]) ∧ Below w.heap.size w w' := by
  have hs := S_size l
  have h' : ¬ (l.length : Int) < 6 := by omega
  have h4 : (4 : Int) ≤ (l.length : Int) := by omega
  have h4' : 4 ≤ l.length := by omega
  have hx : (S l).extract 4 l.length = S (l.drop 4) := S_drop l 4
  have h5 : l.drop 4 = l[4] :: l.drop 5 := List.drop_eq_getElem_cons (by omega)
  rw [h5] at hx
  have hl5 : (l.drop 5).length ≤ 4611686018427387904 := by rw [List.length_drop]; omega
  have hbe : (((er : Nat) : Int) != 0) = true := by rw [bne_iff_ne]; omega
  have HZ : Hid (Ze (w.alloc (.cells #[.int .u8 0, .string ⟨#[]⟩, .int .i64 0] 195)) w.heap.size) := Ze.new w _
  have HB : Hid (Below w.heap.size w (w.alloc (.cells #[.int .u8 0, .string ⟨#[]⟩, .int .i64 0] 195))) := (Below.refl _ _).alloc (Nat.le_refl _) _
  generalize l.drop 5 = t at *
  generalize l[4] = c at *
  clear h5 he
  go_enter Tryz.func157, Tryz.ntmps157
  go_wp2_with (first
    | (go_at_call 128; refine (wRead_any (c :: t) _).mono ?_; rintro e w1 ⟨rfl, hr1, hb1, -⟩; rw [World.size_alloc] at hr1)
    | (go_at_call 189; refine (Byte1_ok hr1).mono ?_; rintro e w2 ⟨rfl, hr2, hb2⟩)
    | (go_at_call 190; refine (Text_bad hr2 (.inr ⟨by omega, by omega⟩) (by omega) hres (by simpa using hbe)).mono ?_; rintro e w3 ⟨rfl, hr3, hb3⟩)
    | (go_at_call 163; refine (Err_any hr3).mono ?_; rintro e w4 ⟨rfl, rfl⟩; (have Z3 := ((HZ.out.below hb1 HZ.out.lt).but hb2 (by simp)).but hb3 (by simp)); have c0 := Z3.c0; have c1 := Z3.c1; have c2 := Z3.c2; have fr := Z3.fr))
  have hB : Below w.heap.size w w4 := ((HB.out.trans (hb1.mono (by simp))).trans (hb2.below (by omega) (Nat.le_trans HB.out.size hb1.size))).trans (hb3.below (by omega) (Nat.le_trans (Nat.le_trans HB.out.size hb1.size) hb2.size))
  exact bodyPost_ret (v := .tuple #[.agg #[.int .u8 0, .string ⟨#[]⟩, .int .i64 0], .int .i64 (er : Int)]) (by simp [results, Tryz.results157, go_sem, c0, c1, c2]) rfl ⟨rfl, ((hB.setCell (Nat.le_refl _) _).setCell (Nat.le_refl _) _).setCell (Nat.le_refl _) _⟩

set_option maxHeartbeats 4000000 in
set_option maxRecDepth 100000 in
theorem take_ok {b : Nat} {w : World} (hT : Tab w b) (l : List UInt8) (h : 6 ≤ l.length) (hl : l.length ≤ 4611686018427387904) {s rest : List UInt8} (hres : Hid (tex 65536 (l.drop 5) = (s, rest, 0))) (hq : l.take 4 = four (sumOf ((l.drop 4).take (l.length - 4 - rest.length)))) :
    Calls Tryz.prog 157 #[.string (S l), .func (.func 168) #[] #[.pointer (some ⟨b, 0, none⟩)]] w fun e w' => e = .returned (.tuple #[pce (l.getD 4 0, s, l.length - rest.length, 0), .int .i64 0]) ∧ Below w.heap.size w w' := by
  have hs := S_size l
  have h' : ¬ (l.length : Int) < 6 := by omega
  have h4 : (4 : Int) ≤ (l.length : Int) := by omega
  have h4' : 4 ≤ l.length := by omega
  have hx : (S l).extract 4 l.length = S (l.drop 4) := S_drop l 4
  have h5 : l.drop 4 = l[4] :: l.drop 5 := List.drop_eq_getElem_cons (by omega)
  rw [h5] at hx
  have hl5 : (l.drop 5).length ≤ 4611686018427387904 := by rw [List.length_drop]; omega
  have hrl : rest.length ≤ l.length - 5 := by have := tex_le 65536 (l.drop 5); rw [hres.out, List.length_drop] at this; exact this
  have hx4 : (S l).extract 0 4 = S (l.take 4) := S_take l 4
  have HD : Hid (l.getD 4 0 = l[4]) := by show _ = _; simp [List.getD, show 4 < l.length by omega]
  obtain ⟨n, hn⟩ : ∃ n, n = l.length - rest.length := ⟨_, rfl⟩
  have hxn : (S l).extract 4 n = S ((l.drop 4).take (l.length - 4 - rest.length)) := by rw [S_ext, hn, Nat.sub_right_comm]
  rw [hq] at hx4
  generalize hbd : (l.drop 4).take (l.length - 4 - rest.length) = bd at *
  have hbl : bd.length ≤ 4611686018427387904 := by rw [← hbd]; simp; omega
  have hsl := sumOf_lt bd
  have hn1 : (l.length : Int) - (rest.length : Int) = (n : Int) := by omega
  have hn2 : (4 : Int) ≤ (n : Int) := by omega
  have hn3 : 4 ≤ n := by omega
  have hn4 : (n : Int) ≤ (l.length : Int) := by omega
  have hn5 : n ≤ l.length := by omega
  have HN : Hid (n = l.length - rest.length) := hn
  have HT : Hid (Tab (w.alloc (.cells #[.int .u8 0, .string ⟨#[]⟩, .int .i64 0] 195)) b ∧ b < w.heap.size) := ⟨hT.below ((Below.refl w.heap.size w).alloc (Nat.le_refl _) _) hT.lt, hT.lt⟩
  have HZ : Hid (Ze (w.alloc (.cells #[.int .u8 0, .string ⟨#[]⟩, .int .i64 0] 195)) w.heap.size) := Ze.new w _
  have HB : Hid (Below w.heap.size w (w.alloc (.cells #[.int .u8 0, .string ⟨#[]⟩, .int .i64 0] 195))) := (Below.refl _ _).alloc (Nat.le_refl _) _
  generalize l.drop 5 = t at *
  generalize l[4] = c at *
  clear h5 hn hbd hT hq
  go_enter Tryz.func157, Tryz.ntmps157
  go_wp2_with (first
    | (go_at_call 128; refine (wRead_any (c :: t) _).mono ?_; rintro e w1 ⟨rfl, hr1, hb1, -⟩; rw [World.size_alloc] at hr1)
    | (go_at_call 189; refine (Byte1_ok hr1).mono ?_; rintro e w2 ⟨rfl, hr2, hb2⟩)
    | (go_at_call 190; refine (Text_ok hr2 (.inr ⟨by omega, by omega⟩) (by omega) hres).mono ?_; rintro e w3 ⟨rfl, hr3, hb3⟩)
    | (go_at_call 163; refine (Err_any hr3).mono ?_; rintro e w4 ⟨rfl, rfl⟩)
    | (go_at_call 164; refine (Left_any hr3).mono ?_; rintro e w5 ⟨rfl, rfl⟩))
  have hB : Below w.heap.size w w5 := ((HB.out.trans (hb1.mono (by simp))).trans (hb2.below (by omega) (Nat.le_trans HB.out.size hb1.size))).trans (hb3.below (by omega) (Nat.le_trans (Nat.le_trans HB.out.size hb1.size) hb2.size))
  have Z5 := ((HZ.out.below hb1 HZ.out.lt).but hb2 (by simp)).but hb3 (by simp)
  have T5 : Tab w5.drew b := (((HT.out.1.below hb1 (by have := HT.out.2; simp; omega)).but hb2 (by have := HT.out.2; omega)).but hb3 (by have := HT.out.2; omega)).drew
  have H5 : Hid (Below w.heap.size w w5 ∧ Ze w5 w.heap.size) := ⟨hB, Z5⟩
  clear hB Z5 hb1 hb2 hb3 hr1 hr2 hr3 HT HZ HB
  go_region_held3 (fun _ => True) (trivial) (first
    | (go_at_call 168; refine (sum1_any T5 bd (by omega)).mono ?_; rintro e w6 ⟨rfl, rfl⟩)
    | (go_at_call 115; refine (written_any _ hsl _).mono ?_; rintro e w7 ⟨rfl, hb7⟩))
  have Z7 := (show Ze w5.drew w.heap.size from ⟨H5.out.2.c0, H5.out.2.c1, H5.out.2.c2, H5.out.2.fr, H5.out.2.lt⟩).below hb7 H5.out.2.lt
  have H7 : Hid (Below w.heap.size w w7) := bel_of H5.out.1.drew hb7 (Nat.le_refl _)
  have c0 := Z7.c0
  have c1 := Z7.c1
  have c2 := Z7.c2
  have fr := Z7.fr
  clear Z7 hb7 T5
  go_wp2
  refine bodyPost_ret (v := .tuple #[.agg #[.int .u8 (c.toNat : Int), .string (S s), .int .i64 (n : Int)], .int .i64 0]) (by simp [results, Tryz.results157, go_sem, c0, c1, c2]) rfl ⟨?_, ((H7.out.setCell (Nat.le_refl _) _).setCell (Nat.le_refl _) _).setCell (Nat.le_refl _) _⟩
  rw [HD.out, ← HN.out]
  rfl
set_option maxHeartbeats 4000000 in
set_option maxRecDepth 100000 in
theorem take_sum {b : Nat} {w : World} (hT : Tab w b) (l : List UInt8) (h : 6 ≤ l.length) (hl : l.length ≤ 4611686018427387904) {s rest : List UInt8} (hres : Hid (tex 65536 (l.drop 5) = (s, rest, 0))) (hq : l.take 4 ≠ four (sumOf ((l.drop 4).take (l.length - 4 - rest.length)))) :
    Calls Tryz.prog 157 #[.string (S l), .func (.func 168) #[] #[.pointer (some ⟨b, 0, none⟩)]] w fun e w' => e = .returned (.tuple #[pce (0, [], 0, 2), .int .i64 3]) ∧ Below w.heap.size w w' := by
  have hs := S_size l
  have h' : ¬ (l.length : Int) < 6 := by omega
  have h4 : (4 : Int) ≤ (l.length : Int) := by omega
  have h4' : 4 ≤ l.length := by omega
  have hx : (S l).extract 4 l.length = S (l.drop 4) := S_drop l 4
  have h5 : l.drop 4 = l[4] :: l.drop 5 := List.drop_eq_getElem_cons (by omega)
  rw [h5] at hx
  have hl5 : (l.drop 5).length ≤ 4611686018427387904 := by rw [List.length_drop]; omega
  have hrl : rest.length ≤ l.length - 5 := by have := tex_le 65536 (l.drop 5); rw [hres.out, List.length_drop] at this; exact this
  have hx4 : (S l).extract 0 4 = S (l.take 4) := S_take l 4
  have HD : Hid (l.getD 4 0 = l[4]) := by show _ = _; simp [List.getD, show 4 < l.length by omega]
  obtain ⟨n, hn⟩ : ∃ n, n = l.length - rest.length := ⟨_, rfl⟩
  have hxn : (S l).extract 4 n = S ((l.drop 4).take (l.length - 4 - rest.length)) := by rw [S_ext, hn, Nat.sub_right_comm]
  generalize hbd : (l.drop 4).take (l.length - 4 - rest.length) = bd at *
  have hbl : bd.length ≤ 4611686018427387904 := by rw [← hbd]; simp; omega
  have hsl := sumOf_lt bd
  have hn1 : (l.length : Int) - (rest.length : Int) = (n : Int) := by omega
  have hn2 : (4 : Int) ≤ (n : Int) := by omega
  have hn3 : 4 ≤ n := by omega
  have hn4 : (n : Int) ≤ (l.length : Int) := by omega
  have hn5 : n ≤ l.length := by omega
  have hne : ((S (l.take 4)).toList == (S (four (sumOf bd))).toList) = false := by
    rw [S_toList, S_toList, beq_eq_false_iff_ne]
    exact hq
  have HN : Hid (n = l.length - rest.length) := hn
  have HT : Hid (Tab (w.alloc (.cells #[.int .u8 0, .string ⟨#[]⟩, .int .i64 0] 195)) b ∧ b < w.heap.size) := ⟨hT.below ((Below.refl w.heap.size w).alloc (Nat.le_refl _) _) hT.lt, hT.lt⟩
  have HZ : Hid (Ze (w.alloc (.cells #[.int .u8 0, .string ⟨#[]⟩, .int .i64 0] 195)) w.heap.size) := Ze.new w _
  have HB : Hid (Below w.heap.size w (w.alloc (.cells #[.int .u8 0, .string ⟨#[]⟩, .int .i64 0] 195))) := (Below.refl _ _).alloc (Nat.le_refl _) _
  generalize l.take 4 = q at *
  generalize l.drop 5 = t at *
  generalize l[4] = c at *
  clear h5 hn hbd hT hq
  go_enter Tryz.func157, Tryz.ntmps157
  go_wp2_with (first
    | (go_at_call 128; refine (wRead_any (c :: t) _).mono ?_; rintro e w1 ⟨rfl, hr1, hb1, -⟩; rw [World.size_alloc] at hr1)
    | (go_at_call 189; refine (Byte1_ok hr1).mono ?_; rintro e w2 ⟨rfl, hr2, hb2⟩)
    | (go_at_call 190; refine (Text_ok hr2 (.inr ⟨by omega, by omega⟩) (by omega) hres).mono ?_; rintro e w3 ⟨rfl, hr3, hb3⟩)
    | (go_at_call 163; refine (Err_any hr3).mono ?_; rintro e w4 ⟨rfl, rfl⟩)
    | (go_at_call 164; refine (Left_any hr3).mono ?_; rintro e w5 ⟨rfl, rfl⟩))
  have hB : Below w.heap.size w w5 := ((HB.out.trans (hb1.mono (by simp))).trans (hb2.below (by omega) (Nat.le_trans HB.out.size hb1.size))).trans (hb3.below (by omega) (Nat.le_trans (Nat.le_trans HB.out.size hb1.size) hb2.size))
  have Z5 := ((HZ.out.below hb1 HZ.out.lt).but hb2 (by simp)).but hb3 (by simp)
  have T5 : Tab w5.drew b := (((HT.out.1.below hb1 (by have := HT.out.2; simp; omega)).but hb2 (by have := HT.out.2; omega)).but hb3 (by have := HT.out.2; omega)).drew
  have H5 : Hid (Below w.heap.size w w5 ∧ Ze w5 w.heap.size) := ⟨hB, Z5⟩
  clear hB Z5 hb1 hb2 hb3 hr1 hr2 hr3 HT HZ HB
  go_region_held3 (fun _ => True) (trivial) (first
    | (go_at_call 168; refine (sum1_any T5 bd (by omega)).mono ?_; rintro e w6 ⟨rfl, rfl⟩)
    | (go_at_call 115; refine (written_any _ hsl _).mono ?_; rintro e w7 ⟨rfl, hb7⟩))
  have Z7 := (show Ze w5.drew w.heap.size from ⟨H5.out.2.c0, H5.out.2.c1, H5.out.2.c2, H5.out.2.fr, H5.out.2.lt⟩).below hb7 H5.out.2.lt
  have H7 : Hid (Below w.heap.size w w7) := bel_of H5.out.1.drew hb7 (Nat.le_refl _)
  have c0 := Z7.c0
  have c1 := Z7.c1
  have c2 := Z7.c2
  have fr := Z7.fr
  clear Z7 hb7 T5
  go_wp2
  exact bodyPost_ret (v := .tuple #[.agg #[.int .u8 0, .string ⟨#[]⟩, .int .i64 0], .int .i64 3]) (by simp [results, Tryz.results157, go_sem, c0, c1, c2]) rfl ⟨rfl, ((H7.out.setCell (Nat.le_refl _) _).setCell (Nat.le_refl _) _).setCell (Nat.le_refl _) _⟩

theorem take_any {b : Nat} {w : World} (hT : Tab w b) (l : List UInt8) (hl : l.length ≤ 4611686018427387904) :
    Calls Tryz.prog 157 #[.string (S l), .func (.func 168) #[] #[.pointer (some ⟨b, 0, none⟩)]] w fun e w' => e = .returned (.tuple #[pce (tak l), .int .i64 ((tak l).2.2.2 : Int)]) ∧ Below w.heap.size w w' := by
  by_cases h6 : l.length < 6
  · have ht : tak l = (0, [], 0, 2) := if_pos h6
    rw [ht]
    exact take_short l h6
  · obtain ⟨s, rest, er, hx⟩ : ∃ s rest er, tex 65536 (l.drop 5) = (s, rest, er) := ⟨_, _, _, rfl⟩
    by_cases he : er = 0
    · subst he
      by_cases hq : l.take 4 = four (sumOf ((l.drop 4).take (l.length - 4 - rest.length)))
      · have ht : tak l = (l.getD 4 0, s, l.length - rest.length, 0) := by
          unfold tak; rw [if_neg h6, hx]; show (if (0 : Nat) ≠ 0 then _ else _) = _; rw [if_neg (by simp), if_pos hq]
        rw [ht]
        exact take_ok hT l (by omega) hl hx hq
      · have ht : tak l = (0, [], 0, 3) := by
          unfold tak; rw [if_neg h6, hx]; show (if (0 : Nat) ≠ 0 then _ else _) = _; rw [if_neg (by simp), if_neg hq]
        rw [ht]
        exact take_sum hT l (by omega) hl hx hq
    · have ht : tak l = (0, [], 0, er) := by
        unfold tak; rw [if_neg h6, hx]; show (if er ≠ 0 then _ else _) = _; rw [if_pos he]
      rw [ht]
      exact take_bad l (by omega) hl hx he

theorem bel_dn {B : Nat} {w wr : World} (h : Below B w wr) (n : Nat) : Below B w (wr.drewN n) := ⟨h.os, h.tape, h.output, h.size, h.block⟩
/-- what Take comes to -/
def quad (r : UInt8 × List UInt8 × Nat × Nat) : Value := .tuple #[.int .u8 (r.1.toNat : Int), .string (S r.2.1), .int .i64 (r.2.2.1 : Int), .int .i64 (r.2.2.2 : Int)]
end Go.Proofs.YteifkkceldlfnaaGreatDoor

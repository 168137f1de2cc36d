/-
  A value's text: package value's quoted and Show.
-/
import Derived.Test.YtpbfdaijnndilaaGreatDoorGExprA
import Derived.Test.YtpbfdaijnndilaaGreatDoorV9Lay
import Derived.Test.YtpbfdaijnndilaaGreatDoorV9Byt
import Derived.Lib.AppendIntMem
namespace Go.Proofs.YtpbfdaijnndilaaGreatDoor
open Go.RowKit Go.Shelf Go.Sort
open Go.Lib hiding intOf

theorem hxd_at : ∀ n : Fin 16, (⟨#[48, 49, 50, 51, 52, 53, 54, 55, 56, 57, 97, 98, 99, 100, 101, 102]⟩ : ByteArray)[n.val]! = hxd n.val := by decide
theorem hex_get (n : Nat) (h : n < 16) : ((⟨#[48, 49, 50, 51, 52, 53, 54, 55, 56, 57, 97, 98, 99, 100, 101, 102]⟩ : ByteArray)[n]'h) = hxd n := by
  have := hxd_at ⟨n, h⟩
  rw [getElem!_pos _ n h] at this
  exact this
theorem flat_snoc {l : List UInt8} {i : Nat} (h : i < l.length) : (l.take (i + 1)).flatMap qc = (l.take i).flatMap qc ++ qc l[i] := by rw [List.take_succ_eq_append_getElem h, List.flatMap_append]; simp
theorem qc_len (c : UInt8) : (qc c).length ≤ 4 := by
  unfold qc
  split
  · simp
  · split <;> simp
theorem flat_len : ∀ (l : List UInt8), (l.flatMap qc).length ≤ 4 * l.length
  | [] => by simp
  | c :: t => by
    have := flat_len t
    have := qc_len c
    simp only [List.flatMap_cons, List.length_append, List.length_cons]
    omega
theorem get_S (l : List UInt8) (i : Nat) (h : i < (S l).size) : (S l)[i]'h = l[i]'(by rwa [S_size] at h) := rfl

set_option maxHeartbeats 4000000 in
set_option maxRecDepth 100000 in
theorem quoted_any (l : List UInt8) (hl : l.length ≤ 1024) (w : World) : Calls Tryz.prog 107 #[.string (S l)] w fun e w' => e = .returned (.string (S (quo l))) ∧ Below w.heap.size w w' := by
  have hsz := S_size l
  have K0 : Hid (Bd9 (w.alloc (.cells #[.pointer none, .slice none 0 0] 143)) w.heap.size w.heap.size []) := Bd9.new w
  have B0 : Hid (Below w.heap.size w (w.alloc (.cells #[.pointer none, .slice none 0 0] 143))) := (Below.refl _ w).alloc (Nat.le_refl _) _
  have C1 := wByte K0.out 34 (by simp)
  go_enter Tryz.func107, Tryz.ntmps107
  go_wp2_with (go_at_call 119; refine C1.mono ?_; rintro e w1 ⟨rfl, h1, k1⟩; have H1 : Hid (Bd9 w1 w.heap.size w.heap.size ([34] ++ (l.take 0).flatMap qc) ∧ Below w.heap.size w w1) := ⟨by simpa using h1, B0.out.trans k1.bel⟩; clear h1 k1 C1)
  go_loopw [9] (fun v9 wr => ∃ i : Nat, i ≤ l.length ∧ v9 = .int .i64 (i : Int) ∧ Hid (Bd9 wr w.heap.size w.heap.size ([34] ++ (l.take i).flatMap qc) ∧ Below w.heap.size w wr)) (fun v9 _ => l.length - (intOf v9).toNat)
  case atStart => exact ⟨0, Nat.zero_le _, rfl, H1⟩
  case round =>
    obtain ⟨i, hi, rfl, HB⟩ := hrel
    have hpl := flat_len (l.take i)
    rw [List.length_take] at hpl
    by_cases hlt : i < l.length
    · have hlt' : (i : Int) < (l.length : Int) := by omega
      have hi0' : (0 : Int) ≤ (i : Int) := by omega
      have hlt2 : i < (S l).size := by rw [S_size]; exact hlt
      have hg := get_S l i hlt2
      have HFS := flat_snoc hlt
      have HN : Hid ([34] ++ (l.take (i + 1)).flatMap qc = [34] ++ (l.take i).flatMap qc ++ qc l[i]) := (congrArg ([34] ++ ·) HFS).trans (List.append_assoc _ _ _).symm
      clear HFS
      generalize l[i] = c at *
      obtain ⟨pre, hpre⟩ : ∃ pre, [34] ++ (l.take i).flatMap qc = pre := ⟨_, rfl⟩
      have hpl2 : pre.length ≤ 5000 := by rw [← hpre]; simp only [List.length_append, List.length_singleton]; omega
      rw [hpre] at HB HN
      clear hpre hpl
      have hu := c.toNat_lt
      by_cases q1 : c.toNat = 34 ∨ c.toNat = 92
      · have HQ : Hid (qc c = [92, c]) := by show _ = _; unfold qc; rw [if_pos q1]
        have NX : Hid (∀ W, Bd9 W w.heap.size w.heap.size (pre ++ [92] ++ [c]) → Bd9 W w.heap.size w.heap.size ([34] ++ (l.take (i + 1)).flatMap qc)) := fun W h => by rw [HN.out, HQ.out]; simpa using h
        have hq : ((((c.toNat : Nat) : Int) == 34) = true) ∨ (((((c.toNat : Nat) : Int) == 34) = false) ∧ ((((c.toNat : Nat) : Int) == 92) = true)) := by
          by_cases h : c.toNat = 34
          · exact .inl (by rw [h]; rfl)
          · exact .inr ⟨beq_eq_false_iff_ne.2 (by omega), by rw [beq_iff_eq]; omega⟩
        clear q1 HN HQ
        rcases hq with hq | ⟨hq, hq'⟩
        all_goals
          go_wp2_with (first
            | (go_at_call 119; refine (wByte HB.out.1 92 (by omega)).mono ?_; rintro e w2 ⟨rfl, h2, k2⟩; (have H2 : Hid (Bd9 w2 w.heap.size w.heap.size (pre ++ [92]) ∧ Below w.heap.size w w2) := ⟨h2, HB.out.2.trans k2.bel⟩); clear h2 k2 HB)
            | (go_at_call 119; refine (wByte H2.out.1 c (by simp; omega)).mono ?_; rintro e w3 ⟨rfl, h3, k3⟩; (have H3 : Hid (Bd9 w3 w.heap.size w.heap.size ([34] ++ (l.take (i + 1)).flatMap qc) ∧ Below w.heap.size w w3) := ⟨NX.out _ h3, H2.out.2.trans k3.bel⟩); clear h3 k3))
          go_roundw
          case rel => exact ⟨i + 1, by omega, by simp, H3⟩
          case measure => simp [intOf]; omega
      · have e1 : ((((c.toNat : Nat) : Int) == 34) = false) := beq_eq_false_iff_ne.2 (by omega)
        have e2 : ((((c.toNat : Nat) : Int) == 92) = false) := beq_eq_false_iff_ne.2 (by omega)
        by_cases q2 : c.toNat < 32 ∨ 126 < c.toNat
        · have HQ : Hid (qc c = [92, 120, hxd (c.toNat / 16), hxd (c.toNat % 16)]) := by show _ = _; unfold qc; rw [if_neg q1, if_pos q2]
          have NX : Hid (∀ W, Bd9 W w.heap.size w.heap.size (pre ++ [92, 120] ++ [hxd (c.toNat / 16)] ++ [hxd (c.toNat % 16)]) → Bd9 W w.heap.size w.heap.size ([34] ++ (l.take (i + 1)).flatMap qc)) := fun W h => by rw [HN.out, HQ.out]; simpa using h
          have hq : (((c.toNat : Nat) : Int) < 32) ∨ (¬ ((c.toNat : Nat) : Int) < 32 ∧ (126 : Int) < ((c.toNat : Nat) : Int)) := by omega
          have g1 := hex_get (c.toNat / 16) (by omega)
          have g2 := hex_get (c.toNat % 16) (by omega)
          clear q1 HN HQ q2
          rcases hq with hq | ⟨hq, hq'⟩
          all_goals
            go_wp2_with (first
              | (go_at_call 131; refine (wStr HB.out.1 [92, 120] (by simp; omega)).mono ?_; rintro e w2 ⟨rfl, h2, k2⟩; (have H2 : Hid (Bd9 w2 w.heap.size w.heap.size (pre ++ [92, 120]) ∧ Below w.heap.size w w2) := ⟨h2, HB.out.2.trans k2.bel⟩); clear h2 k2 HB)
              | (go_at_call 119; refine (wByte H2.out.1 (hxd (c.toNat / 16)) (by simp; omega)).mono ?_; rintro e w3 ⟨rfl, h3, k3⟩; (have H3 : Hid (Bd9 w3 w.heap.size w.heap.size (pre ++ [92, 120] ++ [hxd (c.toNat / 16)]) ∧ Below w.heap.size w w3) := ⟨h3, H2.out.2.trans k3.bel⟩); clear h3 k3 H2)
              | (go_at_call 119; refine (wByte H3.out.1 (hxd (c.toNat % 16)) (by simp; omega)).mono ?_; rintro e w4 ⟨rfl, h4, k4⟩; (have H4 : Hid (Bd9 w4 w.heap.size w.heap.size ([34] ++ (l.take (i + 1)).flatMap qc) ∧ Below w.heap.size w w4) := ⟨NX.out _ h4, H3.out.2.trans k4.bel⟩); clear h4 k4))
            go_roundw
            case rel => exact ⟨i + 1, by omega, by simp, H4⟩
            case measure => simp [intOf]; omega
        · have HQ : Hid (qc c = [c]) := by show _ = _; unfold qc; rw [if_neg q1, if_neg q2]
          have NX : Hid (∀ W, Bd9 W w.heap.size w.heap.size (pre ++ [c]) → Bd9 W w.heap.size w.heap.size ([34] ++ (l.take (i + 1)).flatMap qc)) := fun W h => by rw [HN.out, HQ.out]; exact h
          have g1 : ¬ ((c.toNat : Nat) : Int) < 32 := by omega
          have g2 : ¬ (126 : Int) < ((c.toNat : Nat) : Int) := by omega
          clear q1 q2 HN HQ
          go_wp2_with (go_at_call 119; refine (wByte HB.out.1 c (by omega)).mono ?_; rintro e w2 ⟨rfl, h2, k2⟩; (have H2 : Hid (Bd9 w2 w.heap.size w.heap.size ([34] ++ (l.take (i + 1)).flatMap qc) ∧ Below w.heap.size w w2) := ⟨NX.out _ h2, HB.out.2.trans k2.bel⟩); clear h2 k2 HB)
          go_roundw
          case rel => exact ⟨i + 1, by omega, by simp, H2⟩
          case measure => simp [intOf]; omega
    · obtain rfl : i = l.length := by omega
      have hlt' : ¬ (l.length : Int) < (l.length : Int) := by omega
      have HB2 : Hid (Bd9 wr w.heap.size w.heap.size (34 :: l.flatMap qc) ∧ Below w.heap.size w wr) := ⟨by have := HB.out.1; rw [List.take_length] at this; exact this, HB.out.2⟩
      have hfl := flat_len l
      clear HB hpl
      go_wp2_with (first
        | (go_at_call 119; refine (wByte HB2.out.1 34 (by rw [List.length_cons]; omega)).mono ?_; rintro e w2 ⟨rfl, h2, k2⟩; (have H2 : Hid (Bd9 w2 w.heap.size w.heap.size (quo l) ∧ Below w.heap.size w w2) := ⟨h2, HB2.out.2.trans k2.bel⟩); clear h2 k2 HB2)
        | (go_at_call 120; refine (bStr H2.out.1).mono ?_; rintro e w3 ⟨rfl, k3⟩; (have H3 : Hid (Below w.heap.size w w3) := H2.out.2.trans k3.bel); clear k3))
      go_ret
      exact ⟨rfl, H3.out⟩

/-- what the program's variables hold, below block B -/
def Gv (B : Nat) (w : World) : Prop := Lib.TabBelow Tryz.prog B w "internal/strconv.uint64pow10" .u64 Lib.pow10Tab
theorem Gv.below {B : Nat} {w w' : World} (h : Gv B w) (hb : Below B w w') : Gv B w' := fun W hW => h W (hb.trans hW)
theorem Gv.here {B : Nat} {w : World} (h : Gv B w) : Lib.TabIs Tryz.prog w "internal/strconv.uint64pow10" .u64 Lib.pow10Tab := h w (Below.refl _ _)
theorem fmtB (b : Bool) (w : World) : Calls Tryz.prog 108 #[.bool b] w fun e w' => e = .returned (.string (S (Lib.formatBool b))) ∧ w' = w := Any.strconv_FormatBool fbLay b w
theorem fmtI (n : Int) (h0 : -9223372036854775808 ≤ n) (h1 : n ≤ 9223372036854775807) {B : Nat} {w : World} (h : Gv B w) : Calls Tryz.prog 109 #[.int .i64 n, .int .i64 10] w fun e w' => e = .returned (.string (S (Lib.itoa n))) ∧ Below w.heap.size w w' := by
  refine (Any.strconv_FormatInt_10 fiLay n h0 h1 w h.here).mono ?_
  rintro e w' ⟨he, k, os, rfl⟩
  exact ⟨he, Lib.below_grow _ _ (Nat.le_refl _) _ _⟩
theorem fB_true : Lib.formatBool true = [116, 114, 117, 101] := by decide
theorem fB_false : Lib.formatBool false = [102, 97, 108, 115, 101] := by decide

set_option maxHeartbeats 2000000 in
set_option maxRecDepth 100000 in
theorem Show_any (v : V9) (hv : Vk v) {w : World} {B : Nat} (hg : Gv B w) (hB : B ≤ w.heap.size) : Calls Tryz.prog 53 #[vA v] w fun e w' => e = .returned (.string (S (shw v))) ∧ Below w.heap.size w w' := by
  have CM := May_any v
  obtain ⟨k, n, s⟩ := v
  obtain ⟨-, ⟨n1, n2⟩, hs⟩ := hv
  simp only at n1 n2 hs
  have hk := may_kind (v := (k, n, s))
  have hml := may_len (v := (k, n, s))
  have hmb : mayV (2, n, s) = true → n = 0 ∨ n = 1 := fun h => by
    unfold mayV at h
    rw [if_neg (by simp)] at h
    rcases (of_decide_eq_true h).2 with h | h
    · cases h
    · exact h.2
  have B1 : Hid (Below w.heap.size w (w.alloc (.cells #[.int .i64 k, .int .i64 n, .string (S s)] 48))) := (Below.refl _ w).alloc (Nat.le_refl _) _
  have HG : Hid (Gv B w) := hg
  unfold vA at CM ⊢
  cases hm : mayV (k, n, s) with
  | false =>
    rw [hm] at CM
    have HE : Hid (shw (k, n, s) = [63]) := by show _ = _; unfold shw; rw [hm]; rfl
    clear hk hml hm hmb
    go_enter Tryz.func53, Tryz.ntmps53
    go_wp2_with (go_at_call 67; refine (CM _).mono ?_; rintro e w1 ⟨rfl, b1⟩; have B2 : Hid (Below w.heap.size w w1) := bel_of B1.out b1 (Nat.le_refl _); clear b1)
    go_ret
    rw [HE.out]
    exact ⟨rfl, B2.out⟩
  | true =>
    rw [hm] at CM
    have HE : Hid (shw (k, n, s) = if k = 3 then quo s else if k = 2 then (if n = 1 then [116, 114, 117, 101] else [102, 97, 108, 115, 101]) else Lib.itoa n) := by show _ = _; unfold shw; rw [hm]; rfl
    have hk := hk hm
    have hml2 : s.length ≤ 1024 := hml hm
    clear hml
    rcases hk with rfl | rfl | rfl
    · clear hm hmb
      have HI : Hid (∀ W, Below w.heap.size w W → Calls Tryz.prog 109 #[.int .i64 n, .int .i64 10] W fun e w' => e = .returned (.string (S (Lib.itoa n))) ∧ Below W.heap.size W w') := fun W hW => fmtI n n1 n2 (HG.out.below (hW.mono hB))
      go_enter Tryz.func53, Tryz.ntmps53
      go_wp2_with (first
        | (go_at_call 67; refine (CM _).mono ?_; rintro e w1 ⟨rfl, b1⟩; (have B2 : Hid (Below w.heap.size w w1) := bel_of B1.out b1 (Nat.le_refl _)); (have c0 := (b1.cell (p := ⟨w.heap.size, 0, none⟩) (by simp)).trans (World.cell?_alloc_new _ _ _ _)); (have c1 := (b1.cell (p := ⟨w.heap.size, 1, none⟩) (by simp)).trans (World.cell?_alloc_new _ _ _ _)); have CI := HI.out w1 B2.out; clear b1)
        | (go_at_call 109; refine CI.mono ?_; rintro e w2 ⟨rfl, b2⟩; (have B3 : Hid (Below w.heap.size w w2) := bel_of B2.out b2 (Nat.le_refl _)); clear b2))
      go_ret
      rw [HE.out]
      exact ⟨rfl, B3.out⟩
    · have hn := hmb hm
      clear hm hmb
      rcases hn with rfl | rfl
      · have CB := fmtB false
        rw [fB_false] at CB
        go_enter Tryz.func53, Tryz.ntmps53
        go_wp2_with (first
          | (go_at_call 67; refine (CM _).mono ?_; rintro e w1 ⟨rfl, b1⟩; (have B2 : Hid (Below w.heap.size w w1) := bel_of B1.out b1 (Nat.le_refl _)); (have c0 := (b1.cell (p := ⟨w.heap.size, 0, none⟩) (by simp)).trans (World.cell?_alloc_new _ _ _ _)); (have c1 := (b1.cell (p := ⟨w.heap.size, 1, none⟩) (by simp)).trans (World.cell?_alloc_new _ _ _ _)); clear b1)
          | (go_at_call 108; refine (CB _).mono ?_; rintro e w2 ⟨rfl, hw2⟩; rw [hw2]; clear hw2 w2))
        go_ret
        rw [HE.out]
        exact ⟨rfl, B2.out⟩
      · have CB := fmtB true
        rw [fB_true] at CB
        go_enter Tryz.func53, Tryz.ntmps53
        go_wp2_with (first
          | (go_at_call 67; refine (CM _).mono ?_; rintro e w1 ⟨rfl, b1⟩; (have B2 : Hid (Below w.heap.size w w1) := bel_of B1.out b1 (Nat.le_refl _)); (have c0 := (b1.cell (p := ⟨w.heap.size, 0, none⟩) (by simp)).trans (World.cell?_alloc_new _ _ _ _)); (have c1 := (b1.cell (p := ⟨w.heap.size, 1, none⟩) (by simp)).trans (World.cell?_alloc_new _ _ _ _)); clear b1)
          | (go_at_call 108; refine (CB _).mono ?_; rintro e w2 ⟨rfl, hw2⟩; rw [hw2]; clear hw2 w2))
        go_ret
        rw [HE.out]
        exact ⟨rfl, B2.out⟩
    · clear hm hmb
      have CQ := quoted_any s hml2
      go_enter Tryz.func53, Tryz.ntmps53
      go_wp2_with (first
        | (go_at_call 67; refine (CM _).mono ?_; rintro e w1 ⟨rfl, b1⟩; (have B2 : Hid (Below w.heap.size w w1) := bel_of B1.out b1 (Nat.le_refl _)); (have c0 := (b1.cell (p := ⟨w.heap.size, 0, none⟩) (by simp)).trans (World.cell?_alloc_new _ _ _ _)); (have c2 := (b1.cell (p := ⟨w.heap.size, 2, none⟩) (by simp)).trans (World.cell?_alloc_new _ _ _ _)); clear b1)
        | (go_at_call 107; refine (CQ _).mono ?_; rintro e w2 ⟨rfl, b2⟩; (have B3 : Hid (Below w.heap.size w w2) := bel_of B2.out b2 (Nat.le_refl _)); clear b2))
      go_ret
      rw [HE.out]
      exact ⟨rfl, B3.out⟩
end Go.Proofs.YtpbfdaijnndilaaGreatDoor

/-
  The document's text of a value: its decimal, hex and Show.
-/
import Derived.Test.YtnelekbaniljkaaDoorV9One
import Derived.Test.YtnelekbaniljkaaDoorV9Doc
import Derived.Test.YtnelekbaniljkaaDoorV9Tak
import Derived.IntWalk
namespace Go.Proofs.YtnelekbaniljkaaDoor
open Go.RowKit Go.Shelf Go.Sort
open Go.Lib hiding intOf

theorem dec_step {u : Nat} (h : ¬ u / 10 = 0) : Lib.decDigits u = Lib.decDigits (u / 10) ++ [UInt8.ofNat (48 + u % 10)] := by rw [Lib.decDigits, dif_neg (by omega)]
theorem dec_last {u : Nat} (h : u / 10 = 0) : Lib.decDigits u = [UInt8.ofNat (48 + u % 10)] := by rw [Lib.decDigits_one (by omega), Nat.mod_eq_of_lt (by omega)]
theorem dec_len : ∀ (u : Nat), (Lib.decDigits u).length ≤ u + 1
  | u => by
    by_cases h : u / 10 = 0
    · rw [dec_last h]; simp
    · have := dec_len (u / 10)
      rw [dec_step h, List.length_append, List.length_singleton]
      omega
termination_by u => u
decreasing_by omega
theorem dec_len19 {u : Nat} (h : u ≤ 9223372036854775808) : (Lib.decDigits u).length ≤ 1000 := by
  have key : ∀ (k u : Nat), u < 10 ^ (k + 1) → (Lib.decDigits u).length ≤ k + 1 := by
    intro k
    induction k with
    | zero => intro u hu; rw [Lib.decDigits_one (by omega)]; simp
    | succ k ih =>
      intro u hu
      by_cases h : u / 10 = 0
      · rw [dec_last h]; simp
      · rw [dec_step h, List.length_append, List.length_singleton]
        have := ih (u / 10) (by rw [Nat.pow_succ] at hu; omega)
        omega
  have := key 18 u (by omega)
  omega
theorem tdiv_nat (u : Nat) : Int.tdiv (u : Int) 10 = ((u / 10 : Nat) : Int) := by rw [Int.tdiv_eq_ediv_of_nonneg (by omega)]; omega
theorem tmod_nat (u : Nat) : Int.tmod (u : Int) 10 = ((u % 10 : Nat) : Int) := by rw [Int.tmod_eq_emod_of_nonneg (by omega)]; omega
theorem tdiv_neg10 (u : Nat) : Int.tdiv (-(u : Int)) 10 = -((u / 10 : Nat) : Int) := by rw [Int.neg_tdiv, tdiv_nat]
theorem tmod_neg10 (u : Nat) : Int.tmod (-(u : Int)) 10 = -((u % 10 : Nat) : Int) := by rw [Int.neg_tmod, tmod_nat]

set_option maxHeartbeats 4000000 in
set_option maxRecDepth 100000 in
theorem dec_pos (U : Nat) (hU : U ≤ 9223372036854775807) (w : World) : Calls Tryd.prog 36 #[.int .i64 (U : Int)] w fun e w' => e = .returned (.string (S (Lib.decDigits U))) ∧ Below w.heap.size w w' := by
  have hU0 : ¬ (U : Int) < 0 := by omega
  have hDL := dec_len19 (show U ≤ 9223372036854775808 by omega)
  go_enter Tryd.func36, Tryd.ntmps36
  go_wp2
  go_loopw [0, 3] (fun v0 v3 wr => ∃ (u : Nat) (acc : List UInt8), v0 = .int .i64 (u : Int) ∧ v3 = .string (S acc) ∧ u ≤ U ∧ Hid (Lib.decDigits U = Lib.decDigits u ++ acc ∧ Below w.heap.size w wr)) (fun v0 _ _ => (intOf v0).toNat)
  case atStart => exact ⟨U, [], rfl, rfl, Nat.le_refl _, by simp, Below.refl _ _⟩
  case round =>
    obtain ⟨u, acc, rfl, rfl, hu, HI⟩ := hrel
    obtain ⟨r, hr⟩ : ∃ r, u % 10 = r := ⟨_, rfl⟩
    obtain ⟨q, hq⟩ : ∃ q, u / 10 = q := ⟨_, rfl⟩
    have hr9 : r < 10 := by omega
    have e1 := tmod_nat u
    have e2 := tdiv_nat u
    rw [hr] at e1
    rw [hq] at e2
    have e3 : ¬ (r : Int) < 0 := by omega
    obtain ⟨c, hc⟩ : ∃ c, UInt8.ofNat (48 + r) = c := ⟨_, rfl⟩
    have hcn : (c.toNat : Int) = 48 + (r : Int) := by rw [← hc, dig_nat hr9]; omega
    have hcv := fun W => conv1 W (48 + (r : Int)) c hcn
    have hap : S [c] ++ S acc = S (c :: acc) := cat_byte c acc
    have z1 : (S [c]).size = 1 := S_size _
    have z2 := S_size acc
    have hal : acc.length ≤ 1000 := by have h1 := congrArg List.length HI.out.1; rw [List.length_append] at h1; omega
    have hcat : ¬ 9223372036854775807 < (S [c]).size + (S acc).size := by omega
    have hwr : IntKind.u8.wrap (48 + (r : Int)) = 48 + (r : Int) := by rw [IntKind.wrap_u8]; omega
    by_cases h0 : q = 0
    · have h0' : ((q : Int) == 0) = true := by rw [h0]; rfl
      have HE : Hid (Lib.decDigits U = c :: acc) := by show _ = _; rw [HI.out.1, dec_last (by omega), hr, hc]; rfl
      subst h0
      go_wp2
      go_ret
      rw [HE.out]
      exact ⟨rfl, HI.out.2.alloc HI.out.2.size _⟩
    · have h0' : ((q : Int) == 0) = false := by simp; omega
      have HE : Hid (Lib.decDigits U = Lib.decDigits q ++ (c :: acc)) := by show _ = _; rw [HI.out.1, dec_step (by omega), hr, hc, hq]; simp
      go_wp2
      go_roundw
      case rel => exact ⟨q, c :: acc, rfl, rfl, by omega, HE.out, HI.out.2.alloc HI.out.2.size _⟩
      case measure => simp [intOf]; omega

set_option maxHeartbeats 4000000 in
set_option maxRecDepth 100000 in
theorem dec_neg (U : Nat) (hU : U ≤ 9223372036854775808) (hU1 : 1 ≤ U) (w : World) : Calls Tryd.prog 36 #[.int .i64 (-(U : Int))] w fun e w' => e = .returned (.string (S (45 :: Lib.decDigits U))) ∧ Below w.heap.size w w' := by
  have hU0 : -(U : Int) < 0 := by omega
  have hU2 : 0 < U := by omega
  have hDL := dec_len19 hU
  have hsg : S (45 :: Lib.decDigits U) = ⟨#[45]⟩ ++ S (Lib.decDigits U) := (cat_byte 45 (Lib.decDigits U)).symm
  have HSG : Hid (⟨#[45]⟩ ++ S (Lib.decDigits U) = S (45 :: Lib.decDigits U)) := hsg.symm
  have hzd := S_size (Lib.decDigits U)
  clear hsg
  go_enter Tryd.func36, Tryd.ntmps36
  go_wp2
  go_loopw [0, 3] (fun v0 v3 wr => ∃ (u : Nat) (acc : List UInt8), v0 = .int .i64 (-(u : Int)) ∧ v3 = .string (S acc) ∧ u ≤ U ∧ Hid (Lib.decDigits U = Lib.decDigits u ++ acc ∧ Below w.heap.size w wr)) (fun v0 _ _ => (-(intOf v0)).toNat)
  case atStart => exact ⟨U, [], rfl, rfl, Nat.le_refl _, by simp, Below.refl _ _⟩
  case round =>
    obtain ⟨u, acc, rfl, rfl, hu, HI⟩ := hrel
    obtain ⟨r, hr⟩ : ∃ r, u % 10 = r := ⟨_, rfl⟩
    obtain ⟨q, hq⟩ : ∃ q, u / 10 = q := ⟨_, rfl⟩
    have hr9 : r < 10 := by omega
    have e1 := tmod_neg10 u
    have e2 := tdiv_neg10 u
    rw [hr] at e1
    rw [hq] at e2
    obtain ⟨c, hc⟩ : ∃ c, UInt8.ofNat (48 + r) = c := ⟨_, rfl⟩
    have hcn : (c.toNat : Int) = 48 + (r : Int) := by rw [← hc, dig_nat hr9]; omega
    have hcv := fun W => conv1 W (48 + (r : Int)) c hcn
    have hap : S [c] ++ S acc = S (c :: acc) := cat_byte c acc
    have z1 : (S [c]).size = 1 := S_size _
    have z2 := S_size acc
    have hal : acc.length ≤ 1000 := by have h1 := congrArg List.length HI.out.1; rw [List.length_append] at h1; omega
    have hcat : ¬ 9223372036854775807 < (S [c]).size + (S acc).size := by omega
    have hwr : IntKind.u8.wrap (48 + (r : Int)) = 48 + (r : Int) := by rw [IntKind.wrap_u8]; omega
    by_cases h0 : q = 0
    · have h0' : (-(q : Int) == 0) = true := by rw [h0]; rfl
      have HE : Hid (Lib.decDigits U = c :: acc) := by show _ = _; rw [HI.out.1, dec_last (by omega), hr, hc]; rfl
      subst h0
      have hz4 := S_size (c :: acc)
      have hla : (c :: acc).length = acc.length + 1 := rfl
      obtain ⟨cc, hcc⟩ : ∃ cc, c :: acc = cc := ⟨_, rfl⟩
      rw [hcc] at hap hz4 HE hla
      rw [HE.out] at HSG
      clear hcc hDL hzd
      by_cases hr0 : r = 0
      · subst hr0
        have e3 : ¬ (0 : Int) < 0 := by omega
        have hcv2 := fun W => conv1 W 48 c (by simpa using hcn)
        go_wp2
        go_ret
        rw [HE.out, ← HSG.out]
        exact ⟨rfl, HI.out.2.alloc HI.out.2.size _⟩
      · have e3 : -(r : Int) < 0 := by omega
        go_wp2
        go_ret
        rw [HE.out, ← HSG.out]
        exact ⟨rfl, HI.out.2.alloc HI.out.2.size _⟩
    · have h0' : (-(q : Int) == 0) = false := by simp; omega
      have HE : Hid (Lib.decDigits U = Lib.decDigits q ++ (c :: acc)) := by show _ = _; rw [HI.out.1, dec_step (by omega), hr, hc, hq]; simp
      clear hDL hzd HSG
      by_cases hr0 : r = 0
      · subst hr0
        have e3 : ¬ (0 : Int) < 0 := by omega
        have hcv2 := fun W => conv1 W 48 c (by simpa using hcn)
        go_wp2
        go_roundw
        case rel => exact ⟨q, c :: acc, rfl, rfl, by omega, HE.out, HI.out.2.alloc HI.out.2.size _⟩
        case measure => simp [intOf]; omega
      · have e3 : -(r : Int) < 0 := by omega
        go_wp2
        go_roundw
        case rel => exact ⟨q, c :: acc, rfl, rfl, by omega, HE.out, HI.out.2.alloc HI.out.2.size _⟩
        case measure => simp [intOf]; omega
theorem dec_any (n : Int) (h1 : -9223372036854775808 ≤ n) (h2 : n ≤ 9223372036854775807) (w : World) : Calls Tryd.prog 36 #[.int .i64 n] w fun e w' => e = .returned (.string (S (Lib.itoa n))) ∧ Below w.heap.size w w' := by
  by_cases h : n < 0
  · have := dec_neg n.natAbs (by omega) (by omega) w
    rw [show -((n.natAbs : Nat) : Int) = n by omega] at this
    unfold Lib.itoa
    rw [if_pos h]
    exact this
  · have := dec_pos n.toNat (by omega) w
    rw [show ((n.toNat : Nat) : Int) = n by omega] at this
    unfold Lib.itoa
    rw [if_neg h]
    exact this

theorem hx_cut : ∀ a : Fin 16, (⟨#[48, 49, 50, 51, 52, 53, 54, 55, 56, 57, 97, 98, 99, 100, 101, 102]⟩ : ByteArray).extract a.val (a.val + 1) = S [hxd a.val] := by decide +kernel

set_option maxHeartbeats 4000000 in
set_option maxRecDepth 100000 in
theorem hex_any (n : Nat) (hn : n < 256) (w : World) : Calls Tryd.prog 37 #[.int .u8 (n : Int)] w fun e w' => e = .returned (.string (S [hxd (n / 16), hxd (n % 16)])) ∧ Below w.heap.size w w' := by
  obtain ⟨a, ha⟩ : ∃ a, n / 16 = a := ⟨_, rfl⟩
  obtain ⟨b, hb⟩ : ∃ b, n % 16 = b := ⟨_, rfl⟩
  have ha9 : a < 16 := by omega
  have hb9 : b < 16 := by omega
  have e1 : Int.tdiv (n : Int) 16 = (a : Int) := by rw [Int.tdiv_eq_ediv_of_nonneg (by omega)]; omega
  have e2 : Int.tmod (n : Int) 16 = (b : Int) := by rw [Int.tmod_eq_emod_of_nonneg (by omega)]; omega
  have x1 := hx_cut ⟨a, ha9⟩
  have x2 := hx_cut ⟨b, hb9⟩
  simp only at x1 x2
  have HAP : Hid (S [hxd a] ++ S [hxd b] = S [hxd a, hxd b]) := S_append _ _
  have z1 : (S [hxd a]).size = 1 := S_size _
  have z2 : (S [hxd b]).size = 1 := S_size _
  have w1 : IntKind.u8.wrap ((a : Int) + 1) = (a : Int) + 1 := by rw [IntKind.wrap_u8]; omega
  have w2 : IntKind.u8.wrap ((b : Int) + 1) = (b : Int) + 1 := by rw [IntKind.wrap_u8]; omega
  have i1 : (0 : Int) ≤ (a : Int) := by omega
  have i2 : (0 : Int) ≤ (b : Int) := by omega
  have i3 : (a : Int) ≤ (a : Int) + 1 := by omega
  have i4 : (b : Int) ≤ (b : Int) + 1 := by omega
  have i5 : (a : Int) + 1 ≤ 16 := by omega
  have i6 : (b : Int) + 1 ≤ 16 := by omega
  rw [ha, hb]
  generalize hxd a = ca at *
  generalize hxd b = cb at *
  clear ha hb
  go_enter Tryd.func37, Tryd.ntmps37
  go_wp2
  go_quiet (fail)
  go_wp2
  go_ret
  rw [HAP.out]
  exact ⟨rfl, below_drewN (Below.refl _ _) _⟩

theorem S_one (l : List UInt8) (i : Nat) (h : i < l.length) : (S l).extract i (i + 1) = S [l[i]] := by
  apply ByteArray.ext
  rw [ByteArray.data_extract]
  simp only [S, List.extract_toArray, List.extract_eq_take_drop]
  congr 1
  rw [Nat.add_sub_cancel_left, List.drop_eq_getElem_cons h]
  rfl
theorem S_at (l : List UInt8) (i : Nat) (h : i < l.length) (h' : i < (S l).size) : (S l)[i]'h' = l[i]'h := by simp [S, ByteArray.getElem_eq_getElem_data]
/-- what stands in the loop of the document's Show: so many bytes are written -/
theorem qc_next {s : List UInt8} {i : Nat} (h : i < s.length) : 34 :: (s.take (i + 1)).flatMap qc = (34 :: (s.take i).flatMap qc) ++ qc s[i] := by
  rw [List.take_succ_eq_append_getElem h, List.flatMap_append]
  simp
theorem qc_le4 (c : UInt8) : (qc c).length ≤ 4 := by
  unfold qc
  split
  · simp
  · split <;> simp
theorem quo_len (s : List UInt8) : (34 :: s.flatMap qc).length ≤ 4 * s.length + 1 := by
  induction s with
  | nil => simp
  | cons c t ih =>
    have := qc_le4 c
    simp only [List.flatMap_cons, List.length_cons, List.length_append] at ih ⊢
    omega

set_option maxHeartbeats 1500000 in
set_option maxRecDepth 100000 in
theorem dShow_any (v : V9) (hv : Vk v) (w : World) : Calls Tryd.prog 15 #[vA v] w fun e w' => e = .returned (.string (S (shw v))) ∧ Below w.heap.size w w' := by
  have CM := dMay_any v
  obtain ⟨k, n, s⟩ := v
  obtain ⟨-, ⟨n1, n2⟩, hs⟩ := hv
  simp only at n1 n2 hs
  have hk := may_kind (v := (k, n, s))
  have hml := may_len (v := (k, n, s))
  have HSH : Hid (shw (k, n, s) = if mayV (k, n, s) then (if k = 3 then quo s else if k = 2 then (if n = 1 then [116, 114, 117, 101] else [102, 97, 108, 115, 101]) else Lib.itoa n) else [63]) := by show _ = _; rfl
  have B1 : Hid (Below w.heap.size w (w.alloc (.cells #[.int .i64 k, .int .i64 n, .string (S s)] 23))) := (Below.refl _ w).alloc (Nat.le_refl _) _
  have HC : Hid (∀ w1, Below (w.alloc (.cells #[.int .i64 k, .int .i64 n, .string (S s)] 23)).heap.size (w.alloc (.cells #[.int .i64 k, .int .i64 n, .string (S s)] 23)) w1 → B3 w1 w.heap.size (.int .i64 k) (.int .i64 n) (.string (S s))) := fun w1 b1 => (B3.new _ _ _ _).up b1
  unfold vA at CM ⊢
  cases hm : mayV (k, n, s) with
  | false =>
    rw [hm] at CM HSH
    clear hk hml hm
    go_enter Tryd.func15, Tryd.ntmps15
    go_wp2_with (go_at_call 7; refine (CM _).mono ?_; rintro e w1 ⟨rfl, b1⟩; have B2 : Hid (Below w.heap.size w w1) := bel_of B1.out b1 (Nat.le_refl _); clear b1)
    go_ret
    rw [HSH.out]
    exact ⟨rfl, B2.out⟩
  | true =>
    rw [hm] at CM HSH
    have hk := hk hm
    have hml : s.length ≤ 1024 := hml hm
    clear hm
    rcases hk with hk | hk | hk
    · simp only at hk
      subst hk
      have CD := dec_any n n1 n2
      have HE : Hid (shw (1, n, s) = Lib.itoa n) := by show _ = _; rw [HSH.out]; rfl
      go_enter Tryd.func15, Tryd.ntmps15
      go_wp2_with (first
        | (go_at_call 7; refine (CM _).mono ?_; rintro e w1 ⟨rfl, b1⟩; (have B2 : Hid (Below w.heap.size w w1) := bel_of B1.out b1 (Nat.le_refl _)); (have c0 := (HC.out w1 b1).c0); (have c1 := (HC.out w1 b1).c1); clear b1)
        | (go_at_call 36; refine (CD _).mono ?_; rintro e w2 ⟨rfl, b2⟩; (have B3' : Hid (Below w.heap.size w w2) := bel_of B2.out b2 (Nat.le_refl _)); clear b2))
      go_ret
      rw [HE.out]
      exact ⟨rfl, B3'.out⟩
    · simp only at hk
      subst hk
      by_cases h1 : n = 1
      · subst h1
        have HE : Hid (shw (2, 1, s) = [116, 114, 117, 101]) := by show _ = _; rw [HSH.out]; rfl
        go_enter Tryd.func15, Tryd.ntmps15
        go_wp2_with (go_at_call 7; refine (CM _).mono ?_; rintro e w1 ⟨rfl, b1⟩; (have B2 : Hid (Below w.heap.size w w1) := bel_of B1.out b1 (Nat.le_refl _)); (have c0 := (HC.out w1 b1).c0); (have c1 := (HC.out w1 b1).c1); clear b1)
        go_ret
        rw [HE.out]
        exact ⟨rfl, B2.out⟩
      · have h1' : ((n : Int) == 1) = false := beq_eq_false_iff_ne.2 h1
        have HE : Hid (shw (2, n, s) = [102, 97, 108, 115, 101]) := by show _ = _; rw [HSH.out, if_pos rfl, if_neg (by decide), if_pos rfl, if_neg h1]
        go_enter Tryd.func15, Tryd.ntmps15
        go_wp2_with (go_at_call 7; refine (CM _).mono ?_; rintro e w1 ⟨rfl, b1⟩; (have B2 : Hid (Below w.heap.size w w1) := bel_of B1.out b1 (Nat.le_refl _)); (have c0 := (HC.out w1 b1).c0); (have c1 := (HC.out w1 b1).c1); clear b1)
        go_ret
        rw [HE.out]
        exact ⟨rfl, B2.out⟩
    · simp only at hk
      subst hk
      have HE : Hid (shw (3, n, s) = (34 :: s.flatMap qc) ++ [34]) := by show _ = _; rw [HSH.out]; rfl
      have HFL : Hid (∀ i, (34 :: (s.take i).flatMap qc).length ≤ 4097) := fun i => by
        have h1 := quo_len (s.take i)
        have h2 : (s.take i).length ≤ s.length := by rw [List.length_take]; omega
        omega
      have hss := S_size s
      go_enter Tryd.func15, Tryd.ntmps15
      go_wp2_with (go_at_call 7; refine (CM _).mono ?_; rintro e w1 ⟨rfl, b1⟩; (have B2 : Hid (Below w.heap.size w w1) := bel_of B1.out b1 (Nat.le_refl _)); (have V1 : Hid (B3 w1 w.heap.size (.int .i64 3) (.int .i64 n) (.string (S s))) := HC.out w1 b1); (have c0 := V1.out.c0); clear b1)
      go_loopw [4, 5] (fun v4 v5 wr => ∃ (i : Nat) (t : List UInt8), i ≤ s.length ∧ v5 = .int .i64 (i : Int) ∧ v4 = .string (S t) ∧ Hid (t = 34 :: (s.take i).flatMap qc ∧ Below w1.heap.size w1 wr)) (fun _ v5 _ => s.length - (intOf v5).toNat)
      case atStart => exact ⟨0, [34], Nat.zero_le _, rfl, rfl, rfl, Below.refl _ _⟩
      case round =>
        obtain ⟨i, t, hi, rfl, rfl, HI⟩ := hrel
        have c2 := (V1.out.up HI.out.2).c2
        have hz1 := S_size t
        have htl : t.length ≤ 4097 := by have := HFL.out i; rw [← HI.out.1] at this; exact this
        by_cases hlt : i < s.length
        · have hlt' : (i : Int) < (s.length : Int) := by omega
          have hi0 : (0 : Int) ≤ (i : Int) := by omega
          have hi1 : (i : Int) ≤ (i : Int) + 1 := by omega
          have hi2 : (i : Int) + 1 ≤ (s.length : Int) := by omega
          have hx := S_one s i hlt
          have HNX := qc_next hlt
          rw [← HI.out.1] at HNX
          have HNX' : Hid (34 :: (s.take (i + 1)).flatMap qc = t ++ qc s[i]) := HNX
          have hq4 := qc_le4 s[i]
          obtain ⟨c, hce⟩ : ∃ c, s[i] = c := ⟨_, rfl⟩
          have hgi : ∀ (h : i < (S s).size), (S s)[i]'h = c := fun h => (S_at s i hlt h).trans hce
          rw [hce] at hx HNX HNX' hq4
          clear hce
          have hc := c.toNat_lt
          have CX := hex_any c.toNat (by omega)
          have hapx : S t ++ S (qc c) = S (t ++ qc c) := S_append _ _
          have hz2 := S_size (qc c)
          have hz3 : (S [c]).size = 1 := S_size _
          clear HNX
          by_cases h1 : c.toNat = 34 ∨ c.toNat = 92
          · have HQ : Hid (qc c = [92, c]) := by show _ = _; unfold qc; rw [if_pos h1]
            have a1 : ⟨#[92]⟩ ++ S [c] = S [92, c] := S_append [92] [c]
            have z4 : (S [92, c]).size = 2 := S_size _
            have a2 : S t ++ S [92, c] = S (t ++ [92, c]) := S_append _ _
            rw [HQ.out] at HNX'
            have g3 : ¬ (c.toNat : Int) < 32 := by omega
            have g4 : ¬ (126 : Int) < (c.toNat : Int) := by omega
            clear CX hapx hz2 hq4 HQ
            rcases h1 with h1 | h1
            · have g1 : ((c.toNat : Int) == 34) = true := by rw [h1]; rfl
              skip
              go_wp2
              go_roundw
              case rel => exact ⟨i + 1, t ++ [92, c], by omega, by simp, rfl, HNX'.out.symm, HI.out.2⟩
              case measure => simp [intOf]; omega
            · have g1 : ((c.toNat : Int) == 34) = false := by rw [h1]; rfl
              have g2 : ((c.toNat : Int) == 92) = true := by rw [h1]; rfl
              skip
              go_wp2
              go_roundw
              case rel => exact ⟨i + 1, t ++ [92, c], by omega, by simp, rfl, HNX'.out.symm, HI.out.2⟩
              case measure => simp [intOf]; omega
          · have g1 : ((c.toNat : Int) == 34) = false := by rw [beq_eq_false_iff_ne]; omega
            have g2 : ((c.toNat : Int) == 92) = false := by rw [beq_eq_false_iff_ne]; omega
            by_cases h2 : c.toNat < 32 ∨ 126 < c.toNat
            · have HQ : Hid (qc c = [92, 120, hxd (c.toNat / 16), hxd (c.toNat % 16)]) := by show _ = _; unfold qc; rw [if_neg h1, if_pos h2]
              obtain ⟨y, hy⟩ : ∃ y, [hxd (c.toNat / 16), hxd (c.toNat % 16)] = y := ⟨_, rfl⟩
              have hyl : y.length = 2 := by rw [← hy]; rfl
              have HQ2 : Hid (qc c = [92, 120] ++ y) := by show _ = _; rw [HQ.out, ← hy]; rfl
              rw [hy] at CX
              rw [HQ2.out] at HNX'
              have a1 : ⟨#[92, 120]⟩ ++ S y = S ([92, 120] ++ y) := S_append [92, 120] y
              have z4 : (S ([92, 120] ++ y)).size = 4 := by rw [S_size, List.length_append, hyl]; rfl
              have z5 : (S y).size = 2 := by rw [S_size, hyl]
              have a2 : S t ++ S ([92, 120] ++ y) = S (t ++ ([92, 120] ++ y)) := S_append _ _
              obtain ⟨yy, hyy⟩ : ∃ yy, [92, 120] ++ y = yy := ⟨_, rfl⟩
              rw [hyy] at a1 z4 a2 HNX'
              clear hapx hz2 hq4 HQ HQ2 hy hyy hyl
              rcases h2 with h2 | h2
              · have g3 : (c.toNat : Int) < 32 := by omega
                skip
                go_wp2_with (go_at_call 37; refine (CX _).mono ?_; rintro e w3 ⟨rfl, b3⟩; (have B4 : Hid (Below w1.heap.size w1 w3) := bel_of HI.out.2 b3 (Nat.le_refl _)); clear b3 CX)
                go_roundw
                case rel => exact ⟨i + 1, t ++ yy, by omega, by simp, rfl, HNX'.out.symm, B4.out⟩
                case measure => simp [intOf]; omega
              · have g3 : ¬ (c.toNat : Int) < 32 := by omega
                have g4 : (126 : Int) < (c.toNat : Int) := by omega
                skip
                go_wp2_with (go_at_call 37; refine (CX _).mono ?_; rintro e w3 ⟨rfl, b3⟩; (have B4 : Hid (Below w1.heap.size w1 w3) := bel_of HI.out.2 b3 (Nat.le_refl _)); clear b3 CX)
                go_roundw
                case rel => exact ⟨i + 1, t ++ yy, by omega, by simp, rfl, HNX'.out.symm, B4.out⟩
                case measure => simp [intOf]; omega
            · have HQ : Hid (qc c = [c]) := by show _ = _; unfold qc; rw [if_neg h1, if_neg h2]
              have g3 : ¬ (c.toNat : Int) < 32 := by omega
              have g4 : ¬ (126 : Int) < (c.toNat : Int) := by omega
              rw [HQ.out] at HNX'
              have a2 : S t ++ S [c] = S (t ++ [c]) := S_append _ _
              clear CX hapx hz2 hq4 HQ
              skip
              go_wp2
              go_roundw
              case rel => exact ⟨i + 1, t ++ [c], by omega, by simp, rfl, HNX'.out.symm, HI.out.2⟩
              case measure => simp [intOf]; omega
        · have hlt' : ¬ (i : Int) < (s.length : Int) := by omega
          have hti : s.take i = s := List.take_of_length_le (by omega)
          have HT : Hid (t = 34 :: s.flatMap qc) := by have := HI.out.1; rwa [hti] at this
          have HAP : Hid (S t ++ ⟨#[34]⟩ = S (t ++ [34])) := S_append _ _
          clear hi hti
          go_wp2
          go_ret
          rw [HE.out, ← HT.out, ← HAP.out]
          exact ⟨rfl, bel_of B2.out HI.out.2 (Nat.le_refl _)⟩
end Go.Proofs.YtnelekbaniljkaaDoor

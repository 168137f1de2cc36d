/-
  Proved: for every slice of variables, name, value and text ValueBack answers true, and changes nothing that was there before the call: a value, and variables, that may be are taken from their bytes, whatever follows; what was put is got, and all others stay. The program's own tables are as its text lays them (the card's tie).
-/
import Derived.Test.YtnelekbaniljkaaDoorV9Vars
import Derived.Test.YtnelekbaniljkaaDoorV9Tkv
import Derived.Test.YtnelekbaniljkaaDoorV9Bk
import Derived.Test.YtnelekbaniljkaaDoorV9Vb
import Derived.Test.YtnelekbaniljkaaDoorV9Gp
import Derived.Test.YtnelekbaniljkaaDoorV9Put
import Derived.Test.YtnelekbaniljkaaDoorV9Get
namespace Go.Proofs.YtnelekbaniljkaaDoor.valueBack
open Go.RowKit Go.Shelf Go.Sort
open Go.Lib hiding intOf

set_option maxHeartbeats 400000 in
theorem read9 (l : List UInt8) (w : World) : Calls Tryd.prog 21 #[.string (S l)] w fun r w' => r = .returned (.pointer (some ⟨w.heap.size, 0, none⟩)) ∧ Rd w' w.heap.size l 0 ∧ Below w.heap.size w w' := by
  go_enter Tryd.func21, Tryd.ntmps21
  go_wp2
  go_ret
  exact ⟨rfl, ⟨by go_simp, by go_simp, by go_simp, by go_simp, by simp⟩, (Below.refl _ _).alloc (Nat.le_refl _) _⟩
theorem row_len {x : Vr} (hx : okV x = true) (hk : Vk x.2) : (rowV x).length ≤ 1142 := by
  unfold okV at hx
  simp only [Bool.and_eq_true] at hx
  have h1 := nam_len hx.1
  have h2 := bytV_len hk
  have h3 := txt_length x.1.data.toList
  have h4 := Lib.uvarint_length64 (show x.1.data.toList.length < 18446744073709551616 by omega)
  unfold rowV
  rw [List.length_append]
  omega
theorem rows_len : ∀ {l : List Vr}, (∀ x ∈ l, okV x = true) → (∀ x ∈ l, Vk x.2) → ((l.map rowV).flatten).length ≤ l.length * 1142
  | [], _, _ => by simp
  | x :: t, h, k => by
    have h1 := row_len (h x (by simp)) (k x (by simp))
    have h2 := rows_len (l := t) (fun y hy => h y (by simp [hy])) (fun y hy => k y (by simp [hy]))
    simp only [List.map_cons, List.flatten_cons, List.length_append, List.length_cons]
    omega
theorem vbs_len {l : List Vr} (hr : rgt l = true) (hk : ∀ x ∈ l, Vk x.2) : (vbs l).length ≤ 18282 := by
  obtain ⟨h1, -, h3⟩ := rgt_iff.1 hr
  have h4 := rows_len h3 hk
  have h5 := Lib.uvarint_length64 (show l.length < 18446744073709551616 by omega)
  unfold vbs
  rw [if_pos hr, List.length_append]
  omega

def arg (v : Value) (k : ByteArray) (x : V9) (m : List UInt8) : Value := .agg #[v, .string k, .int .i64 x.1, .int .i64 x.2.1, .string (S x.2.2), .string (S m)]

set_option maxHeartbeats 16000000 in
set_option maxRecDepth 100000 in
theorem walk (k : ByteArray) (x : V9) (m : List UInt8) {w : World} {v : Value} {l : List Vr} (hv : Vs w v l) (hn : l.length * 48 ≤ 140737488355328) (hs : Sm9 l) (hk : k.size ≤ 140737488355328) (hx : Vk x) (hm : m.length ≤ 140737488351232) (hg : Gv w.heap.size w) :
    Calls Tryd.prog 4 #[arg v k x m] w fun e w' => e = .returned (.bool true) ∧ Below w.heap.size w w' := by
  have hVk : ∀ y ∈ l, Vk y.2 := fun y hy => (hs y hy).2
  have HMY : Hid (∀ W, Calls Tryd.prog 7 #[vA x] W fun e w' => e = .returned (.bool (mayV x)) ∧ Below W.heap.size W w') := fun W => dMay_any x W
  have HRG : Hid (∀ W, Below w.heap.size w W → Calls Tryd.prog 11 #[v] W fun e w' => e = .returned (.bool (rgt l)) ∧ Below W.heap.size W w') := fun W hW => dRgt_any (hv.up hW) (by omega) hs
  have HBY : Hid (∀ W, Calls Tryd.prog 12 #[vA x] W fun e w' => e = .returned (.string (S (bytV x))) ∧ Below W.heap.size W w') := fun W => Bytes_any x hx W
  have HVB : Hid (∀ W, Below w.heap.size w W → Calls Tryd.prog 16 #[v] W fun e w' => e = .returned (.string (S (vbs l))) ∧ Below W.heap.size W w') := fun W hW => Vb_any (hv.up hW) (by omega) hs
  have HPT : Hid (∀ W, Below w.heap.size w W → Calls Tryd.prog 24 #[v, .string k, vA x] W (PuR W l k x)) := fun W hW => Put_any k x (hv.up hW) (by omega) hs hk
  have HTK : Hid (mayV x = true → ∀ W b, Rd W b (bytV x ++ m) 0 → Calls Tryd.prog 20 #[.pointer (some ⟨b, 0, none⟩)] W fun e w' => e = .returned (.tuple #[vA x, .bool true]) ∧ But b W w') := fun hm' W b h => by
    have h1 := bytV_len hx
    refine (Take_any h (by rw [List.length_append]; omega)).mono ?_
    rintro e w' hh
    unfold TkP at hh
    rw [show tkR (bytV x ++ m) 0 = (x, true) by unfold tkR; rw [if_pos rfl, tkV_back hm' hx]] at hh
    exact ⟨hh.1, hh.2.1⟩
  have HTV : Hid (rgt l = true → ∀ W b, Rd W b (vbs l ++ m) 0 → Calls Tryd.prog 22 #[.pointer (some ⟨b, 0, none⟩)] W fun e w' => ∃ v', e = .returned (.tuple #[v', .bool true]) ∧ Vs w' v' l ∧ But b W w') := fun hr W b h => by
    have h1 := vbs_len hr hVk
    refine (TakeVars_any h (by rw [List.length_append]; omega)).mono ?_
    rintro e w' hh
    unfold TlP at hh
    rw [show tlR (vbs l ++ m) = (l, true) by unfold tlR; rw [tkL_back hr hVk]] at hh
    exact hh
  have HSM : Hid (∀ W u, Below w.heap.size w W → Vs W u l → Calls Tryd.prog 23 #[v, u] W fun e w' => e = .returned (.bool true) ∧ Below W.heap.size W w') := fun W u hW hu => by
    have := Same9_any (hv.up hW) hu (by omega) (by omega)
    rwa [decide_eq_true rfl] at this
  have HV : Hid (Vs w v l) := hv
  have hbl := bytV_len hx
  have HVL : Hid (rgt l = true → (vbs l).length ≤ 18282) := fun hr => vbs_len hr hVk
  have HOK : Hid ((putV l k x).2 = 0 → (putV l k x).1 = put l k x ∧ rgt (put l k x) = true ∧ getV (put l k x) k = (x, true) ∧ ∀ y ∈ l, y.1 ≠ k → getV (put l k x) y.1 = (y.2, true)) := fun h => putV_ok h
  have HNO : Hid ((putV l k x).2 ≠ 0 → (putV l k x).1 = []) := fun h => putV_no h
  have HSP : Hid ((putV l k x).2 = 0 → Sm9 (put l k x) ∧ (put l k x).length ≤ 16) := fun h => by
    refine ⟨fun y hy => ?_, (rgt_iff.1 (putV_ok h).2.1).1⟩
    rcases put_sub hy with rfl | hy
    · exact ⟨hk, hx⟩
    · exact hs y hy
  have HMP : Hid (mayV x = false → (putV l k x).2 ≠ 0) := fun h => by unfold putV; rw [h]; simp
  obtain ⟨x1, x2, x3⟩ := x
  obtain ⟨W1, hW1⟩ : ∃ W1, (w.alloc (.cells #[v, .string k, .int .i64 x1, .int .i64 x2, .string (S x3), .string (S m)] 36)).alloc (.cells #[.int .i64 x1, .int .i64 x2, .string (S x3)] 23) = W1 := ⟨_, rfl⟩
  have B0 : Hid (Below w.heap.size w W1) := by rw [← hW1]; exact ((Below.refl _ w).alloc (Nat.le_refl _) _).alloc (by simp) _
  have CS := shown9_any (hg.below B0.out) B0.out.size
  have hcx : ∀ i, W1.cell? ⟨w.heap.size + 1, i, none⟩ = (#[.int .i64 x1, .int .i64 x2, .string (S x3)] : Array Value)[i]? := fun i => by
    rw [← hW1]
    have := World.cell?_alloc_new (w.alloc (.cells #[v, .string k, .int .i64 x1, .int .i64 x2, .string (S x3), .string (S m)] 36)) #[.int .i64 x1, .int .i64 x2, .string (S x3)] 23 i
    rwa [World.size_alloc] at this
  have hzz : w.heap.size + 1 < W1.heap.size := by rw [← hW1]; simp
  have HCX : Hid (∀ W, Below W1.heap.size W1 W → W.cell? ⟨w.heap.size + 1, 0, none⟩ = some (.int .i64 x1) ∧ W.cell? ⟨w.heap.size + 1, 1, none⟩ = some (.int .i64 x2) ∧ W.cell? ⟨w.heap.size + 1, 2, none⟩ = some (.string (S x3))) := fun W hW => ⟨(hW.cell (p := ⟨w.heap.size + 1, 0, none⟩) hzz).trans (hcx 0), (hW.cell (p := ⟨w.heap.size + 1, 1, none⟩) hzz).trans (hcx 1), (hW.cell (p := ⟨w.heap.size + 1, 2, none⟩) hzz).trans (hcx 2)⟩
  have HW : Hid (∀ W, Below W1.heap.size W1 W → Below w.heap.size w W) := fun W hW => bel_of B0.out hW (Nat.le_refl _)
  have HWE : Hid (_ = W1) := hW1
  clear hW1
  unfold arg
  unfold vA at HMY HBY HPT HTK
  simp only at HMY HBY HPT HTK
  obtain ⟨va, vcap, rfl, -⟩ := hv
  obtain ⟨bx, hbx⟩ : ∃ bx, bytV (x1, x2, x3) = bx := ⟨_, rfl⟩
  obtain ⟨bl, hbl2⟩ : ∃ bl, vbs l = bl := ⟨_, rfl⟩
  obtain ⟨bm, hbm⟩ : ∃ bm, bx ++ m = bm := ⟨_, rfl⟩
  obtain ⟨lm, hlm⟩ : ∃ lm, bl ++ m = lm := ⟨_, rfl⟩
  rw [hbx] at HBY HTK hbl
  rw [hbl2] at HVB HTV HVL
  rw [hbm] at HTK
  rw [hlm] at HTV
  have hap : S bx ++ S m = S bm := by rw [← hbm]; exact S_append _ _
  have hap2 : S bl ++ S m = S lm := by rw [← hlm]; exact S_append _ _
  have hz1 := S_size bx
  have hz2 := S_size m
  have hz3 := S_size bl
  have hnl : l.length ≤ 4611686018427387904 := by omega
  clear hbx hbl2 hbm hlm hcx hg hx hs hVk hn hk
  cases hmy : mayV (x1, x2, x3) with
  | true =>
    rw [hmy] at HMY
    replace HTK : Hid _ := HTK.out hmy
    clear hmy
    cases hr : rgt l with
    | false =>
      rw [hr] at HRG
      clear hr HTV HVL HOK HNO HSP HMP HPT HSM HVB
      go_enter Tryd.func4, Tryd.ntmps4
      go_wp2_with (first
        | (go_at_call 5; (try rw [HWE.out]); refine CS.mono ?_; rintro e w1 ⟨rfl, b1⟩; (have B1 : Hid (Below W1.heap.size W1 w1) := b1); obtain ⟨s0, s1, s2⟩ := HCX.out w1 b1; have CM := HMY.out w1; clear b1 CS)
        | (go_at_call 7; refine CM.mono ?_; rintro e w2 ⟨rfl, b2⟩; (have B2 : Hid (Below W1.heap.size W1 w2) := bel_of B1.out b2 (Nat.le_refl _)); clear s0 s1 s2; have CRT := HRG.out w2 (HW.out w2 B2.out); clear b2 CM)
        | (go_at_call 11; refine CRT.mono ?_; rintro e w3 ⟨rfl, b3⟩; (have B3' : Hid (Below W1.heap.size W1 w3) := bel_of B2.out b3 (Nat.le_refl _)); obtain ⟨s0, s1, s2⟩ := HCX.out w3 B3'.out; have CB := HBY.out w3; clear b3 CRT)
        | (go_at_call 12; refine CB.mono ?_; rintro e w4 ⟨rfl, b4⟩; (have B4 : Hid (Below W1.heap.size W1 w4) := bel_of B3'.out b4 (Nat.le_refl _)); have CR := read9 bm w4; clear s0 s1 s2 b4 CB)
        | (go_at_call 21; refine CR.mono ?_; rintro e w5 ⟨rfl, r5, b5⟩; (have B5 : Hid (Below w4.heap.size w4 w5) := b5); have CK := HTK.out w5 _ r5; clear b5 r5 CR)
        | (go_at_call 20; refine CK.mono ?_; rintro e w6 ⟨rfl, b6⟩; (have hz4 := B5.out.size); (have B6 : Hid (Below W1.heap.size W1 (w6.alloc (.cells #[.int .i64 x1, .int .i64 x2, .string (S x3)] 23))) := (bel_of B4.out (B5.out.trans (b6.below (Nat.le_refl _) hz4)) (Nat.le_refl _)).alloc (by have h1 := B4.out.size; have h2 := b6.size; omega) _); obtain ⟨s0, s1, s2⟩ := HCX.out _ B6.out; skip; clear b6 CK))
      go_ret
      exact ⟨rfl, HW.out _ B6.out⟩
    | true =>
      rw [hr] at HRG
      replace HTV : Hid _ := HTV.out hr
      have hvl := HVL.out hr
      clear hr HVL
      obtain ⟨pl, pe, hpv⟩ : ∃ pl pe, putV l k (x1, x2, x3) = (pl, pe) := ⟨_, _, rfl⟩
      rw [hpv] at HOK HNO HSP HMP
      by_cases hpe : pe = 0
      · subst hpe
        obtain ⟨h1, h2, h3, h4⟩ := HOK.out rfl
        obtain ⟨h5, h6⟩ := HSP.out rfl
        simp only at h1
        rw [← h1] at h2 h3 h4 h5 h6
        have HPR : Hid (∀ W e w', PuR W l k (x1, x2, x3) e w' → ∃ pa pcap, e = .returned (.tuple #[.slice pa pl.length pcap, .int .i64 0]) ∧ Vs w' (.slice pa pl.length pcap) pl ∧ Below W.heap.size W w') := fun W e w' h => by
          unfold PuR at h
          rw [hpv] at h
          obtain ⟨v', g1, g2, g3⟩ := h
          have g2' := g2
          obtain ⟨a, c, rfl, -⟩ := g2
          exact ⟨a, c, g1, g2', g3⟩
        have HGK : Hid (∀ W u, Vs W u pl → Calls Tryd.prog 25 #[u, .string k] W fun e w' => e = .returned (.tuple #[.agg #[.int .i64 x1, .int .i64 x2, .string (S x3)], .bool true]) ∧ Below W.heap.size W w') := fun W u hu => by
          have := Get_any k hu (by omega)
          rwa [h3] at this
        have HGI : Hid (∀ W u (i : Nat) (hi : i < l.length), Vs W u pl → l[i].1 ≠ k → Calls Tryd.prog 25 #[u, .string l[i].1] W fun e w' => e = .returned (.tuple #[vA l[i].2, .bool true]) ∧ Below W.heap.size W w') := fun W u i hi hu hne => by
          have := Get_any l[i].1 hu (by omega)
          rwa [h4 l[i] (List.getElem_mem hi) hne] at this
        have HRP : Hid (∀ W u, Vs W u pl → Calls Tryd.prog 11 #[u] W fun e w' => e = .returned (.bool true) ∧ Below W.heap.size W w') := fun W u hu => by
          have := dRgt_any hu (by omega) h5
          rwa [h2] at this
        clear hpv h1 h2 h3 h4 h5 h6 HOK HNO HSP HMP
        go_enter Tryd.func4, Tryd.ntmps4
        go_wp2_with (first
          | (go_at_call 5; (try rw [HWE.out]); refine CS.mono ?_; rintro e w1 ⟨rfl, b1⟩; (have B1 : Hid (Below W1.heap.size W1 w1) := b1); obtain ⟨s0, s1, s2⟩ := HCX.out w1 b1; have CM := HMY.out w1; clear b1 CS)
          | (go_at_call 7; refine CM.mono ?_; rintro e w2 ⟨rfl, b2⟩; (have B2 : Hid (Below W1.heap.size W1 w2) := bel_of B1.out b2 (Nat.le_refl _)); clear s0 s1 s2; have CRT := HRG.out w2 (HW.out w2 B2.out); clear b2 CM)
          | (go_at_call 11; refine CRT.mono ?_; rintro e w3 ⟨rfl, b3⟩; (have B3' : Hid (Below W1.heap.size W1 w3) := bel_of B2.out b3 (Nat.le_refl _)); obtain ⟨s0, s1, s2⟩ := HCX.out w3 B3'.out; have CB := HBY.out w3; clear b3 CRT)
          | (go_at_call 12; refine CB.mono ?_; rintro e w4 ⟨rfl, b4⟩; (have B4 : Hid (Below W1.heap.size W1 w4) := bel_of B3'.out b4 (Nat.le_refl _)); have CR := read9 bm w4; clear s0 s1 s2 b4 CB)
          | (go_at_call 21; refine CR.mono ?_; rintro e w5 ⟨rfl, r5, b5⟩; (have B5 : Hid (Below w4.heap.size w4 w5) := b5); have CK := HTK.out w5 _ r5; clear b5 r5 CR)
          | (go_at_call 20; refine CK.mono ?_; rintro e w6 ⟨rfl, b6⟩; (have hz4 := B5.out.size); (have B6 : Hid (Below W1.heap.size W1 (w6.alloc (.cells #[.int .i64 x1, .int .i64 x2, .string (S x3)] 23))) := (bel_of B4.out (B5.out.trans (b6.below (Nat.le_refl _) hz4)) (Nat.le_refl _)).alloc (by have h1 := B4.out.size; have h2 := b6.size; omega) _); obtain ⟨s0, s1, s2⟩ := HCX.out _ B6.out; have CV := HVB.out (w6.alloc (.cells #[.int .i64 x1, .int .i64 x2, .string (S x3)] 23)) (HW.out _ B6.out); clear b6 CK)
          | (go_at_call 16; refine CV.mono ?_; rintro e w7 ⟨rfl, b7⟩; (have B7 : Hid (Below W1.heap.size W1 w7) := bel_of B6.out b7 (Nat.le_refl _)); (try clear s0 s1 s2); have CR2 := read9 lm w7; clear b7 CV)
          | (go_at_call 21; refine CR2.mono ?_; rintro e w8 ⟨rfl, r8, b8⟩; (have B8 : Hid (Below w7.heap.size w7 w8) := b8); have CT := HTV.out w8 _ r8; clear b8 r8 CR2)
          | (go_at_call 22; refine CT.mono ?_; rintro e w9 ⟨v9, rfl, h9, b9⟩; (have hz4 := B8.out.size); (have B9 : Hid (Below W1.heap.size W1 w9) := bel_of B7.out (B8.out.trans (b9.below (Nat.le_refl _) hz4)) (Nat.le_refl _)); have CZ := HSM.out w9 _ (HW.out w9 B9.out) h9; clear b9 h9 CT)
          | (go_at_call 23; refine CZ.mono ?_; rintro e w10 ⟨rfl, b10⟩; (have B10 : Hid (Below W1.heap.size W1 w10) := bel_of B9.out b10 (Nat.le_refl _)); obtain ⟨s0, s1, s2⟩ := HCX.out w10 B10.out; have CP := HPT.out w10 (HW.out w10 B10.out); clear b10 CZ)
          | (go_at_call 24; refine CP.mono ?_; rintro e w11 hh; obtain ⟨pa, pcap, rfl, hP, b11⟩ := HPR.out _ _ _ hh; (have B11 : Hid (Below W1.heap.size W1 w11) := bel_of B10.out b11 (Nat.le_refl _)); (have VP : Hid (Vs w11 (.slice pa pl.length pcap) pl) := hP); have CG := HGK.out w11 _ hP; clear s0 s1 s2 b11 hh hP CP)
          | (go_at_call 25; refine CG.mono ?_; rintro e w12 ⟨rfl, b12⟩; (have B12 : Hid (Below W1.heap.size W1 (w12.alloc (.cells #[.int .i64 x1, .int .i64 x2, .string (S x3)] 23))) := (bel_of B11.out b12 (Nat.le_refl _)).alloc (bel_of B11.out b12 (Nat.le_refl _)).size _); (have VP2 : Hid (Vs (w12.alloc (.cells #[.int .i64 x1, .int .i64 x2, .string (S x3)] 23)) (.slice pa pl.length pcap) pl) := (VP.out.up b12).up ((Below.refl _ _).alloc (Nat.le_refl _) _)); (have V17 : Hid (B3 (w12.alloc (.cells #[.int .i64 x1, .int .i64 x2, .string (S x3)] 23)) w12.heap.size (.int .i64 x1) (.int .i64 x2) (.string (S x3))) := B3.new _ _ _ _); (have BW : Hid (Below w.heap.size w (w12.alloc (.cells #[.int .i64 x1, .int .i64 x2, .string (S x3)] 23))) := HW.out _ B12.out); clear b12 CG VP))
        obtain ⟨Wb, hWb⟩ : ∃ Wb, (w12.alloc (.cells #[.int .i64 x1, .int .i64 x2, .string (S x3)] 23)) = Wb := ⟨_, rfl⟩
        rw [hWb] at B12 VP2 V17 BW ⊢
        clear hWb B1 B2 B3' B4 B5 B6 B7 B8 B9 B10 B11
        go_loopw [19] (fun v19 wr => ∃ i : Nat, i ≤ l.length ∧ v19 = .int .i64 (i : Int) ∧ Hid (Below Wb.heap.size Wb wr)) (fun v19 _ => l.length - (intOf v19).toNat)
        case atStart => exact ⟨0, Nat.zero_le _, rfl, Below.refl _ _⟩
        case round =>
          obtain ⟨i, hi, rfl, HB⟩ := hrel
          by_cases hlt : i < l.length
          · have hlt' : (i : Int) < (l.length : Int) := by omega
            have hi0' : (0 : Int) ≤ (i : Int) := by omega
            obtain ⟨b, off, cap', hsl, hbl', hcell⟩ := HV.out.at hlt
            cases hsl
            have HC : Hid (∀ W, Below Wb.heap.size Wb W → _) := fun W hW => hcell W (bel_of BW.out hW (Nat.le_refl _))
            obtain ⟨m0, m1, m2, m3⟩ := HC.out wr HB.out
            by_cases hne : l[i].1 = k
            · have CG := HGK.out wr _ (VP2.out.up HB.out)
              rw [← hne] at CG
              have q1 := eq_true (congrArg ByteArray.toList hne)
              have q2 := str_eq hne
              generalize l[i] = xx at *
              obtain ⟨nm, k1, n1, t1⟩ := xx
              simp only at m0 m1 m2 m3 CG hne q1 q2 HC
              clear hcell hne
              go_wp2_with (go_at_call 25; refine CG.mono ?_; rintro e w13 ⟨rfl, b13⟩; (have B13 : Hid (Below Wb.heap.size Wb (w13.alloc (.cells #[.int .i64 x1, .int .i64 x2, .string (S x3)] 23))) := (bel_of HB.out b13 (Nat.le_refl _)).alloc (bel_of HB.out b13 (Nat.le_refl _)).size _); (clear m0 m1 m2 m3); (obtain ⟨m0, m1, m2, m3⟩ := HC.out _ B13.out); clear b13 CG)
              go_quiet (fail)
              go_wp2
              go_roundw
              case rel => exact ⟨i + 1, by omega, by simp, below_drewN B13.out _⟩
              case measure => simp [intOf]; omega
            · have CG := HGI.out wr _ i hlt (VP2.out.up HB.out) hne
              have q1 := eq_false (fun h : l[i].1.toList = k.toList => hne (key_ext (by simpa [Lib.toList_data] using h)))
              have q2 := str_ne hne
              generalize l[i] = xx at *
              obtain ⟨nm, k1, n1, t1⟩ := xx
              unfold vA at CG
              simp only at m0 m1 m2 m3 CG hne q1 q2 HC
              clear hcell hne
              go_wp2_with (go_at_call 25; refine CG.mono ?_; rintro e w13 ⟨rfl, b13⟩; (have B13 : Hid (Below Wb.heap.size Wb (w13.alloc (.cells #[.int .i64 k1, .int .i64 n1, .string (S t1)] 23))) := (bel_of HB.out b13 (Nat.le_refl _)).alloc (bel_of HB.out b13 (Nat.le_refl _)).size _); (clear m0 m1 m2 m3); (obtain ⟨m0, m1, m2, m3⟩ := HC.out _ B13.out); clear b13 CG)
              go_quiet (fail)
              go_wp2
              go_roundw
              case rel => exact ⟨i + 1, by omega, by simp, below_drewN B13.out _⟩
              case measure => simp [intOf]; omega
          · have hlt' : ¬ (i : Int) < (l.length : Int) := by omega
            have CR3 := HRP.out wr _ (VP2.out.up HB.out)
            go_wp2_with (go_at_call 11; refine CR3.mono ?_; rintro e w14 ⟨rfl, b14⟩; (have B14 : Hid (Below Wb.heap.size Wb w14) := bel_of HB.out b14 (Nat.le_refl _)); (have V14 := V17.out.up B14.out); (have c0 := V14.c0); (have c1 := V14.c1); (have c2 := V14.c2); obtain ⟨s0, s1, s2⟩ := HCX.out w14 (bel_of B12.out B14.out (Nat.le_refl _)); clear b14 CR3 V14)
            go_ret
            exact ⟨rfl, HW.out _ (bel_of B12.out B14.out (Nat.le_refl _))⟩
      · have hpl := HNO.out hpe
        simp only at hpl
        have hne : ((pe : Int) != 0) = true := bne_iff_ne.2 (by omega)
        have HPR : Hid (∀ W e w', PuR W l k (x1, x2, x3) e w' → ∃ pa pcap, e = .returned (.tuple #[.slice pa 0 pcap, .int .i64 (pe : Int)]) ∧ Below W.heap.size W w') := fun W e w' h => by
          unfold PuR at h
          rw [hpv, hpl] at h
          obtain ⟨v', g1, g2, g3⟩ := h
          obtain ⟨a, c, rfl, -⟩ := g2
          exact ⟨a, c, g1, g3⟩
        clear hpv hpl hpe HOK HNO HSP HMP
        go_enter Tryd.func4, Tryd.ntmps4
        go_wp2_with (first
          | (go_at_call 5; (try rw [HWE.out]); refine CS.mono ?_; rintro e w1 ⟨rfl, b1⟩; (have B1 : Hid (Below W1.heap.size W1 w1) := b1); obtain ⟨s0, s1, s2⟩ := HCX.out w1 b1; have CM := HMY.out w1; clear b1 CS)
          | (go_at_call 7; refine CM.mono ?_; rintro e w2 ⟨rfl, b2⟩; (have B2 : Hid (Below W1.heap.size W1 w2) := bel_of B1.out b2 (Nat.le_refl _)); clear s0 s1 s2; have CRT := HRG.out w2 (HW.out w2 B2.out); clear b2 CM)
          | (go_at_call 11; refine CRT.mono ?_; rintro e w3 ⟨rfl, b3⟩; (have B3' : Hid (Below W1.heap.size W1 w3) := bel_of B2.out b3 (Nat.le_refl _)); obtain ⟨s0, s1, s2⟩ := HCX.out w3 B3'.out; have CB := HBY.out w3; clear b3 CRT)
          | (go_at_call 12; refine CB.mono ?_; rintro e w4 ⟨rfl, b4⟩; (have B4 : Hid (Below W1.heap.size W1 w4) := bel_of B3'.out b4 (Nat.le_refl _)); have CR := read9 bm w4; clear s0 s1 s2 b4 CB)
          | (go_at_call 21; refine CR.mono ?_; rintro e w5 ⟨rfl, r5, b5⟩; (have B5 : Hid (Below w4.heap.size w4 w5) := b5); have CK := HTK.out w5 _ r5; clear b5 r5 CR)
          | (go_at_call 20; refine CK.mono ?_; rintro e w6 ⟨rfl, b6⟩; (have hz4 := B5.out.size); (have B6 : Hid (Below W1.heap.size W1 (w6.alloc (.cells #[.int .i64 x1, .int .i64 x2, .string (S x3)] 23))) := (bel_of B4.out (B5.out.trans (b6.below (Nat.le_refl _) hz4)) (Nat.le_refl _)).alloc (by have h1 := B4.out.size; have h2 := b6.size; omega) _); obtain ⟨s0, s1, s2⟩ := HCX.out _ B6.out; have CV := HVB.out (w6.alloc (.cells #[.int .i64 x1, .int .i64 x2, .string (S x3)] 23)) (HW.out _ B6.out); clear b6 CK)
          | (go_at_call 16; refine CV.mono ?_; rintro e w7 ⟨rfl, b7⟩; (have B7 : Hid (Below W1.heap.size W1 w7) := bel_of B6.out b7 (Nat.le_refl _)); (try clear s0 s1 s2); have CR2 := read9 lm w7; clear b7 CV)
          | (go_at_call 21; refine CR2.mono ?_; rintro e w8 ⟨rfl, r8, b8⟩; (have B8 : Hid (Below w7.heap.size w7 w8) := b8); have CT := HTV.out w8 _ r8; clear b8 r8 CR2)
          | (go_at_call 22; refine CT.mono ?_; rintro e w9 ⟨v9, rfl, h9, b9⟩; (have hz4 := B8.out.size); (have B9 : Hid (Below W1.heap.size W1 w9) := bel_of B7.out (B8.out.trans (b9.below (Nat.le_refl _) hz4)) (Nat.le_refl _)); have CZ := HSM.out w9 _ (HW.out w9 B9.out) h9; clear b9 h9 CT)
          | (go_at_call 23; refine CZ.mono ?_; rintro e w10 ⟨rfl, b10⟩; (have B10 : Hid (Below W1.heap.size W1 w10) := bel_of B9.out b10 (Nat.le_refl _)); obtain ⟨s0, s1, s2⟩ := HCX.out w10 B10.out; have CP := HPT.out w10 (HW.out w10 B10.out); clear b10 CZ)
          | (go_at_call 24; refine CP.mono ?_; rintro e w11 hh; obtain ⟨pa, pcap, rfl, b11⟩ := HPR.out _ _ _ hh; (have B11 : Hid (Below W1.heap.size W1 w11) := bel_of B10.out b11 (Nat.le_refl _)); clear s0 s1 s2 b11 hh CP))
        go_ret
        exact ⟨rfl, HW.out _ B11.out⟩
  | false =>
    rw [hmy] at HMY HMP
    clear hmy HTK HBY
    cases hr : rgt l with
    | false =>
      rw [hr] at HRG
      clear hr HTV HVL HOK HNO HSP HMP HPT HSM HVB
      go_enter Tryd.func4, Tryd.ntmps4
      go_wp2_with (first
        | (go_at_call 5; (try rw [HWE.out]); refine CS.mono ?_; rintro e w1 ⟨rfl, b1⟩; (have B1 : Hid (Below W1.heap.size W1 w1) := b1); obtain ⟨s0, s1, s2⟩ := HCX.out w1 b1; have CM := HMY.out w1; clear b1 CS)
        | (go_at_call 7; refine CM.mono ?_; rintro e w2 ⟨rfl, b2⟩; (have B2 : Hid (Below W1.heap.size W1 w2) := bel_of B1.out b2 (Nat.le_refl _)); clear s0 s1 s2; have CRT := HRG.out w2 (HW.out w2 B2.out); clear b2 CM)
        | (go_at_call 11; refine CRT.mono ?_; rintro e w3 ⟨rfl, b3⟩; (have B3' : Hid (Below W1.heap.size W1 w3) := bel_of B2.out b3 (Nat.le_refl _)); skip; clear b3 CRT))
      go_ret
      exact ⟨rfl, HW.out _ B3'.out⟩
    | true =>
      rw [hr] at HRG
      replace HTV : Hid _ := HTV.out hr
      have hvl := HVL.out hr
      clear hr HVL
      obtain ⟨pl, pe, hpv⟩ : ∃ pl pe, putV l k (x1, x2, x3) = (pl, pe) := ⟨_, _, rfl⟩
      rw [hpv] at HOK HNO HSP HMP
      have hpe : pe ≠ 0 := HMP.out rfl
      · have hpl := HNO.out hpe
        simp only at hpl
        have hne : ((pe : Int) != 0) = true := bne_iff_ne.2 (by omega)
        have HPR : Hid (∀ W e w', PuR W l k (x1, x2, x3) e w' → ∃ pa pcap, e = .returned (.tuple #[.slice pa 0 pcap, .int .i64 (pe : Int)]) ∧ Below W.heap.size W w') := fun W e w' h => by
          unfold PuR at h
          rw [hpv, hpl] at h
          obtain ⟨v', g1, g2, g3⟩ := h
          obtain ⟨a, c, rfl, -⟩ := g2
          exact ⟨a, c, g1, g3⟩
        clear hpv hpl hpe HOK HNO HSP HMP
        go_enter Tryd.func4, Tryd.ntmps4
        go_wp2_with (first
          | (go_at_call 5; (try rw [HWE.out]); refine CS.mono ?_; rintro e w1 ⟨rfl, b1⟩; (have B1 : Hid (Below W1.heap.size W1 w1) := b1); obtain ⟨s0, s1, s2⟩ := HCX.out w1 b1; have CM := HMY.out w1; clear b1 CS)
          | (go_at_call 7; refine CM.mono ?_; rintro e w2 ⟨rfl, b2⟩; (have B2 : Hid (Below W1.heap.size W1 w2) := bel_of B1.out b2 (Nat.le_refl _)); clear s0 s1 s2; have CRT := HRG.out w2 (HW.out w2 B2.out); clear b2 CM)
          | (go_at_call 11; refine CRT.mono ?_; rintro e w3 ⟨rfl, b3⟩; (have B3' : Hid (Below W1.heap.size W1 w3) := bel_of B2.out b3 (Nat.le_refl _)); have CV := HVB.out w3 (HW.out w3 B3'.out); clear b3 CRT)
          | (go_at_call 16; refine CV.mono ?_; rintro e w7 ⟨rfl, b7⟩; (have B7 : Hid (Below W1.heap.size W1 w7) := bel_of B3'.out b7 (Nat.le_refl _)); (try clear s0 s1 s2); have CR2 := read9 lm w7; clear b7 CV)
          | (go_at_call 21; refine CR2.mono ?_; rintro e w8 ⟨rfl, r8, b8⟩; (have B8 : Hid (Below w7.heap.size w7 w8) := b8); have CT := HTV.out w8 _ r8; clear b8 r8 CR2)
          | (go_at_call 22; refine CT.mono ?_; rintro e w9 ⟨v9, rfl, h9, b9⟩; (have hz4 := B8.out.size); (have B9 : Hid (Below W1.heap.size W1 w9) := bel_of B7.out (B8.out.trans (b9.below (Nat.le_refl _) hz4)) (Nat.le_refl _)); have CZ := HSM.out w9 _ (HW.out w9 B9.out) h9; clear b9 h9 CT)
          | (go_at_call 23; refine CZ.mono ?_; rintro e w10 ⟨rfl, b10⟩; (have B10 : Hid (Below W1.heap.size W1 w10) := bel_of B9.out b10 (Nat.le_refl _)); obtain ⟨s0, s1, s2⟩ := HCX.out w10 B10.out; have CP := HPT.out w10 (HW.out w10 B10.out); clear b10 CZ)
          | (go_at_call 24; refine CP.mono ?_; rintro e w11 hh; obtain ⟨pa, pcap, rfl, b11⟩ := HPR.out _ _ _ hh; (have B11 : Hid (Below W1.heap.size W1 w11) := bel_of B10.out b11 (Nat.le_refl _)); clear s0 s1 s2 b11 hh CP))
        go_ret
        exact ⟨rfl, HW.out _ B11.out⟩
theorem array6 {α : Type} {cs : Array α} (h : cs.size = 6) : ∃ c0 c1 c2 c3 c4 c5, cs = #[c0, c1, c2, c3, c4, c5] := by
  obtain ⟨l⟩ := cs
  match l, h with
  | [c0, c1, c2, c3, c4, c5], _ => exact ⟨c0, c1, c2, c3, c4, c5, rfl⟩

open Go.ChangeShapes Go.WideShapes Go.ChangeAt Go.WideMaps Go.WideElems in
set_option maxRecDepth 100000 in
theorem open_in {H : Type} {enc : TypeId × Value → H} {W : World} {v : Value} {d : DataW H} {p : List MemPlace} {base : Nat} (hok : Value.okWide Tryd.prog W .any base 36 v)
    (h : DataW.Trod enc Tryd.prog W 0 (fun _ => true) true 36 v d p) : ∃ (vl : Value) (k : ByteArray) (x : V9) (m : List UInt8) (y0 y1 y2 y3 : DataW H × List MemPlace), v = arg vl k x m ∧ d = .agg [y0.1, y1.1, y2.1, y3.1] ∧
      (∃ l : List Vr, Vs W vl l ∧ ((y0.1.weights Tryd.prog 24).all (· ≤ reachBytes) = true → l.length * 48 ≤ 140737488355328 ∧ Sm9 l)) ∧ ((y2.1.weights Tryd.prog 23).all (· ≤ reachBytes) = true → Vk x) ∧ ((y1.1.weights Tryd.prog 9).all (· ≤ reachBytes) = true → k.size ≤ 140737488355328) ∧ ((y3.1.weights Tryd.prog 9).all (· ≤ reachBytes) = true → m.length ≤ 140737488351232) := by
  have hc1 : Tryd.prog.cellsOf 24 = 1 := by kernel_rfl
  have hc2 : Tryd.prog.cellsOf 9 = 1 := by kernel_rfl
  have hc3 : Tryd.prog.cellsOf 23 = 3 := by kernel_rfl
  have hC : Tryd.prog.cellsOf 36 = 6 := by kernel_rfl
  obtain ⟨cs, rfl, hsz⟩ := okWide_struct Tryd.underlying36 hok
  obtain ⟨fuel, hf⟩ := h
  obtain ⟨z0, z1, z2, z3, z4, z5, rfl⟩ := array6 (hsz.trans hC)
  obtain ⟨y0, y1, y2, y3, n, hD, _, t0, t1, t2, t3⟩ := Go.Joins.trod_struct4 Tryd.underlying36 hf
  simp only [hc1, hc2, hc3, Value.cells, List.drop_zero, List.drop_succ_cons, List.take_succ_cons, List.take_zero] at t0 t1 t2 t3
  simp only [Prod.mk.injEq] at hD
  obtain ⟨a, len, cap, hs0⟩ := Go.Joins.slice_form Tryd.underlying24 t0
  simp only [List.cons.injEq, and_true] at hs0
  subst hs0
  obtain ⟨l, hl, hl2⟩ := openVarsF (x := y0) t0
  obtain ⟨s1, e1, g1, w1⟩ := DataW.trod_string Tryd.underlying9 t1
  obtain ⟨x, hx, hy, hb, hw⟩ := openValF (by rfl) t2
  obtain ⟨s3, e3, g3, w3⟩ := DataW.trod_string Tryd.underlying9 t3
  simp only [List.cons.injEq, and_true] at e1 e3 hx
  obtain ⟨hx1, hx2, hx3⟩ := hx
  subst e1 e3 hx1 hx2 hx3
  refine ⟨_, s1, x, s3.data.toList, y0, y1, y2, y3, ?_, hD.1, ⟨l, hl, hl2⟩, fun hs => ⟨hb.1, hb.2, ?_⟩, fun hs => ?_, fun hs => ?_⟩
  · unfold arg
    rw [S_of]
  · have h2 := of_decide_eq_true (List.all_eq_true.1 hs _ hw)
    simp only [reachBytes] at h2
    omega
  · rw [g1] at hs
    have := str_size hs
    have hh : s1.data.toList.length = s1.size := by simp
    omega
  · rw [g3] at hs
    exact str_size hs

open Go.ChangeShapes Go.WideShapes Go.ChangeAt Go.WideMaps Go.WideElems in
set_option maxRecDepth 100000 in
theorem lifted (os : Os) (started : os.Started) (H : Type) (enc : TypeId × Value → H) :
    ReturnsInHanded {} Tryd.checked os 4 .any (fun w args => (Rows.valueBackSpec.pre enc Tryd.prog Tryd.f4 [] false w args ∧ laidMetH Tryd.prog laid9 w) ∧ sizedMet enc Tryd.prog Tryd.f4 (OpenSpec.ofChange Rows.valueBackSpec) false w args)
      (Rows.valueBackSpec.post enc Tryd.prog Tryd.f4 false true false false) := by
  refine returnsInHanded_of_change_and (C := Tryd.checked) (X := fun w _ => laidMetH Tryd.prog laid9 w) (fun _ _ _ hh h => h.of_heap hh) own9 started (by kernel_rfl) Tryd.func4
    (ChangeSpec.witness_shaped (enc := enc) (C := Tryd.checked) (os := os) (X := fun w _ => laidMetH Tryd.prog laid9 w) false (World.doorLaid Tryd.prog 400 os) #[.agg #[.slice none 0 0, .string .empty, .int .i64 0, .int .i64 0, .string .empty, .string .empty]] 8 rfl (World.shaped_of_RefB (by kernel_rfl) (by kernel_rfl)) (by kernel_rfl) (by kernel_rfl) (by kernel_rfl) (door_met os _)) ?_
  intro W base args ds gs before hval0 hW hcnd hsz0 hL _
  have hval : ∀ (j : Nat) t v, Tryd.f4.params[j]? = some t → args[j]? = some v → Value.okWide Tryd.prog W .any base t v := hval0
  have hW' := hW
  obtain ⟨p, q, hA0, hV, rfl, hfz, hnd⟩ := hW
  have hA : DataW.TrodAll enc Tryd.prog W 0 (fun _ => true) true Tryd.f4.params.toList args.toList ds p := hA0
  have hsz : (DataW.weightsEach Tryd.prog (Tryd.f4.params.toList ++ Rows.valueBackSpec.plain.varTypes Tryd.prog) (ds ++ gs)).all (· ≤ reachBytes) = true := hsz0
  rw [Tryd.params4] at hA hval hsz
  obtain ⟨v0, vs0, d0, ds0, p0, q0, hargs, rfl, rfl, h0, r0⟩ := trodAll_cons hA
  obtain ⟨rfl, rfl, rfl⟩ := trodAll_nil r0
  obtain rfl : args = #[v0] := by cases args; simp_all
  obtain ⟨rfl, rfl⟩ := trodVars_none hV
  have k0 := h0
  have lt0 : ∀ x ∈ p0, x.block < W.heap.size := by obtain ⟨m, hm⟩ := k0; exact DataW.trod_lt m _ _ _ hm
  obtain ⟨vl, k, x, m, y0, y1, y2, y3, rfl, hd, ⟨l, hl, hl2⟩, hx, hk, hm⟩ := open_in (hval 0 36 v0 rfl rfl) h0
  subst hd
  obtain ⟨hn, hs⟩ := hl2 (sized_part hsz (i := 0) (j := 0) rfl rfl Tryd.underlying36 rfl rfl)
  have z1 := hk (sized_part hsz (i := 0) (j := 1) rfl rfl Tryd.underlying36 rfl rfl)
  have z2 := hx (sized_part hsz (i := 0) (j := 2) rfl rfl Tryd.underlying36 rfl rfl)
  have z3 := hm (sized_part hsz (i := 0) (j := 3) rfl rfl Tryd.underlying36 rfl rfl)
  clear hA0 hval0
  refine (walk k x m hl hn hs z1 z2 z3 (gv_of hL)).mono fun e W' ⟨he, bel⟩ => ?_
  subst he
  exact ⟨_, rfl, _, _, _, [], _, [], hW', trodAll_mk1 (shut_bool Tryd.underlying4 _), (trodAll_cons_mk (Below.trod laidOut9 (by kernel_rfl) (of_decide_eq_true (by kernel_rfl)) k0 bel lt0) trodAll_mk0), rfl, bel.frame _, fun h => by cases h⟩
theorem said : Rows.ValueBackSaid :=
  OpenClaim.holds_of_wide 4 Tryd.f4 rfl rfl rfl rfl rfl rfl rfl ⟨rfl, rfl, rfl, rfl, rfl⟩ rfl rfl rfl rfl rfl (by kernel_rfl) Tryd.func4 (by kernel_rfl)
    (of_decide_eq_true (by kernel_rfl)) (by unfold Func.isWrapper; first | (rw [if_pos (by decide +kernel)]; kernel_rfl) | (rw [if_neg (by decide +kernel)]; exact ⟨rfl, rfl⟩))
    (fun os started H enc _ => lifted os started H enc)
theorem proved : Rows.ValueBackCardSaid :=
  Claim7.holds_tied_plain_at .later [] [.data, .data, .data] true (true, "44a316f20724bb01886095ba2639b6857a8b0e32f9893041823de5ab44af4145") false
    said (fun _ h => by cases h) (by kernel_rfl) (fun _ h => by cases h) valueBack_row_tie rfl ⟨rfl, rfl⟩ (by kernel_rfl) rfl
    (fun f fn hf hfn => by
      obtain rfl : f = 4 := Option.some.inj ((show Tryd.prog.funcNamed "wherry/wherrylaw09.ValueBack" = some 4 by kernel_rfl).symm.trans hf) |>.symm
      obtain rfl : fn = Tryd.f4 := (Option.some.inj (Tryd.func4.symm.trans hfn)).symm
      exact ⟨by kernel_rfl, fun j t ht => by
        rw [Tryd.params4] at ht
        have hm : t ∈ [36] := by simpa using Array.mem_of_getElem? ht
        have hall : ([36].all fun u => !Tryd.prog.wantsStandIn u) = true := by kernel_rfl
        exact (show Tryd.prog.wantsStandIn t = false by simpa using List.all_eq_true.1 hall t hm)⟩)
    (by kernel_rfl)
end Go.Proofs.YtnelekbaniljkaaDoor.valueBack

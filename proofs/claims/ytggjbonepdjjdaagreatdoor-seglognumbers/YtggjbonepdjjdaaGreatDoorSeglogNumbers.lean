/-
  For every input: positions rise by one from 1 on, whatever is appended, flushed and dropped; what was refused takes none. (What the program's own variables hold at the start is as the program's text lays it.)
-/
import Derived.Test.YtggjbonepdjjdaaGreatDoorG6Num
import Derived.Test.YtggjbonepdjjdaaGreatDoorG6Card
namespace Go.Proofs.YtggjbonepdjjdaaGreatDoor.seglogNumbers
open Go.RowKit Go.Shelf Go.Sort Go.Proofs.YtggjbonepdjjdaaGreatDoor
open Go.Lib hiding intOf

def nName : ByteArray := ⟨#[110]⟩
theorem nName_ok : isP nName = true := by decide +kernel
/-- what stands in the loop -/
def JN (w : World) (d lb n : Nat) (wr : World) : Prop := ∃ lg st, Ls (fun x => w.heap.size ≤ x) wr w.heap.size lb d lg st ∧ lg.next = n ∧ Below w.heap.size w wr
theorem JN.facts {w wr : World} {d lb n : Nat} (h : JN w d lb n wr) : ∃ f s : Nat, f ≤ n ∧ s ≤ n ∧ n ≤ 1099511627777 ∧
    Calls Tryz.prog 18 #[.pointer (some ⟨lb, 0, none⟩)] wr (fun e w' => e = .returned (.int .u64 (f : Int)) ∧ w' = wr) ∧
    Calls Tryz.prog 20 #[.pointer (some ⟨lb, 0, none⟩)] wr (fun e w' => e = .returned (.int .u64 (n : Int)) ∧ w' = wr) ∧
    Calls Tryz.prog 21 #[.pointer (some ⟨lb, 0, none⟩)] wr (fun e w' => e = .returned (.int .u64 (s : Int)) ∧ w' = wr) := by
  obtain ⟨lg, st, h, rfl, hb⟩ := h
  have ok : Ok lg := by obtain ⟨_, _, _, _, _, _, _, ok, _⟩ := h; exact ok
  exact ⟨gFirst lg, lg.sure, ok.first.2, ok.sure, ok.next.2, gFirst_any h, gNext_any h, gSure_any h⟩
theorem JN.append {w wr : World} {d lb n : Nat} {u : Value} {l : List (List UInt8)} (h : JN w d lb n wr) (hv : Gv w.heap.size w) (hs : Strs w u l) (hl : l.length ≤ 9223372036854775807) :
    ∃ (po : Nat) (er : Int) (m : Nat), (er = 0 → po = n ∧ isB l = true ∧ m = n + l.length ∧ l.length ≤ 256) ∧ (er ≠ 0 → po = 0 ∧ m = n) ∧
    Calls Tryz.prog 27 #[.pointer (some ⟨lb, 0, none⟩), u] wr (fun e w' => e = .returned (.tuple #[.int .u64 (po : Int), .int .i64 er]) ∧ JN w d lb m w') := by
  obtain ⟨lg, st, h, rfl, hb⟩ := h
  have hA := gAppend_b h (hv.below hb) (hs.below hb (Nat.le_refl _)) (fun h0 b o m c e => by
    obtain ⟨a, c', rfl, h1⟩ := hs
    rcases h1 with h1 | ⟨b', o', rfl, hb', _⟩
    · exact absurd h1 h0
    · cases e
      exact hb') hl
  refine ⟨_, _, (gAppend lg st l).2.1.next, fun he => ?_, fun he => ?_, hA.mono fun _ _ x => ⟨x.1, _, _, x.2.2, rfl, hb.trans x.2.1⟩⟩
  · obtain ⟨h1, h2, h3⟩ := gApp_took he
    exact ⟨h1, h2, h3, (isB_iff.1 h2).1.2⟩
  · exact gApp_not he
theorem JN.flush {w wr : World} {d lb n : Nat} (h : JN w d lb n wr) : ∃ er : Int, Calls Tryz.prog 28 #[.pointer (some ⟨lb, 0, none⟩)] wr (fun e w' => e = .returned (.int .i64 er) ∧ JN w d lb n w') := by
  obtain ⟨lg, st, h, rfl, hb⟩ := h
  exact ⟨_, (gFlush_b h).mono fun _ _ x => ⟨x.1, _, _, x.2.2, gFlush_next _ _, hb.trans x.2.1⟩⟩
theorem JN.drop {w wr : World} {d lb n : Nat} (k : Nat) (h : JN w d lb n wr) : ∃ er : Int, Calls Tryz.prog 30 #[.pointer (some ⟨lb, 0, none⟩), .int .u64 (k : Int)] wr (fun e w' => e = .returned (.int .i64 er) ∧ JN w d lb n w') := by
  obtain ⟨lg, st, h, rfl, hb⟩ := h
  exact ⟨_, (gDrop_b h).mono fun _ _ x => ⟨x.1, _, _, x.2.2, rfl, hb.trans x.2.1⟩⟩
/-- a batch of the argument, there and later -/
structure Bat (w : World) (a : Option Addr) (i : Nat) (l : List (List UInt8)) (b o : Nat) (u : Value) : Prop where
  at' : a = some ⟨b, o, none⟩
  lt : b < w.heap.size
  cell : w.cell? ⟨b, o + i, none⟩ = some u
  strs : Strs w u l
  len : l.length ≤ 9223372036854775807

set_option maxRecDepth 100000 in
set_option maxHeartbeats 16000000 in
theorem walk (a : Option Addr) (c : Nat) (ls : List (List (List UInt8))) (z : Int) (k : Nat) (w : World) (hv : Gv w.heap.size w) (hb : Bats w (.slice a ls.length c) ls) (hlen : ls.length ≤ 9223372036854775807) :
    Calls Tryz.prog 8 #[.slice a ls.length c, .int .i64 z, .int .u64 (k : Int)] w fun r w' => r = .returned (.bool true) ∧ Below w.heap.size w w' := by
  have hS := shown6_any w hv
  have HV : Hid (Gv w.heap.size w ∧ Bats w (.slice a ls.length c) ls) := ⟨hv, hb⟩
  have hq := logEql
  clear hv hb
  by_cases hz : z < 64 ∨ 65536 < z
  · by_cases h1 : z < 64
    all_goals
      go_enter Tryz.func8, Tryz.ntmps8
      go_wp2_with (first
        | (go_at_call 9; refine hS.mono ?_; rintro e w1 ⟨rfl, B1⟩; have HB : Hid (Below w.heap.size w w1) := B1; have hN := sNew w.heap.size w1 B1.size; clear B1 hS)
        | (go_at_call 10; refine hN.mono ?_; rintro e w2 ⟨rfl, S2, B2⟩; have HB2 : Hid (Below w.heap.size w w2) := HB.out.trans (B2.mono HB.out.size); have hO := Open_size (d := w1.heap.size) nName_ok hz w2; clear S2 B2 hN)
        | (go_at_call 12; refine hO.mono ?_; rintro e w3 ⟨rfl, B3⟩; have HB3 : Hid (Below w.heap.size w w3) := HB2.out.trans (B3.mono HB2.out.size); clear B3))
      go_ret
      exact ⟨by first | (simp; done) | (simp; omega), HB3.out⟩
  · obtain ⟨sz, rfl⟩ : ∃ sz : Nat, z = (sz : Int) := ⟨z.toNat, by omega⟩
    have z1 : 64 ≤ sz := by omega
    have z2 : sz ≤ 65536 := by omega
    clear hz
    go_enter Tryz.func8, Tryz.ntmps8
    go_wp2_with (first
      | (go_at_call 9; refine hS.mono ?_; rintro e w1 ⟨rfl, B1⟩; have HB : Hid (Below w.heap.size w w1) := B1; have hN := sNew w.heap.size w1 B1.size; clear B1 hS)
      | (go_at_call 10; refine hN.mono ?_; rintro e w2 ⟨rfl, S2, B2⟩; have HB2 : Hid (Below w.heap.size w w2) := HB.out.trans (B2.mono HB.out.size); have hO := Open0 S2 nName_ok z1 z2; clear S2 B2 hN)
      | (go_at_call 12; refine hO.mono ?_; rintro e w3 ⟨lb, rfl, L3, B3⟩; have HJ0 : Hid (JN w w1.heap.size lb 1 w3) := ⟨_, _, L3, rfl, HB2.out.trans (B3.mono HB2.out.size)⟩; clear B3 L3))
    go_loopw [11, 12] (fun vn vi wr => ∃ n i : Nat, vn = .int .u64 (n : Int) ∧ vi = .int .i64 i ∧ i ≤ ls.length ∧ JN w w1.heap.size lb n wr) (fun _ vi _ => ls.length - (intOf vi).toNat)
    case atStart => exact ⟨1, 0, rfl, rfl, Nat.zero_le _, HJ0.out⟩
    case round =>
      obtain ⟨n, i, rfl, rfl, hi, hj⟩ := hrel
      by_cases hl : i < ls.length
      · have hli : (i : Int) < (ls.length : Int) := by omega
        have hi0 : (0 : Int) ≤ (i : Int) := Int.natCast_nonneg _
        obtain ⟨l, b, o, u, hB⟩ : ∃ l b o u, Bat w a i l b o u := by
          obtain ⟨a', c', e, hx⟩ := HV.out.2
          cases e
          obtain ⟨b, o, u, h1, h2, h3, h4, h5⟩ := hx i hl
          exact ⟨_, b, o, u, h1, h2, h3, h4, h5⟩
        obtain ⟨po, er, m, e1, e2, cA⟩ := hj.append HV.out.1 hB.strs hB.len
        have HBt : Hid (Bat w a i l b o u) := hB
        obtain ⟨ua, uc, rfl, -⟩ := hB.strs
        obtain rfl := hB.at'
        have m0 := ((show Below w.heap.size w wr by obtain ⟨_, _, _, _, h⟩ := hj; exact h).cell (p := ⟨b, o + i, none⟩) hB.lt).trans hB.cell
        clear hB HJ0 hj
        have htm : (i : Int).tmod 4 = ((i % 4 : Nat) : Int) := by rw [Int.tmod_eq_emod_of_nonneg hi0]; omega
        obtain ⟨q, hq4⟩ : ∃ q, i % 4 = q := ⟨_, rfl⟩
        rw [hq4] at htm
        clear hq4
        have cBt : ∀ w6, JN w w1.heap.size lb m w6 → Calls Tryz.prog 33 #[.slice ua l.length uc] w6 (fun e w' => e = .returned (.bool (isB l)) ∧ w' = w6) ∧ w6.cell? ⟨b, o + i, none⟩ = some (.slice ua l.length uc) := by
          rintro w6 ⟨_, _, _, _, h⟩
          exact ⟨rBatch_any (HBt.out.strs.below h (Nat.le_refl _)) HBt.out.len, (h.cell (p := ⟨b, o + i, none⟩) HBt.out.lt).trans HBt.out.cell⟩
        have hm : ∀ {w6}, JN w w1.heap.size lb m w6 → m ≤ 1099511627777 := fun h => by obtain ⟨_, _, _, _, h, _⟩ := h.facts; exact h
        have HX : Hid (∀ w6, JN w w1.heap.size lb m w6 → Calls Tryz.prog 33 #[.slice ua l.length uc] w6 (fun e w' => e = .returned (.bool (isB l)) ∧ w' = w6) ∧ w6.cell? ⟨b, o + i, none⟩ = some (.slice ua l.length uc)) := cBt
        have HM : Hid (∀ w6, JN w w1.heap.size lb m w6 → m ≤ 1099511627777) := fun _ h => hm h
        clear cBt hm HBt HV
        by_cases he : er = 0
        · subst he
          obtain ⟨rfl, hib, rfl, hl6⟩ := e1 rfl
          clear e1 e2
          have HI : Hid (isB l = true) := hib
          clear hib
          by_cases h3 : q = 3
          · subst h3
            go_wp2_with (first
              | (go_at_call 27; refine cA.mono ?_; rintro e w6 ⟨rfl, J6⟩; obtain ⟨cB, c6⟩ := HX.out _ J6; rw [HI.out] at cB; have hm := HM.out _ J6; obtain ⟨er2, cF⟩ := J6.flush; clear J6 cA)
              | (go_at_call 33; refine cB.mono ?_; rintro e w7 ⟨rfl, rfl⟩; clear cB)
              | (go_at_call 28; refine cF.mono ?_; rintro e w8 ⟨rfl, J8⟩; obtain ⟨er3, cD⟩ := J8.drop k; clear J8 cF)
              | (go_at_call 30; refine cD.mono ?_; rintro e w9 ⟨rfl, J9⟩; obtain ⟨f1, s1, i1, i2, i3, cFi, cNe, cSu⟩ := J9.facts; have HJ9 : Hid (JN w w1.heap.size lb (po + l.length) w9) := J9; clear J9 cD)
              | (go_at_call 20; refine cNe.mono ?_; rintro e w10 ⟨rfl, rfl⟩; clear cNe)
              | (go_at_call 18; refine cFi.mono ?_; rintro e w10 ⟨rfl, rfl⟩; clear cFi)
              | (go_at_call 21; refine cSu.mono ?_; rintro e w10 ⟨rfl, rfl⟩; clear cSu))
            exact ⟨⟨po + l.length, i + 1, by simp, by simp, by omega, HJ9.out⟩, by simp [intOf]; omega⟩
          · have h3i : ¬ ((q : Int) = 3) := by omega
            clear h3
            go_wp2_with (first
              | (go_at_call 27; refine cA.mono ?_; rintro e w6 ⟨rfl, J6⟩; obtain ⟨cB, c6⟩ := HX.out _ J6; rw [HI.out] at cB; have hm := HM.out _ J6; obtain ⟨f1, s1, i1, i2, i3, cFi, cNe, cSu⟩ := J6.facts; have HJ9 : Hid (JN w w1.heap.size lb (po + l.length) w6) := J6; clear J6 cA)
              | (go_at_call 33; refine cB.mono ?_; rintro e w7 ⟨rfl, rfl⟩; clear cB)
              | (go_at_call 20; refine cNe.mono ?_; rintro e w10 ⟨rfl, rfl⟩; clear cNe)
              | (go_at_call 18; refine cFi.mono ?_; rintro e w10 ⟨rfl, rfl⟩; clear cFi)
              | (go_at_call 21; refine cSu.mono ?_; rintro e w10 ⟨rfl, rfl⟩; clear cSu))
            exact ⟨⟨po + l.length, i + 1, by simp, by simp, by omega, HJ9.out⟩, by simp [intOf]; omega⟩
        · obtain ⟨rfl, rfl⟩ := e2 he
          clear e1 e2
          obtain ⟨bl, hbl⟩ : ∃ bl, isB l = bl := ⟨_, rfl⟩
          have HI : Hid (isB l = bl) := hbl
          clear hbl
          by_cases h3 : q = 3
          · subst h3
            cases bl
            all_goals
              go_wp2_with (first
                | (go_at_call 27; refine cA.mono ?_; rintro e w6 ⟨rfl, J6⟩; obtain ⟨cB, c6⟩ := HX.out _ J6; rw [HI.out] at cB; have hm := HM.out _ J6; obtain ⟨er2, cF⟩ := J6.flush; clear J6 cA)
                | (go_at_call 33; refine cB.mono ?_; rintro e w7 ⟨rfl, rfl⟩; clear cB)
                | (go_at_call 28; refine cF.mono ?_; rintro e w8 ⟨rfl, J8⟩; obtain ⟨er3, cD⟩ := J8.drop k; clear J8 cF)
                | (go_at_call 30; refine cD.mono ?_; rintro e w9 ⟨rfl, J9⟩; obtain ⟨f1, s1, i1, i2, i3, cFi, cNe, cSu⟩ := J9.facts; have HJ9 : Hid (JN w w1.heap.size lb (m) w9) := J9; clear J9 cD)
                | (go_at_call 20; refine cNe.mono ?_; rintro e w10 ⟨rfl, rfl⟩; clear cNe)
                | (go_at_call 18; refine cFi.mono ?_; rintro e w10 ⟨rfl, rfl⟩; clear cFi)
                | (go_at_call 21; refine cSu.mono ?_; rintro e w10 ⟨rfl, rfl⟩; clear cSu))
              exact ⟨⟨m, i + 1, by simp, by simp, by omega, HJ9.out⟩, by simp [intOf]; omega⟩
          · have h3i : ¬ ((q : Int) = 3) := by omega
            clear h3
            cases bl
            all_goals
              go_wp2_with (first
                | (go_at_call 27; refine cA.mono ?_; rintro e w6 ⟨rfl, J6⟩; obtain ⟨cB, c6⟩ := HX.out _ J6; rw [HI.out] at cB; have hm := HM.out _ J6; obtain ⟨f1, s1, i1, i2, i3, cFi, cNe, cSu⟩ := J6.facts; have HJ9 : Hid (JN w w1.heap.size lb (m) w6) := J6; clear J6 cA)
                | (go_at_call 33; refine cB.mono ?_; rintro e w7 ⟨rfl, rfl⟩; clear cB)
                | (go_at_call 20; refine cNe.mono ?_; rintro e w10 ⟨rfl, rfl⟩; clear cNe)
                | (go_at_call 18; refine cFi.mono ?_; rintro e w10 ⟨rfl, rfl⟩; clear cFi)
                | (go_at_call 21; refine cSu.mono ?_; rintro e w10 ⟨rfl, rfl⟩; clear cSu))
              exact ⟨⟨m, i + 1, by simp, by simp, by omega, HJ9.out⟩, by simp [intOf]; omega⟩
      · have hli : ¬ (i : Int) < (ls.length : Int) := by omega
        have HB : Hid (Below w.heap.size w wr) := by obtain ⟨_, _, _, _, h⟩ := hj; exact h
        clear hj HJ0
        go_wp2
        go_ret
        exact ⟨rfl, HB.out⟩

open Go.ChangeShapes Go.WideShapes Go.ChangeAt Go.WideMaps Go.WideElems in
set_option maxRecDepth 100000 in
theorem lifted (os : Os) (started : os.Started) (H : Type) (enc : TypeId × Value → H) :
    ReturnsInHanded {} Tryz.checked os 8 .any (fun w args => (Rows.seglogNumbersSpec.pre enc Tryz.prog Tryz.f8 [] false w args ∧ laidMetH Tryz.prog laid5 w) ∧ sizedMet enc Tryz.prog Tryz.f8 (OpenSpec.ofChange Rows.seglogNumbersSpec) false w args)
      (Rows.seglogNumbersSpec.post enc Tryz.prog Tryz.f8 false true false false) := by
  refine returnsInHanded_of_change_and (C := Tryz.checked) (X := fun w _ => laidMetH Tryz.prog laid5 w) (fun _ _ _ hh h => h.of_heap hh) own6 started (by kernel_rfl) Tryz.func8
    (ChangeSpec.witness_shaped (enc := enc) (C := Tryz.checked) (os := os) (X := fun w _ => laidMetH Tryz.prog laid5 w) false (World.doorLaid Tryz.prog 400 os) #[.slice none 0 0, .int .i64 0, .int .u64 0] 8 rfl (World.shaped_of_RefB (by kernel_rfl) (by kernel_rfl)) (by kernel_rfl) (by kernel_rfl) (by kernel_rfl) (door_met os _)) ?_
  intro W base args ds gs before hval0 hW _ _ hL _
  have hval : ∀ (j : Nat) t v, Tryz.f8.params[j]? = some t → args[j]? = some v → Value.okWide Tryz.prog W .any base t v := hval0
  have hW' := hW
  obtain ⟨p, q, hA0, hV, rfl, hfz, hnd⟩ := hW
  have hA : DataW.TrodAll enc Tryz.prog W 0 (fun _ => true) true Tryz.f8.params.toList args.toList ds p := hA0
  rw [Tryz.params8] at hA hval
  obtain ⟨v0, vs0, d0, ds0, p0, q0, hargs, rfl, rfl, h0, r0⟩ := trodAll_cons hA
  obtain ⟨v1, vs1, d1, ds1, p1, q1, rfl, rfl, rfl, h1, r1⟩ := trodAll_cons r0
  obtain ⟨v2, vs2, d2, ds2, p2, q2, rfl, rfl, rfl, h2, r2⟩ := trodAll_cons r1
  obtain ⟨rfl, rfl, rfl⟩ := trodAll_nil r2
  obtain rfl : args = #[v0, v1, v2] := by cases args; simp_all
  obtain ⟨rfl, rfl⟩ := trodVars_none hV
  have k0 := h0
  have lt0 : ∀ x ∈ p0, x.block < W.heap.size := by obtain ⟨m, hm⟩ := k0; exact DataW.trod_lt m _ _ _ hm
  obtain ⟨fuel, hf⟩ := h0
  obtain ⟨a0, len0, cap0, rfl⟩ := okWide_slice Tryz.underlying58 (hval 0 58 v0 rfl rfl)
  obtain ⟨ls, hb, hlen⟩ := openBats (x := (d0, p0)) hf
  have hbb := hb
  obtain ⟨a', c', e', -⟩ := hb
  cases e'
  obtain ⟨a1, rfl, rfl, rfl, w1⟩ := open_int Tryz.underlying3 (hval 1 3 v1 rfl rfl) h1
  obtain ⟨a2, rfl, rfl, rfl, w2⟩ := open_int Tryz.underlying36 (hval 2 36 v2 rfl rfl) h2
  clear hA0 hval0
  obtain ⟨k, rfl⟩ : ∃ k : Nat, a2 = (k : Int) := ⟨a2.toNat, by have := bounds_u64 w2; omega⟩
  refine (walk a0 cap0 ls a1 k W (gv_of hL) hbb hlen).mono fun e W' ⟨he, bel⟩ => ?_
  subst he
  exact ⟨_, rfl, _, _, _, [], _, [], hW', trodAll_mk1 (shut_bool Tryz.underlying4 _), (trodAll_cons_mk (Below.trod laidOut6 (by kernel_rfl) (of_decide_eq_true (by kernel_rfl)) k0 bel lt0) (trodAll_cons_mk (shut_int Tryz.underlying3 w1) (trodAll_cons_mk (shut_int Tryz.underlying36 w2) trodAll_mk0))), rfl, bel.frame _, fun h => by cases h⟩
theorem said : Rows.SeglogNumbersSaid :=
  OpenClaim.holds_of_wide 8 Tryz.f8 rfl rfl rfl rfl rfl rfl rfl ⟨rfl, rfl, rfl, rfl, rfl⟩ rfl rfl rfl rfl rfl (by kernel_rfl) Tryz.func8 (by kernel_rfl)
    (of_decide_eq_true (by kernel_rfl)) (by unfold Func.isWrapper; first | (rw [if_pos (by decide +kernel)]; kernel_rfl) | (rw [if_neg (by decide +kernel)]; exact ⟨rfl, rfl⟩))
    (fun os started H enc _ => lifted os started H enc)
theorem proved : Rows.SeglogNumbersCardSaid :=
  Claim7.holds_tied_plain_at .later [] [.data, .data, .data, .sentinel, .sentinel] true (true, "65ec0acd9b8d2047447ff68180561059e21d4ea64fe7dd9f6a03af7811de51ad") true
    said (fun _ h => by cases h) (by kernel_rfl) (fun _ h => by cases h) seglogNumbers_row_tie rfl ⟨rfl, rfl⟩ (by kernel_rfl) rfl
    (fun f fn hf hfn => by
      obtain rfl : f = 8 := Option.some.inj ((show Tryz.prog.funcNamed "wherry/wherrylaw06.SeglogNumbers" = some 8 by kernel_rfl).symm.trans hf) |>.symm
      obtain rfl : fn = Tryz.f8 := (Option.some.inj (Tryz.func8.symm.trans hfn)).symm
      exact ⟨by kernel_rfl, fun j t ht => by
        rw [Tryz.params8] at ht
        have hm : t ∈ [58, 3, 36] := by simpa using Array.mem_of_getElem? ht
        have hall : ([58, 3, 36].all fun u => !Tryz.prog.wantsStandIn u) = true := by kernel_rfl
        exact (show Tryz.prog.wantsStandIn t = false by simpa using List.all_eq_true.1 hall t hm)⟩)
    (by kernel_rfl)
end Go.Proofs.YtggjbonepdjjdaaGreatDoor.seglogNumbers

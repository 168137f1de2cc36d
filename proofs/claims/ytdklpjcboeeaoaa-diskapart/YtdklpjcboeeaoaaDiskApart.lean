/-
  Proved: for every input DiskApart answers true, and changes nothing that was there before the call: what is done to a file changes no other one; what a crash keeps of one neither. No condition.
-/
import Derived.Test.YtdklpjcboeeaoaaL4Args
import Derived.Test.YtdklpjcboeeaoaaL4Three
import Derived.SizedLaws
import Derived.Lib.SmallJoins
namespace Go.Proofs.Ytdklpjcboeeaoaa.diskApart
open Go.ChangeShapes Go.WideShapes Go.ChangeAt Go.RowKit
open Go.ChangeMaps (open_string shut_string)

theorem emp (s : ByteArray) : (⟨#[]⟩ : ByteArray) ++ s = s := ByteArray.empty_append
theorem emp' (s : ByteArray) : s ++ (⟨#[]⟩ : ByteArray) = s := ByteArray.append_empty
theorem first {a : ByteArray} (ha : a.size ≤ 1000) : aApp ([], -1, false) kA a = (0, [(kA, ⟨#[]⟩, a)], -1, false) := app_new (by decide) (by decide) (by omega) rfl
theorem second (a : ByteArray) : aSync ([(kA, ⟨#[]⟩, a)], -1, false) kA = (0, [(kA, a, ⟨#[]⟩)], -1, false) := by
  rw [sync_one rfl, emp]
  rfl
theorem third (a : ByteArray) {b : ByteArray} (hb : b.size ≤ 1000) : aApp ([(kA, a, ⟨#[]⟩)], -1, false) kC b = (0, three (a, ⟨#[]⟩) (⟨#[]⟩, b) none, -1, false) := by
  have hh : has [(kA, a, (⟨#[]⟩ : ByteArray))] kC = false := by
    rw [has_cons_lt (y := (kA, a, (⟨#[]⟩ : ByteArray))) ltAC]
    rfl
  have hno : appNo ([(kA, a, ⟨#[]⟩)], -1, false) kC b = 0 := by
    unfold appNo
    simp only [Bool.false_eq_true, if_false, hh]
    have h1 : ¬ (kC.size < 1 ∨ 32 < kC.size) := by decide
    have h2 : ¬ (1 = 256 ∨ 1048576 < b.size) := by omega
    rw [if_neg h1]
    simp only [List.length_cons, List.length_nil]
    rw [if_neg h2]
  unfold aApp
  rw [hno, stepA_ok rfl]
  simp only [getv, hh, Bool.false_eq_true, if_false, emp]
  rw [put_cons_lt (y := (kA, a, (⟨#[]⟩ : ByteArray))) ltAC, put_nil]
  rfl
theorem last_a (a : ByteArray) (n : Int) : (cr n (a, ⟨#[]⟩)).1 ++ (cr n (a, ⟨#[]⟩)).2 = a := by
  rw [cr_all, emp']
  apply key_ext
  rw [ba_take, List.take_of_length_le]
  rw [ba_len]
  omega
theorem last_c (b : ByteArray) : (cr (b.size : Int) (⟨#[]⟩, b)).1 ++ (cr (b.size : Int) (⟨#[]⟩, b)).2 = b := by
  rw [cr_all, emp]
  apply key_ext
  rw [ba_take, List.take_of_length_le]
  rw [ba_len]
  omega
theorem two_at (n : Int) (k : Nat) : ∀ j (hj : j < [n, (k : Int)].length), (#[Value.int .i64 n, .int .i64 (k : Int)] : Array Value)[j]? = some (.int .i64 [n, (k : Int)][j]) := by
  intro j hj
  have : j = 0 ∨ j = 1 := by simp at hj; omega
  rcases this with rfl | rfl <;> rfl
/-- what stands in the loop -/
def JA (w : World) (d : Nat) (a b : ByteArray) (wr : World) : Prop := ∃ m, St wr w.heap.size d (three (a, ⟨#[]⟩) (⟨#[]⟩, b) m, -1, false) ∧ Below w.heap.size w wr

set_option maxRecDepth 100000 in
set_option maxHeartbeats 16000000 in
theorem walk (la : Option Addr) (ts : List ByteArray) (c : Nat) (a b : ByteArray) (kp : Int) (w : World) (ht : Tx w la ts) (hlen : ts.length ≤ 9223372036854775807) :
    Calls Try.prog 8 #[.agg #[.slice la ts.length c, .string a, .string b, .int .i64 kp]] w fun r w' => r = .returned (.bool true) ∧ Below w.heap.size w w' := by
  have hb0 : Below w.heap.size w (w.alloc (.cells #[.slice la ts.length c, .string a, .string b, .int .i64 kp] 56)) := (Below.refl _ w).alloc (Nat.le_refl _) _
  have hS := shown_any (w.alloc (.cells #[.slice la ts.length c, .string a, .string b, .int .i64 kp] 56))
  have HT : Hid (Tx w la ts ∧ Below w.heap.size w (w.alloc (.cells #[.slice la ts.length c, .string a, .string b, .int .i64 kp] 56))) := ⟨ht, hb0⟩
  clear ht hb0
  by_cases hsz : a.size ≤ 1000 ∧ b.size ≤ 1000
  · have ha1 : ¬ (1000 : Int) < (a.size : Int) := by omega
    have hb1 : ¬ (1000 : Int) < (b.size : Int) := by omega
    go_enter Try.func8, Try.ntmps8
    go_wp2_with (first
      | (go_at_call 9; refine hS.mono ?_; rintro e w1 ⟨rfl, B1⟩; have HB : Hid (Below w.heap.size w w1 ∧ True) := ⟨HT.out.2.trans (B1.mono HT.out.2.size), trivial⟩; have hN := sNew w.heap.size w1 HB.out.1.size; clear B1 hS)
      | (go_at_call 10; refine hN.mono ?_; rintro e w2 ⟨rfl, S2, B2⟩; have HB2 : Hid (Below w.heap.size w w2 ∧ True) := ⟨HB.out.1.trans (B2.mono HB.out.1.size), trivial⟩; have c1 := sApp S2 kA a (by decide); rw [first hsz.1] at c1; clear S2 B2 hN HB)
      | (go_at_call 19; refine c1.mono ?_; rintro e w3 ⟨rfl, S3, B3⟩; have HB3 : Hid (Below w.heap.size w w3 ∧ True) := ⟨HB2.out.1.trans B3.1, trivial⟩; have c2 := sSync S3 kA (by decide); rw [second] at c2; clear S3 B3 c1 HB2)
      | (go_at_call 20; refine c2.mono ?_; rintro e w4 ⟨rfl, S4, B4⟩; have HB4 : Hid (Below w.heap.size w w4 ∧ True) := ⟨HB3.out.1.trans B4.1, trivial⟩; have c3 := sApp S4 kC b (by decide); rw [third a hsz.2] at c3; clear S4 B4 c2 HB3)
      | (go_at_call 19; refine c3.mono ?_; rintro e w5 ⟨rfl, S5, B5⟩; have HB5 : Hid (JA w w1.heap.size a b w5) := ⟨none, S5, HB4.out.1.trans B5.1⟩; clear S5 B5 c3 HB4))
    go_loopw [9] (fun vi wr => ∃ i : Nat, vi = .int .i64 i ∧ i ≤ ts.length ∧ JA w w1.heap.size a b wr) (fun vi _ => ts.length - (intOf vi).toNat)
    case atStart => exact ⟨0, rfl, Nat.zero_le _, HB5.out⟩
    case round =>
      obtain ⟨i, rfl, hi, m, hst, hbw⟩ := hrel
      by_cases hl : i < ts.length
      · have hli : (i : Int) < (ts.length : Int) := by omega
        have hi0 : (0 : Int) ≤ (i : Int) := Int.natCast_nonneg _
        obtain ⟨bb, o, rfl, hbl, hcell⟩ := HT.out.1 i hl
        have m0 := (hbw.cell (p := ⟨bb, o + i, none⟩) hbl).trans hcell
        generalize ts[i] = t at *
        have cA := sApp hst kB t (by decide)
        obtain ⟨r, m1, he⟩ := app_three (x := (a, ⟨#[]⟩)) (y := (⟨#[]⟩, b)) (m := m) t
        rw [he] at cA
        have HX : Hid (Below w.heap.size w wr ∧ True) := ⟨hbw, trivial⟩
        clear hst hbw he hcell HB5
        have htm : (i : Int).tmod 3 = ((i % 3 : Nat) : Int) := by rw [Int.tmod_eq_emod_of_nonneg hi0]; omega
        have h3 : i % 3 = 0 ∨ i % 3 = 1 ∨ i % 3 = 2 := by omega
        obtain ⟨q, hq⟩ : ∃ q, i % 3 = q := ⟨_, rfl⟩
        rw [hq] at htm h3
        clear hq
        rcases h3 with rfl | rfl | rfl
        · go_wp2_with (first
            | (go_at_call 19; refine cA.mono ?_; rintro e w6 ⟨rfl, S6, B6⟩; have HJ : Hid (JA w w1.heap.size a b w6) := ⟨m1, S6, HX.out.1.trans B6.1⟩; clear S6 B6 cA HX))
          go_roundw
          case rel => exact ⟨i + 1, by simp, by omega, HJ.out⟩
          case measure => simp [intOf]; omega
        · obtain ⟨r2, m2, he2⟩ := sync_three (x := (a, ⟨#[]⟩)) (y := (⟨#[]⟩, b)) (m := m1)
          go_wp2_with (first
            | (go_at_call 19; refine cA.mono ?_; rintro e w6 ⟨rfl, S6, B6⟩; have cS := sSync S6 kB (by decide); rw [he2] at cS; have HY : Hid (Below w.heap.size w w6 ∧ True) := ⟨HX.out.1.trans B6.1, trivial⟩; clear S6 B6 cA HX)
            | (go_at_call 20; refine cS.mono ?_; rintro e w7 ⟨rfl, S7, B7⟩; have HJ : Hid (JA w w1.heap.size a b w7) := ⟨m2, S7, HY.out.1.trans B7.1⟩; clear S7 B7 cS HY))
          go_roundw
          case rel => exact ⟨i + 1, by simp, by omega, HJ.out⟩
          case measure => simp [intOf]; omega
        · obtain ⟨r2, m2, he2⟩ := cut_three (x := (a, ⟨#[]⟩)) (y := (⟨#[]⟩, b)) (m := m1) 0
          go_wp2_with (first
            | (go_at_call 19; refine cA.mono ?_; rintro e w6 ⟨rfl, S6, B6⟩; have cS := sCut S6 kB 0 (by decide); rw [he2] at cS; have HY : Hid (Below w.heap.size w w6 ∧ True) := ⟨HX.out.1.trans B6.1, trivial⟩; clear S6 B6 cA HX)
            | (go_at_call 24; refine cS.mono ?_; rintro e w7 ⟨rfl, S7, B7⟩; have HJ : Hid (JA w w1.heap.size a b w7) := ⟨m2, S7, HY.out.1.trans B7.1⟩; clear S7 B7 cS HY))
          go_roundw
          case rel => exact ⟨i + 1, by simp, by omega, HJ.out⟩
          case measure => simp [intOf]; omega
      · have hli : ¬ (i : Int) < (ts.length : Int) := by omega
        have cRa := sRead hst kA (by decide)
        rw [read_a, emp'] at cRa
        have cRc := sRead hst kC (by decide)
        rw [read_c, emp] at cRc
        have cD := sDel hst kB (by decide)
        obtain ⟨r, he⟩ := del_three (x := (a, ⟨#[]⟩)) (y := (⟨#[]⟩, b)) (m := m)
        rw [he] at cD
        have HX : Hid (Below w.heap.size w wr ∧ True) := ⟨hbw, trivial⟩
        clear hst hbw he HB5
        go_wp2_with (first
          | (go_at_call 22; refine cRa.mono ?_; rintro e w6 ⟨rfl, rfl⟩; clear cRa)
          | (go_at_call 22; refine cRc.mono ?_; rintro e w6 ⟨rfl, rfl⟩; clear cRc)
          | (go_at_call 25; refine cD.mono ?_; rintro e w7 ⟨rfl, S7, B7⟩; have cC := sCrashL S7 (ks := [kp, (b.size : Int)]) (kc := 2) (arr := #[.int .i64 kp, .int .i64 (b.size : Int)]) (t := 3) (two_at kp b.size); rw [crash_two] at cC; have HY : Hid (Below w.heap.size w w7 ∧ True) := ⟨HX.out.1.trans B7.1, trivial⟩; clear S7 B7 cD HX)
          | (go_at_call 21; refine cC.mono ?_; rintro e w8 ⟨⟨x8, rfl⟩, S8, B8⟩; have cA2 := sRead S8 kA (by decide); rw [read_a, last_a] at cA2; have cC2 := sRead S8 kC (by decide); rw [read_c, last_c] at cC2; have HZ : Hid (Below w.heap.size w w8 ∧ True) := ⟨HY.out.1.trans B8.1, trivial⟩; clear S8 B8 cC HY)
          | (go_at_call 22; refine cA2.mono ?_; rintro e w9 ⟨rfl, rfl⟩; clear cA2)
          | (go_at_call 22; refine cC2.mono ?_; rintro e w9 ⟨rfl, rfl⟩; clear cC2))
        go_ret
        exact ⟨by simp, HZ.out.1⟩
  · by_cases ha : a.size ≤ 1000
    · have ha1 : ¬ (1000 : Int) < (a.size : Int) := by omega
      have hb1 : (1000 : Int) < (b.size : Int) := by omega
      go_enter Try.func8, Try.ntmps8
      go_wp2_with (first
        | (go_at_call 9; refine hS.mono ?_; rintro e w1 ⟨rfl, B1⟩; have HB : Hid (Below w.heap.size w w1 ∧ True) := ⟨HT.out.2.trans (B1.mono HT.out.2.size), trivial⟩; have hN := sNew w.heap.size w1 HB.out.1.size; clear B1 hS)
        | (go_at_call 10; refine hN.mono ?_; rintro e w2 ⟨rfl, S2, B2⟩; have HB2 : Hid (Below w.heap.size w w2 ∧ True) := ⟨HB.out.1.trans (B2.mono HB.out.1.size), trivial⟩; clear S2 B2 hN HB))
      go_ret
      exact ⟨rfl, HB2.out.1⟩
    · have ha1 : (1000 : Int) < (a.size : Int) := by omega
      go_enter Try.func8, Try.ntmps8
      go_wp2_with (first
        | (go_at_call 9; refine hS.mono ?_; rintro e w1 ⟨rfl, B1⟩; have HB : Hid (Below w.heap.size w w1 ∧ True) := ⟨HT.out.2.trans (B1.mono HT.out.2.size), trivial⟩; have hN := sNew w.heap.size w1 HB.out.1.size; clear B1 hS)
        | (go_at_call 10; refine hN.mono ?_; rintro e w2 ⟨rfl, S2, B2⟩; have HB2 : Hid (Below w.heap.size w w2 ∧ True) := ⟨HB.out.1.trans (B2.mono HB.out.1.size), trivial⟩; clear S2 B2 hN HB))
      go_ret
      exact ⟨rfl, HB2.out.1⟩

set_option maxRecDepth 100000 in
theorem lifted (os : Os) (started : os.Started) (H : Type) (enc : TypeId × Value → H) :
    ReturnsInHanded {} Try.checked os 8 .any (Rows.diskApartSpec.pre6 enc Try.prog Try.f8 Rows.diskApartRow.domain false) (Rows.diskApartSpec.post enc Try.prog Try.f8 false true false false) := by
  refine returnsInHanded_of_change_sized (C := Try.checked) own started (by kernel_rfl) Try.func8
    (ChangeSpec.witness6 (enc := enc) (C := Try.checked) false ⟨#[], #[.agg #[.slice none 0 0, .string .empty, .string .empty, .int .i64 0]], []⟩ 8 (by kernel_rfl) (by kernel_rfl) (by kernel_rfl) (by kernel_rfl)) ?_
  intro W base args ds gs before hval0 hW hcnd hsz0 _
  have hval : ∀ (j : Nat) t v, Try.f8.params[j]? = some t → args[j]? = some v → Value.okWide Try.prog W .any base t v := hval0
  have hW' := hW
  obtain ⟨p, q, hA0, hV, rfl, hfz, hnd⟩ := hW
  have hA : DataW.TrodAll enc Try.prog W 0 (fun _ => true) true Try.f8.params.toList args.toList ds p := hA0
  rw [Try.params8] at hA hval
  obtain ⟨v0, vs0, d0, ds0, p0, q0, hargs, rfl, rfl, h0, r0⟩ := trodAll_cons hA
  obtain ⟨rfl, rfl, rfl⟩ := trodAll_nil r0
  obtain rfl : args = #[v0] := by cases args; simp_all
  obtain ⟨rfl, rfl⟩ := trodVars_none hV
  have k0 := h0
  have lt0 : ∀ x ∈ p0, x.block < W.heap.size := by obtain ⟨m, hm⟩ := k0; exact DataW.trod_lt m _ _ _ hm
  obtain ⟨c0, c1, c2, c3, y0, y1, y2, y3, m, rfl, rfl, _, t0, t1, t2, t3⟩ := Go.Joins.open_agg4 Try.underlying56 (by kernel_rfl) (by kernel_rfl) (hval 0 56 v0 rfl rfl) h0
  obtain ⟨la, ts, c, rfl, hts, hlen⟩ := openTx t0
  obtain ⟨a1, e1, rfl, w1⟩ := DataW.trod_string Try.underlying9 t1
  obtain ⟨a2, e2, rfl, w2⟩ := DataW.trod_string Try.underlying9 t2
  obtain ⟨a3, e3, rfl, w3⟩ := DataW.trod_int Try.underlying3 t3
  simp at e1 e2 e3
  subst e1 e2 e3
  clear hA0 hval0
  refine (walk la ts c a1 a2 a3 W hts hlen).mono fun e W' ⟨he, bel⟩ => ?_
  subst he
  exact ⟨_, rfl, _, _, _, [], _, [], hW', trodAll_mk1 (shut_bool Try.underlying4 _), (trodAll_cons_mk (Below.trod laidOut (by kernel_rfl) (of_decide_eq_true (by kernel_rfl)) k0 bel lt0) trodAll_mk0), rfl, bel.frame _, fun h => by cases h⟩

theorem proved : Rows.DiskApartSaid :=
  OpenClaim.holds_of_wide 8 Try.f8 rfl rfl rfl rfl rfl rfl rfl ⟨rfl, rfl, rfl, rfl, rfl⟩ rfl rfl rfl rfl rfl (by kernel_rfl) Try.func8 (by kernel_rfl)
    (of_decide_eq_true (by kernel_rfl)) (by unfold Func.isWrapper; first | (rw [if_pos (by decide +kernel)]; kernel_rfl) | (rw [if_neg (by decide +kernel)]; exact ⟨rfl, rfl⟩))
    (fun os started H enc _ => lifted os started H enc)
end Go.Proofs.Ytdklpjcboeeaoaa.diskApart

/-
  Proved: for every texts and every two numbers DiskKeeps answers true, and changes nothing that was there before the call: what was synced is read behind any crash, and what a file has is a beginning of what was appended to it. No condition.
-/
import Derived.Test.YtdklpjcboeeaoaaL4Args
import Derived.SizedLaws
namespace Go.Proofs.Ytdklpjcboeeaoaa.diskKeeps
open Go.ChangeShapes Go.WideShapes Go.ChangeAt Go.RowKit
open Go.ChangeMaps (open_string shut_string)

/-- what the disk has behind i texts: 'all' was appended, 'sure' bytes of it are safe -/
def Kp (i : Nat) (all : ByteArray) (sure : Nat) (fs : List Fil) : Prop :=
  (i = 0 ∧ fs = [] ∧ all = ⟨#[]⟩ ∧ sure = 0) ∨ (0 < i ∧ ∃ a b, fs = [(⟨#[102]⟩, a, b)] ∧ a ++ b = all ∧ a.size = sure ∧ all.size ≤ 1048576)
theorem Kp.small {i : Nat} {all : ByteArray} {sure : Nat} {fs : List Fil} (h : Kp i all sure fs) : all.size ≤ 1048576 ∧ sure ≤ all.size := by
  rcases h with ⟨_, _, rfl, rfl⟩ | ⟨_, a, b, _, rfl, rfl, h⟩
  · exact ⟨by decide, Nat.zero_le _⟩
  · exact ⟨h, by rw [ByteArray.size_append]; omega⟩
/-- one more text -/
theorem Kp.app {i : Nat} {all : ByteArray} {sure : Nat} {fs : List Fil} (h : Kp i all sure fs) (t : ByteArray) :
    (1048576 < all.size + t.size ∧ ∃ st, aApp (fs, -1, false) ⟨#[102]⟩ t = (4, st)) ∨ (all.size + t.size ≤ 1048576 ∧ ∃ fs', aApp (fs, -1, false) ⟨#[102]⟩ t = (0, fs', -1, false) ∧ Kp (i + 1) (all ++ t) sure fs') := by
  by_cases hs : 1048576 < all.size + t.size
  · refine .inl ⟨hs, ?_⟩
    rcases h with ⟨_, rfl, rfl, rfl⟩ | ⟨_, a, b, rfl, rfl, rfl, h⟩
    · exact ⟨_, app_full0 (by decide) (by decide) (by have : (⟨#[]⟩ : ByteArray).size = 0 := rfl; omega)⟩
    · exact ⟨_, app_full (by decide) (by decide) (by rw [ByteArray.size_append] at hs; omega)⟩
  · refine .inr ⟨by omega, ?_⟩
    rcases h with ⟨_, rfl, rfl, rfl⟩ | ⟨_, a, b, rfl, rfl, rfl, h⟩
    · have h0 : (⟨#[]⟩ : ByteArray).size = 0 := rfl
      exact ⟨_, app_new (by decide) (by decide) (by omega) rfl, .inr ⟨by omega, _, _, rfl, rfl, rfl, by rw [ByteArray.size_append]; omega⟩⟩
    · have e := ByteArray.size_append (a := a) (b := b)
      exact ⟨_, app_one (by decide) (by decide) (by omega) rfl, .inr ⟨by omega, _, _, rfl, (ByteArray.append_assoc).symm, rfl, by rw [ByteArray.size_append]; omega⟩⟩
/-- it is synced -/
theorem Kp.sync {i : Nat} {all : ByteArray} {sure : Nat} {fs : List Fil} (h : Kp (i + 1) all sure fs) : ∃ fs', aSync (fs, -1, false) ⟨#[102]⟩ = (0, fs', -1, false) ∧ Kp (i + 1) all all.size fs' := by
  rcases h with ⟨h, _⟩ | ⟨_, a, b, rfl, rfl, rfl, h⟩
  · omega
  · exact ⟨_, sync_one rfl, .inr ⟨by omega, _, _, rfl, ByteArray.append_empty, rfl, h⟩⟩
/-- behind a crash -/
theorem Kp.crash {i : Nat} {all : ByteArray} {sure : Nat} {fs : List Fil} (h : Kp (i + 1) all sure fs) (n : Int) : aRead (aCrash (fs, -1, false) [n]) ⟨#[102]⟩ = (all.extract 0 (sure + min n.toNat (all.size - sure)), 0) := by
  rcases h with ⟨h, _⟩ | ⟨_, a, b, rfl, rfl, rfl, h⟩
  · omega
  · rw [crash_one, read_one]
    have := cr_all n a b
    have e := ByteArray.size_append (a := a) (b := b)
    rw [e, Nat.add_sub_cancel_left, ← this]
    rfl
theorem read0 (n : Int) : aRead (aCrash ([], -1, false) [n]) ⟨#[102]⟩ = (⟨#[]⟩, 5) := rfl
/-- what stands in the loop -/
def JK (w : World) (d i : Nat) (all : ByteArray) (sure : Nat) (wr : World) : Prop := ∃ fs, Kp i all sure fs ∧ St wr w.heap.size d (fs, -1, false) ∧ Below w.heap.size w wr

set_option maxRecDepth 100000 in
set_option maxHeartbeats 16000000 in
theorem walk (a : Option Addr) (ts : List ByteArray) (c : Nat) (sy kp : Int) (w : World) (ht : Tx w a ts) (hlen : ts.length ≤ 9223372036854775807) (hk1 : -9223372036854775808 ≤ kp) (hk2 : kp ≤ 9223372036854775807) :
    Calls Try.prog 4 #[.slice a ts.length c, .int .i64 sy, .int .i64 kp] w fun r w' => r = .returned (.bool true) ∧ Below w.heap.size w w' := by
  have hS := shown_any w
  have HT : Hid (Tx w a ts) := ht
  clear ht
  go_enter Try.func4, Try.ntmps4
  go_wp2_with (first
    | (go_at_call 9; refine hS.mono ?_; rintro e w1 ⟨rfl, B1⟩; have HB : Hid (Below w.heap.size w w1 ∧ True) := ⟨B1, trivial⟩; have hN := sNew w.heap.size w1 B1.size; clear B1 hS)
    | (go_at_call 10; refine hN.mono ?_; rintro e w2 ⟨rfl, S2, B2⟩; have HB2 : Hid (JK w w1.heap.size 0 ⟨#[]⟩ 0 w2) := ⟨[], .inl ⟨rfl, rfl, rfl, rfl⟩, S2, HB.out.1.trans (B2.mono HB.out.1.size)⟩; clear S2 B2 hN HB))
  go_loopw [9, 10, 11] (fun v9 v10 v11 wr => ∃ (i : Nat) (all : ByteArray) (sure : Nat), v9 = .string all ∧ v10 = .int .i64 sure ∧ v11 = .int .i64 i ∧ i ≤ ts.length ∧ JK w w1.heap.size i all sure wr) (fun _ _ v11 _ => ts.length - (intOf v11).toNat)
  case atStart => exact ⟨0, ⟨#[]⟩, 0, rfl, rfl, rfl, Nat.zero_le _, HB2.out⟩
  case round =>
    obtain ⟨i, all, sure, rfl, rfl, rfl, hi, hJ⟩ := hrel
    obtain ⟨fs, hkp, hst, hbw⟩ := hJ
    by_cases hl : i < ts.length
    · have hli : (i : Int) < (ts.length : Int) := by omega
      have hi0 : (0 : Int) ≤ (i : Int) := Int.natCast_nonneg _
      obtain ⟨b, o, rfl, hbl, hcell⟩ := HT.out i hl
      have m0 := (hbw.cell (p := ⟨b, o + i, none⟩) hbl).trans hcell
      generalize ts[i] = t at *
      have cA := sApp hst ⟨#[102]⟩ t (by decide)
      rcases hkp.app t with ⟨hbig, st, he⟩ | ⟨hs, fs', he, hkp'⟩
      · rw [he] at cA
        have HX : Hid (Below w.heap.size w wr ∧ True) := ⟨hbw, trivial⟩
        clear hst hbw he hkp HB2 hbig hcell
        go_wp2_with (go_at_call 19; refine cA.mono ?_; rintro e w4 ⟨rfl, S4, B4⟩; have HY : Hid (Below w.heap.size w w4 ∧ True) := ⟨HX.out.1.trans B4.1, trivial⟩; clear S4 B4 cA HX)
        go_ret
        exact ⟨rfl, HY.out.1⟩
      · rw [he] at cA
        have hsz : all.size + t.size ≤ 9223372036854775807 := by omega
        have hcat := fun W : World => run_string_add_sum (P := Try.prog) (w := W) all t hsz
        have HX : Hid (Below w.heap.size w wr ∧ Kp (i + 1) (all ++ t) sure fs') := ⟨hbw, hkp'⟩
        have hsm := hkp.small
        have hmem : ∀ w4 : World, Below w.heap.size wr w4 → w4.cell? ⟨b, o + i, none⟩ = some (.string t) := fun w4 hb => (hb.cell (p := ⟨b, o + i, none⟩) hbl).trans m0
        clear hst hbw he hkp HB2 hkp' hcell
        by_cases hsy : (i : Int) = sy
        · subst hsy
          go_wp2_with (first
            | (go_at_call 19; refine cA.mono ?_; rintro e w4 ⟨rfl, S4, B4⟩; have m4 := hmem w4 B4.1; have cS := sSync S4 ⟨#[102]⟩ (by decide); (obtain ⟨fs2, he2, hk2'⟩ := HX.out.2.sync); rw [he2] at cS; have HY : Hid (Below w.heap.size w w4 ∧ Kp (i + 1) (all ++ t) (all ++ t).size fs2) := ⟨HX.out.1.trans B4.1, hk2'⟩; clear S4 B4 cA HX hk2' he2)
            | (go_at_call 20; refine cS.mono ?_; rintro e w5 ⟨rfl, S5, B5⟩; have HJ : Hid (JK w w1.heap.size (i + 1) (all ++ t) (all ++ t).size w5) := ⟨fs2, HY.out.2, S5, HY.out.1.trans B5.1⟩; clear S5 B5 cS HY))
          go_roundw
          case rel => exact ⟨i + 1, all ++ t, (all ++ t).size, rfl, by rw [ByteArray.size_append]; simp, by simp, by omega, HJ.out⟩
          case measure => simp [intOf]; omega
        · have hsy' : ((i : Int) == sy) = false := by simpa using hsy
          go_wp2_with (first
            | (go_at_call 19; refine cA.mono ?_; rintro e w4 ⟨rfl, S4, B4⟩; have m4 := hmem w4 B4.1; have HJ : Hid (JK w w1.heap.size (i + 1) (all ++ t) sure w4) := ⟨fs', HX.out.2, S4, HX.out.1.trans B4.1⟩; clear S4 B4 cA HX))
          go_roundw
          case rel => exact ⟨i + 1, all ++ t, sure, rfl, rfl, by simp, by omega, HJ.out⟩
          case measure => simp [intOf]; omega
    · have hli : ¬ (i : Int) < (ts.length : Int) := by omega
      obtain rfl : i = ts.length := by omega
      have cC := sCrashL hst (ks := [kp]) (kc := 1) (arr := #[.int .i64 kp]) (t := 3) (fun q hq => by
        have : q = 0 := by simpa using hq
        subst this; rfl)
      have HX : Hid (Below w.heap.size w wr ∧ True) := ⟨hbw, trivial⟩
      by_cases h0 : ts.length = 0
      · have h0' : (ts.length : Int) = 0 := by omega
        obtain rfl : fs = [] := by
          rcases hkp with ⟨_, h, _⟩ | ⟨h, _⟩
          · exact h
          · omega
        have he := read0 kp
        generalize aCrash ([], -1, false) [kp] = stc at *
        clear hst hbw hkp HB2 HT
        go_wp2_with (first
          | (go_at_call 21; refine cC.mono ?_; rintro e w4 ⟨⟨x4, rfl⟩, S4, B4⟩; have cR := sRead S4 ⟨#[102]⟩ (by decide); rw [he] at cR; have HY : Hid (Below w.heap.size w w4 ∧ True) := ⟨HX.out.1.trans B4.1, trivial⟩; clear S4 B4 cC HX)
          | (go_at_call 22; refine cR.mono ?_; rintro e w6 ⟨rfl, rfl⟩; clear cR))
        go_ret
        exact ⟨rfl, HY.out.1⟩
      · obtain ⟨j, hj⟩ : ∃ j, ts.length = j + 1 := ⟨ts.length - 1, by omega⟩
        have h0' : ¬ (ts.length : Int) = 0 := by omega
        have h0b : (((ts.length : Nat) : Int) == 0) = false := by simpa using h0'
        rw [hj] at hkp
        have he := hkp.crash kp
        have hsm := hkp.small
        have hws : IntKind.i64.wrap ((all.size : Int) - (sure : Int)) = (all.size : Int) - (sure : Int) := by rw [IntKind.wrap_i64]; omega
        generalize aCrash (fs, -1, false) [kp] = stc at *
        clear hst hbw hkp HB2 HT
        have hs1 : (sure : Int) ≤ (all.size : Int) := by omega
        have hs2 := hsm.2
        by_cases hp : 0 < kp
        · obtain ⟨m, rfl⟩ : ∃ m : Nat, kp = (m : Int) := ⟨kp.toNat, by omega⟩
          by_cases hm : (m : Int) < (all.size : Int) - (sure : Int)
          · rw [show sure + min (m : Int).toNat (all.size - sure) = sure + m by omega] at he
            have hw2 : IntKind.i64.wrap ((sure : Int) + (m : Int)) = (sure : Int) + (m : Int) := by rw [IntKind.wrap_i64]; omega
            have hle : (sure : Int) + (m : Int) ≤ (all.size : Int) := by omega
            have hle2 : sure + m ≤ all.size := by omega
            have htn : ((sure : Int) + (m : Int)).toNat = sure + m := by omega
            go_wp2_with (first
              | (go_at_call 21; refine cC.mono ?_; rintro e w4 ⟨⟨x4, rfl⟩, S4, B4⟩; have cR := sRead S4 ⟨#[102]⟩ (by decide); rw [he] at cR; have HY : Hid (Below w.heap.size w w4 ∧ True) := ⟨HX.out.1.trans B4.1, trivial⟩; clear S4 B4 cC HX)
              | (go_at_call 22; refine cR.mono ?_; rintro e w6 ⟨rfl, rfl⟩; clear cR))
            go_ret
            exact ⟨by simp, HY.out.1⟩
          · rw [show sure + min (m : Int).toNat (all.size - sure) = all.size by omega] at he
            go_wp2_with (first
              | (go_at_call 21; refine cC.mono ?_; rintro e w4 ⟨⟨x4, rfl⟩, S4, B4⟩; have cR := sRead S4 ⟨#[102]⟩ (by decide); rw [he] at cR; have HY : Hid (Below w.heap.size w w4 ∧ True) := ⟨HX.out.1.trans B4.1, trivial⟩; clear S4 B4 cC HX)
              | (go_at_call 22; refine cR.mono ?_; rintro e w6 ⟨rfl, rfl⟩; clear cR))
            go_ret
            exact ⟨by simp, HY.out.1⟩
        · rw [show sure + min kp.toNat (all.size - sure) = sure by omega] at he
          go_wp2_with (first
            | (go_at_call 21; refine cC.mono ?_; rintro e w4 ⟨⟨x4, rfl⟩, S4, B4⟩; have cR := sRead S4 ⟨#[102]⟩ (by decide); rw [he] at cR; have HY : Hid (Below w.heap.size w w4 ∧ True) := ⟨HX.out.1.trans B4.1, trivial⟩; clear S4 B4 cC HX)
            | (go_at_call 22; refine cR.mono ?_; rintro e w6 ⟨rfl, rfl⟩; clear cR))
          go_ret
          exact ⟨by simp, HY.out.1⟩

set_option maxRecDepth 100000 in
theorem lifted (os : Os) (started : os.Started) (H : Type) (enc : TypeId × Value → H) :
    ReturnsInHanded {} Try.checked os 4 .any (Rows.diskKeepsSpec.pre6 enc Try.prog Try.f4 Rows.diskKeepsRow.domain false) (Rows.diskKeepsSpec.post enc Try.prog Try.f4 false true false false) := by
  refine returnsInHanded_of_change_sized (C := Try.checked) own started (by kernel_rfl) Try.func4
    (ChangeSpec.witness6 (enc := enc) (C := Try.checked) false ⟨#[], #[.slice none 0 0, .int .i64 0, .int .i64 0], []⟩ 8 (by kernel_rfl) (by kernel_rfl) (by kernel_rfl) (by kernel_rfl)) ?_
  intro W base args ds gs before hval0 hW hcnd hsz0 _
  have hval : ∀ (j : Nat) t v, Try.f4.params[j]? = some t → args[j]? = some v → Value.okWide Try.prog W .any base t v := hval0
  have hW' := hW
  obtain ⟨p, q, hA0, hV, rfl, hfz, hnd⟩ := hW
  have hA : DataW.TrodAll enc Try.prog W 0 (fun _ => true) true Try.f4.params.toList args.toList ds p := hA0
  rw [Try.params4] at hA hval
  obtain ⟨v0, vs0, d0, ds0, p0, q0, hargs, rfl, rfl, h0, r0⟩ := trodAll_cons hA
  obtain ⟨v1, vs1, d1, ds1, p1, q1, rfl, rfl, rfl, h1, r1⟩ := trodAll_cons r0
  obtain ⟨v2, vs2, d2, ds2, p2, q2, rfl, rfl, rfl, h2, r2⟩ := trodAll_cons r1
  obtain ⟨rfl, rfl, rfl⟩ := trodAll_nil r2
  obtain rfl : args = #[v0, v1, v2] := by cases args; simp_all
  obtain ⟨rfl, rfl⟩ := trodVars_none hV
  have k0 := h0
  have lt0 : ∀ x ∈ p0, x.block < W.heap.size := by obtain ⟨m, hm⟩ := k0; exact DataW.trod_lt m _ _ _ hm
  have okv := okWide_slice Try.underlying33 (hval 0 33 v0 rfl rfl)
  obtain ⟨a, ts, c, rfl, hts, hlen⟩ : ∃ a ts c, v0 = .slice a ts.length c ∧ Tx W a ts ∧ ts.length ≤ 9223372036854775807 := by
    obtain ⟨a0, len0, cap0, rfl⟩ := okv
    obtain ⟨fuel, hf⟩ := h0
    exact openTx hf
  obtain ⟨a1, rfl, rfl, rfl, w1⟩ := open_int Try.underlying3 (hval 1 3 v1 rfl rfl) h1
  obtain ⟨a2, rfl, rfl, rfl, w2⟩ := open_int Try.underlying3 (hval 2 3 v2 rfl rfl) h2
  have hb2 := bounds_i64 w2
  clear hA0 hval0
  refine (walk a ts c a1 a2 W hts hlen hb2.1 hb2.2).mono fun e W' ⟨he, bel⟩ => ?_
  subst he
  exact ⟨_, rfl, _, _, _, [], _, [], hW', trodAll_mk1 (shut_bool Try.underlying4 _), (trodAll_cons_mk (Below.trod laidOut (by kernel_rfl) (of_decide_eq_true (by kernel_rfl)) k0 bel lt0) (trodAll_cons_mk (shut_int Try.underlying3 w1) (trodAll_cons_mk (shut_int Try.underlying3 w2) trodAll_mk0))), rfl, bel.frame _, fun h => by cases h⟩

theorem proved : Rows.DiskKeepsSaid :=
  OpenClaim.holds_of_wide 4 Try.f4 rfl rfl rfl rfl rfl rfl rfl ⟨rfl, rfl, rfl, rfl, rfl⟩ rfl rfl rfl rfl rfl (by kernel_rfl) Try.func4 (by kernel_rfl)
    (of_decide_eq_true (by kernel_rfl)) (by unfold Func.isWrapper; first | (rw [if_pos (by decide +kernel)]; kernel_rfl) | (rw [if_neg (by decide +kernel)]; exact ⟨rfl, rfl⟩))
    (fun os started H enc _ => lifted os started H enc)
end Go.Proofs.Ytdklpjcboeeaoaa.diskKeeps

/-
  Proved: for every two numbers DiskPower answers true, and changes nothing that was there before the call: with power for so many acts just so many are done; then the disk is off, and says so, until a crash. No condition.
-/
import Derived.Test.YtdklpjcboeeaoaaRows
import Derived.Test.YtdklpjcboeeaoaaL4One
import Derived.ProofKit
import Derived.OpenShut
import Derived.SizedLaws
namespace Go.Proofs.Ytdklpjcboeeaoaa.diskPower
open Go.ChangeShapes Go.WideShapes Go.ChangeAt Go.RowKit

/-- at most one file, whose rest has n bytes -/
def Fo (n : Nat) (fs : List Fil) : Prop := (n = 0 ∧ fs = []) ∨ ∃ r, fs = [(⟨#[102]⟩, ⟨#[]⟩, r)] ∧ r.size = n
theorem sf : (⟨#[102]⟩ : ByteArray).size = 1 := rfl
theorem step1 {n : Nat} {fs : List Fil} {p : Int} (h : Fo n fs) (hn : n ≤ 50) (hp : 0 < p) : ∃ fs', aApp (fs, p, false) ⟨#[102]⟩ ⟨#[120]⟩ = (0, fs', p - 1, false) ∧ Fo (n + 1) fs' := by
  have hpo : powOk p = true := by simp [powOk]; omega
  have hpf : powOf p = p - 1 := if_pos hp
  rcases h with ⟨rfl, rfl⟩ | ⟨r, rfl, rfl⟩
  · exact ⟨_, (app_new (by decide) (by decide) (by decide) hpo).trans (by rw [hpf]), .inr ⟨_, rfl, rfl⟩⟩
  · refine ⟨_, (app_one (by decide) (by decide) ?_ hpo).trans (by rw [hpf]), .inr ⟨_, rfl, by rw [ByteArray.size_append]; rfl⟩⟩
    show 0 + r.size + 1 ≤ _
    omega
theorem step2 {n : Nat} {fs : List Fil} (h : Fo n fs) (hn : n ≤ 50) (o : Bool) : aApp (fs, 0, o) ⟨#[102]⟩ ⟨#[121]⟩ = (7, fs, 0, true) := by
  cases o with
  | true => exact app_dead _ _
  | false =>
    unfold aApp
    rcases h with ⟨rfl, rfl⟩ | ⟨r, rfl, rfl⟩
    · rw [app_no0 (by decide) (by decide) (by decide)]; rfl
    · rw [app_no1 (by decide) (by decide) (by show 0 + r.size + 1 ≤ _; omega)]; rfl
theorem step3 {n : Nat} {fs : List Fil} (h : Fo n fs) (hn : n ≤ 50) (p : Int) (o : Bool) : ∃ fs' t, aApp (aCrash (fs, p, o) [(n : Int)]) ⟨#[102]⟩ ⟨#[122]⟩ = (0, fs', -1, false) ∧ aRead (fs', -1, false) ⟨#[102]⟩ = (t, 0) ∧ t.size = n + 1 := by
  rcases h with ⟨rfl, rfl⟩ | ⟨r, rfl, rfl⟩
  · rw [crash_none]
    exact ⟨_, _, app_new (by decide) (by decide) (by decide) rfl, read_one _ _ _ _, rfl⟩
  · rw [crash_one]
    have hs : ((⟨#[]⟩ : ByteArray) ++ r.extract 0 (min (r.size : Int).toNat r.size)).size = r.size := by
      rw [ByteArray.size_append, ba_take_size]
      show 0 + _ = _
      omega
    refine ⟨_, _, app_one (by decide) (by decide) ?_ rfl, read_one _ _ _ _, ?_⟩
    · rw [hs]
      show r.size + 0 + 1 ≤ _
      omega
    · have e : ((⟨#[]⟩ : ByteArray) ++ (⟨#[122]⟩ : ByteArray)).size = 1 := rfl
      have := ByteArray.size_append (a := (⟨#[]⟩ : ByteArray) ++ r.extract 0 (min (r.size : Int).toNat r.size)) (b := (⟨#[]⟩ : ByteArray) ++ (⟨#[122]⟩ : ByteArray))
      omega

/-- what stands in the first loop -/
def J1 (w : World) (d n i : Nat) (wr : World) : Prop := ∃ fs, Fo i fs ∧ St wr w.heap.size d (fs, (n : Int) - i, false) ∧ Below w.heap.size w wr
/-- what stands in the second one -/
def J2 (w : World) (d : Nat) (fs : List Fil) (wr : World) : Prop := ∃ o, St wr w.heap.size d (fs, 0, o) ∧ Below w.heap.size w wr
theorem powN (n : Nat) : aPow ([], -1, false) (n : Int) = ([], (n : Int), false) := by
  unfold aPow powSet
  rw [if_neg (by omega)]

set_option maxRecDepth 100000 in
set_option maxHeartbeats 16000000 in
theorem walk (a b : Int) (w : World) :
    Calls Try.prog 7 #[.int .i64 a, .int .i64 b] w fun r w' => r = .returned (.bool true) ∧ Below w.heap.size w w' := by
  have hS := shown_any w
  obtain ⟨x, hx⟩ : ∃ x, a.tmod 50 = x := ⟨_, rfl⟩
  obtain ⟨y, hy⟩ : ∃ y, b.tmod 20 = y := ⟨_, rfl⟩
  have hx1 : x < 50 := by rw [← hx]; exact Int.tmod_lt_of_pos a (by decide)
  have hx2 : -50 < x := by rw [← hx]; have := Int.tmod_lt_of_pos (-a) (b := 50) (by decide); rw [Int.neg_tmod] at this; omega
  have hy1 : y < 20 := by rw [← hy]; exact Int.tmod_lt_of_pos b (by decide)
  by_cases hx0 : x < 0
  · obtain ⟨n, hn⟩ : ∃ n : Nat, (n : Int) = -x := ⟨(-x).toNat, by omega⟩
    have hq : wrap64 (-x) = (n : Int) := by rw [← hn]; unfold wrap64; omega
    have hq2 : -x = (n : Int) := by omega
    have hn50 : n < 50 := by omega
    clear hn
    go_enter Try.func7, Try.ntmps7
    go_wp2_with (first
      | (go_at_call 9; refine hS.mono ?_; rintro e w1 ⟨rfl, B1⟩; have HB : Hid (Below w.heap.size w w1 ∧ True) := ⟨B1, trivial⟩; have hN := sNew w.heap.size w1 B1.size; clear B1 hS)
      | (go_at_call 10; refine hN.mono ?_; rintro e w2 ⟨rfl, S2, B2⟩; have HB2 : Hid (Below w.heap.size w w2 ∧ True) := ⟨HB.out.1.trans (B2.mono HB.out.1.size), trivial⟩; have cP := sPower S2 (n : Int) (by omega); rw [powN] at cP; clear S2 B2 hN HB)
      | (go_at_call 26; refine cP.mono ?_; rintro e w3 ⟨⟨x3, rfl⟩, S3, B3⟩; have HB3 : Hid (J1 w w1.heap.size n 0 w3) := ⟨[], .inl ⟨rfl, rfl⟩, by simpa using S3, HB2.out.1.trans B3.1⟩; clear S3 B3 cP HB2))
    go_loopw [7] (fun vi wr => ∃ i : Nat, vi = .int .i64 i ∧ i ≤ n ∧ J1 w w1.heap.size n i wr) (fun vi _ => n - (intOf vi).toNat)
    case atStart => exact ⟨0, rfl, Nat.zero_le _, HB3.out⟩
    case round =>
      obtain ⟨i, rfl, hi, hJ⟩ := hrel
      by_cases hl : i < n
      · have hli : (i : Int) < (n : Int) := by omega
        obtain ⟨fs, hfo, hst, hbw⟩ := hJ
        obtain ⟨fs', he, hfo'⟩ := step1 hfo (by omega) (p := (n : Int) - i) (by omega)
        have cA := sApp hst ⟨#[102]⟩ ⟨#[120]⟩ (by decide)
        rw [he] at cA
        have HW : Hid (Below w.heap.size w wr ∧ Fo (i + 1) fs') := ⟨hbw, hfo'⟩
        clear hst hbw he hfo hfo' HB3
        go_wp2_with (first
          | (go_at_call 19; refine cA.mono ?_; rintro e w4 ⟨rfl, S4, B4⟩; have cO := sOff S4; have HJ : Hid (J1 w w1.heap.size n (i + 1) w4) := ⟨fs', HW.out.2, by rw [show (n : Int) - ((i + 1 : Nat) : Int) = (n : Int) - i - 1 by omega]; exact S4, HW.out.1.trans B4.1⟩; clear S4 B4 cA HW)
          | (go_at_call 18; refine cO.mono ?_; rintro e w5 ⟨rfl, rfl⟩; clear cO))
        go_roundw
        case rel => exact ⟨i + 1, by simp, by omega, HJ.out⟩
        case measure => simp [intOf]; omega
      · have hli : ¬ (i : Int) < (n : Int) := by omega
        obtain rfl : i = n := by omega
        obtain ⟨fs, hfo, hst, hbw⟩ := hJ
        rw [show (i : Int) - i = 0 by omega] at hst
        have HW : Hid (Fo i fs ∧ True) := ⟨hfo, trivial⟩
        have HK : Hid (J2 w w1.heap.size fs wr) := ⟨false, hst, hbw⟩
        clear hst hbw hfo HB3
        go_wp2_with fail
        go_loopw [9] (fun vi wr => ∃ j : Nat, vi = .int .i64 j ∧ (j : Int) ≤ max 0 (y + 1) ∧ J2 w w1.heap.size fs wr) (fun vi _ => (max 0 (y + 1) - intOf vi).toNat)
        case atStart => exact ⟨0, rfl, by omega, HK.out⟩
        case round =>
          obtain ⟨j, rfl, hj, o, hst, hbw⟩ := hrel
          by_cases hjy : (j : Int) ≤ y
          · have cA := sApp hst ⟨#[102]⟩ ⟨#[121]⟩ (by decide)
            rw [step2 HW.out.1 (by omega) o] at cA
            have HX : Hid (Below w.heap.size w wr ∧ True) := ⟨hbw, trivial⟩
            clear hst hbw HK
            go_wp2_with (first
              | (go_at_call 19; refine cA.mono ?_; rintro e w4 ⟨rfl, S4, B4⟩; have cR := sRead S4 ⟨#[102]⟩ (by decide); rw [read_dead] at cR; have cO := sOff S4; have HJ : Hid (J2 w w1.heap.size fs w4) := ⟨true, S4, HX.out.1.trans B4.1⟩; clear S4 B4 cA HX)
              | (go_at_call 22; refine cR.mono ?_; rintro e w5 ⟨rfl, rfl⟩; clear cR)
              | (go_at_call 18; refine cO.mono ?_; rintro e w5 ⟨rfl, rfl⟩; clear cO))
            go_roundw
            case rel => exact ⟨j + 1, by simp, by omega, HJ.out⟩
            case measure => simp [intOf]; omega
          · obtain ⟨fs2, t, he1, he2, hts⟩ := step3 HW.out.1 (by omega) 0 o
            have cC := sCrashL hst (ks := [(i : Int)]) (kc := 1) (arr := #[.int .i64 (i : Int)]) (t := 3) (fun q hq => by
              have : q = 0 := by simpa using hq
              subst this; rfl)
            have HX : Hid (Below w.heap.size w wr ∧ True) := ⟨hbw, trivial⟩
            have hw9 : IntKind.i64.wrap ((i : Int) + 1) = (i : Int) + 1 := by rw [IntKind.wrap_i64]; omega
            have hts' : (t.size : Int) = (i : Int) + 1 := by omega
            clear hst hbw HK
            generalize aCrash (fs, 0, o) [(i : Int)] = stc at *
            go_wp2_with (first
              | (go_at_call 21; refine cC.mono ?_; rintro e w4 ⟨⟨x4, rfl⟩, S4, B4⟩; have cA := sApp S4 ⟨#[102]⟩ ⟨#[122]⟩ (by decide); rw [he1] at cA; have HY : Hid (Below w.heap.size w w4 ∧ True) := ⟨HX.out.1.trans B4.1, trivial⟩; clear S4 B4 cC HX)
              | (go_at_call 19; refine cA.mono ?_; rintro e w5 ⟨rfl, S5, B5⟩; have cR := sRead S5 ⟨#[102]⟩ (by decide); rw [he2] at cR; have cO := sOff S5; have HZ : Hid (Below w.heap.size w w5 ∧ True) := ⟨HY.out.1.trans B5.1, trivial⟩; clear S5 B5 cA HY)
              | (go_at_call 22; refine cR.mono ?_; rintro e w6 ⟨rfl, rfl⟩; clear cR)
              | (go_at_call 18; refine cO.mono ?_; rintro e w7 ⟨rfl, rfl⟩; clear cO))
            go_ret
            exact ⟨by simp, HZ.out.1⟩
  · obtain ⟨n, rfl⟩ : ∃ n : Nat, x = (n : Int) := ⟨x.toNat, by omega⟩
    have hn50 : n < 50 := by omega
    go_enter Try.func7, Try.ntmps7
    go_wp2_with (first
      | (go_at_call 9; refine hS.mono ?_; rintro e w1 ⟨rfl, B1⟩; have HB : Hid (Below w.heap.size w w1 ∧ True) := ⟨B1, trivial⟩; have hN := sNew w.heap.size w1 B1.size; clear B1 hS)
      | (go_at_call 10; refine hN.mono ?_; rintro e w2 ⟨rfl, S2, B2⟩; have HB2 : Hid (Below w.heap.size w w2 ∧ True) := ⟨HB.out.1.trans (B2.mono HB.out.1.size), trivial⟩; have cP := sPower S2 (n : Int) (by omega); rw [powN] at cP; clear S2 B2 hN HB)
      | (go_at_call 26; refine cP.mono ?_; rintro e w3 ⟨⟨x3, rfl⟩, S3, B3⟩; have HB3 : Hid (J1 w w1.heap.size n 0 w3) := ⟨[], .inl ⟨rfl, rfl⟩, by simpa using S3, HB2.out.1.trans B3.1⟩; clear S3 B3 cP HB2))
    go_loopw [7] (fun vi wr => ∃ i : Nat, vi = .int .i64 i ∧ i ≤ n ∧ J1 w w1.heap.size n i wr) (fun vi _ => n - (intOf vi).toNat)
    case atStart => exact ⟨0, rfl, Nat.zero_le _, HB3.out⟩
    case round =>
      obtain ⟨i, rfl, hi, hJ⟩ := hrel
      by_cases hl : i < n
      · have hli : (i : Int) < (n : Int) := by omega
        obtain ⟨fs, hfo, hst, hbw⟩ := hJ
        obtain ⟨fs', he, hfo'⟩ := step1 hfo (by omega) (p := (n : Int) - i) (by omega)
        have cA := sApp hst ⟨#[102]⟩ ⟨#[120]⟩ (by decide)
        rw [he] at cA
        have HW : Hid (Below w.heap.size w wr ∧ Fo (i + 1) fs') := ⟨hbw, hfo'⟩
        clear hst hbw he hfo hfo' HB3
        go_wp2_with (first
          | (go_at_call 19; refine cA.mono ?_; rintro e w4 ⟨rfl, S4, B4⟩; have cO := sOff S4; have HJ : Hid (J1 w w1.heap.size n (i + 1) w4) := ⟨fs', HW.out.2, by rw [show (n : Int) - ((i + 1 : Nat) : Int) = (n : Int) - i - 1 by omega]; exact S4, HW.out.1.trans B4.1⟩; clear S4 B4 cA HW)
          | (go_at_call 18; refine cO.mono ?_; rintro e w5 ⟨rfl, rfl⟩; clear cO))
        go_roundw
        case rel => exact ⟨i + 1, by simp, by omega, HJ.out⟩
        case measure => simp [intOf]; omega
      · have hli : ¬ (i : Int) < (n : Int) := by omega
        obtain rfl : i = n := by omega
        obtain ⟨fs, hfo, hst, hbw⟩ := hJ
        rw [show (i : Int) - i = 0 by omega] at hst
        have HW : Hid (Fo i fs ∧ True) := ⟨hfo, trivial⟩
        have HK : Hid (J2 w w1.heap.size fs wr) := ⟨false, hst, hbw⟩
        clear hst hbw hfo HB3
        go_wp2_with fail
        go_loopw [9] (fun vi wr => ∃ j : Nat, vi = .int .i64 j ∧ (j : Int) ≤ max 0 (y + 1) ∧ J2 w w1.heap.size fs wr) (fun vi _ => (max 0 (y + 1) - intOf vi).toNat)
        case atStart => exact ⟨0, rfl, by omega, HK.out⟩
        case round =>
          obtain ⟨j, rfl, hj, o, hst, hbw⟩ := hrel
          by_cases hjy : (j : Int) ≤ y
          · have cA := sApp hst ⟨#[102]⟩ ⟨#[121]⟩ (by decide)
            rw [step2 HW.out.1 (by omega) o] at cA
            have HX : Hid (Below w.heap.size w wr ∧ True) := ⟨hbw, trivial⟩
            clear hst hbw HK
            go_wp2_with (first
              | (go_at_call 19; refine cA.mono ?_; rintro e w4 ⟨rfl, S4, B4⟩; have cR := sRead S4 ⟨#[102]⟩ (by decide); rw [read_dead] at cR; have cO := sOff S4; have HJ : Hid (J2 w w1.heap.size fs w4) := ⟨true, S4, HX.out.1.trans B4.1⟩; clear S4 B4 cA HX)
              | (go_at_call 22; refine cR.mono ?_; rintro e w5 ⟨rfl, rfl⟩; clear cR)
              | (go_at_call 18; refine cO.mono ?_; rintro e w5 ⟨rfl, rfl⟩; clear cO))
            go_roundw
            case rel => exact ⟨j + 1, by simp, by omega, HJ.out⟩
            case measure => simp [intOf]; omega
          · obtain ⟨fs2, t, he1, he2, hts⟩ := step3 HW.out.1 (by omega) 0 o
            have cC := sCrashL hst (ks := [(i : Int)]) (kc := 1) (arr := #[.int .i64 (i : Int)]) (t := 3) (fun q hq => by
              have : q = 0 := by simpa using hq
              subst this; rfl)
            have HX : Hid (Below w.heap.size w wr ∧ True) := ⟨hbw, trivial⟩
            have hw9 : IntKind.i64.wrap ((i : Int) + 1) = (i : Int) + 1 := by rw [IntKind.wrap_i64]; omega
            have hts' : (t.size : Int) = (i : Int) + 1 := by omega
            clear hst hbw HK
            generalize aCrash (fs, 0, o) [(i : Int)] = stc at *
            go_wp2_with (first
              | (go_at_call 21; refine cC.mono ?_; rintro e w4 ⟨⟨x4, rfl⟩, S4, B4⟩; have cA := sApp S4 ⟨#[102]⟩ ⟨#[122]⟩ (by decide); rw [he1] at cA; have HY : Hid (Below w.heap.size w w4 ∧ True) := ⟨HX.out.1.trans B4.1, trivial⟩; clear S4 B4 cC HX)
              | (go_at_call 19; refine cA.mono ?_; rintro e w5 ⟨rfl, S5, B5⟩; have cR := sRead S5 ⟨#[102]⟩ (by decide); rw [he2] at cR; have cO := sOff S5; have HZ : Hid (Below w.heap.size w w5 ∧ True) := ⟨HY.out.1.trans B5.1, trivial⟩; clear S5 B5 cA HY)
              | (go_at_call 22; refine cR.mono ?_; rintro e w6 ⟨rfl, rfl⟩; clear cR)
              | (go_at_call 18; refine cO.mono ?_; rintro e w7 ⟨rfl, rfl⟩; clear cO))
            go_ret
            exact ⟨by simp, HZ.out.1⟩

theorem own : ownKnob Try.prog.godebug = none := by kernel_rfl

set_option maxRecDepth 100000 in
theorem lifted (os : Os) (started : os.Started) (H : Type) (enc : TypeId × Value → H) :
    ReturnsInHanded {} Try.checked os 7 .any (Rows.diskPowerSpec.pre6 enc Try.prog Try.f7 Rows.diskPowerRow.domain false) (Rows.diskPowerSpec.post enc Try.prog Try.f7 false true false false) := by
  refine returnsInHanded_of_change_sized (C := Try.checked) own started (by kernel_rfl) Try.func7
    (ChangeSpec.witness6 (enc := enc) (C := Try.checked) false ⟨#[], #[.int .i64 0, .int .i64 0], []⟩ 8 (by kernel_rfl) (by kernel_rfl) (by kernel_rfl) (by kernel_rfl)) ?_
  intro W base args ds gs before hval0 hW hcnd hsz0 _
  have hval : ∀ (j : Nat) t v, Try.f7.params[j]? = some t → args[j]? = some v → Value.okWide Try.prog W .any base t v := hval0
  have hW' := hW
  obtain ⟨p, q, hA0, hV, rfl, hfz, hnd⟩ := hW
  have hA : DataW.TrodAll enc Try.prog W 0 (fun _ => true) true Try.f7.params.toList args.toList ds p := hA0
  rw [Try.params7] at hA hval
  obtain ⟨v0, vs0, d0, ds0, p0, q0, hargs, rfl, rfl, h0, r0⟩ := trodAll_cons hA
  obtain ⟨v1, vs1, d1, ds1, p1, q1, rfl, rfl, rfl, h1, r1⟩ := trodAll_cons r0
  obtain ⟨rfl, rfl, rfl⟩ := trodAll_nil r1
  obtain rfl : args = #[v0, v1] := by cases args; simp_all
  obtain ⟨rfl, rfl⟩ := trodVars_none hV
  obtain ⟨a0, rfl, rfl, rfl, w0⟩ := open_int Try.underlying3 (hval 0 3 v0 rfl rfl) h0
  obtain ⟨a1, rfl, rfl, rfl, w1⟩ := open_int Try.underlying3 (hval 1 3 v1 rfl rfl) h1
  clear hA0 hval0
  refine (walk a0 a1 W).mono fun e W' ⟨he, bel⟩ => ?_
  subst he
  exact ⟨_, rfl, _, _, _, [], _, [], hW', trodAll_mk1 (shut_bool Try.underlying4 _), (trodAll_cons_mk (shut_int Try.underlying3 w0) (trodAll_cons_mk (shut_int Try.underlying3 w1) trodAll_mk0)), rfl, bel.frame _, fun h => by cases h⟩

theorem proved : Rows.DiskPowerSaid :=
  OpenClaim.holds_of_wide 7 Try.f7 rfl rfl rfl rfl rfl rfl rfl ⟨rfl, rfl, rfl, rfl, rfl⟩ rfl rfl rfl rfl rfl (by kernel_rfl) Try.func7 (by kernel_rfl)
    (of_decide_eq_true (by kernel_rfl)) (by unfold Func.isWrapper; first | (rw [if_pos (by decide +kernel)]; kernel_rfl) | (rw [if_neg (by decide +kernel)]; exact ⟨rfl, rfl⟩))
    (fun os started H enc _ => lifted os started H enc)
end Go.Proofs.Ytdklpjcboeeaoaa.diskPower

/-
  Proved: for every text, place and number FrameSums answers true, and changes nothing that was there before the call: check sums of texts that differ in just one byte differ. No condition.
-/
import Derived.Test.YtbnfmaooailfeabF5Shown
import Derived.Test.YtbnfmaooailfeabF5Bytes
import Derived.Test.YtbnfmaooailfeabF5Args
namespace Go.Proofs.Ytbnfmaooailfeab.frameSums
open Go.ChangeShapes Go.WideShapes Go.ChangeAt Go.RowKit
open Go.ChangeMaps (open_string shut_string)

variable (at' by' : Int) (l : List UInt8) (w : World)
def Goal : Prop := Calls Try.prog 3 #[.string (S l), .int .i64 at', .int .i64 by'] w fun r w' => r = .returned (.bool true) ∧ Below w.heap.size w w'
theorem tmod_iff (x : Int) : x.tmod 256 = 0 ↔ x % 256 = 0 := by
  rw [← Int.dvd_iff_tmod_eq_zero, ← Int.dvd_iff_emod_eq_zero]

set_option maxHeartbeats 4000000 in
set_option maxRecDepth 100000 in
theorem walkA (hl : l.length ≤ 140737488351232) (h : at' < 0 ∨ (l.length : Int) ≤ at' ∨ by' % 256 = 0 ∨ 100000 < l.length) : Goal at' by' l w := by
  have hs := S_size l
  have ht := tmod_iff by'
  unfold Goal
  by_cases h1 : at' < 0
  · clear h
    go_enter Try.func3, Try.ntmps3
    go_wp2_with (go_at_call 4; refine (shown_any _).mono ?_; rintro e w1 ⟨rfl, b1⟩)
    go_ret
    exact ⟨rfl, b1⟩
  · by_cases h2 : (l.length : Int) ≤ at'
    · clear h
      go_enter Try.func3, Try.ntmps3
      go_wp2_with (go_at_call 4; refine (shown_any _).mono ?_; rintro e w1 ⟨rfl, b1⟩)
      go_ret
      exact ⟨rfl, b1⟩
    · by_cases h3 : by' % 256 = 0
      · have h3' := ht.2 h3
        clear h ht
        go_enter Try.func3, Try.ntmps3
        go_wp2_with (go_at_call 4; refine (shown_any _).mono ?_; rintro e w1 ⟨rfl, b1⟩)
        go_ret
        exact ⟨rfl, b1⟩
      · have h3' : ¬ by'.tmod 256 = 0 := fun h => h3 (ht.1 h)
        have h4 : (100000 : Int) < (l.length : Int) := by omega
        clear h ht
        go_enter Try.func3, Try.ntmps3
        go_wp2_with (go_at_call 4; refine (shown_any _).mono ?_; rintro e w1 ⟨rfl, b1⟩)
        go_ret
        exact ⟨rfl, b1⟩

set_option maxHeartbeats 4000000 in
set_option maxRecDepth 100000 in
theorem walkC (p : Nat) (hl : l.length ≤ 100000) (hp : p < l.length) (h : by' % 256 ≠ 0) : Goal p by' l w := by
  have hs := S_size l
  have h1 : ¬ (p : Int) < 0 := by omega
  have h2 : ¬ (l.length : Int) ≤ (p : Int) := by omega
  have h2' : (p : Int) < (l.length : Int) := by omega
  have h3 : ¬ by'.tmod 256 = 0 := fun e => h ((tmod_iff by').1 e)
  have h3b : (by'.tmod 256 == 0) = false := by simpa using h3
  have h4 : ¬ (100000 : Int) < (l.length : Int) := by omega
  obtain ⟨m, hm⟩ : ∃ m : Nat, by' % 256 = (m : Int) := ⟨(by' % 256).toNat, by omega⟩
  obtain ⟨a, b, hab, hal, hset⟩ := split_at l hp
  obtain ⟨y, hy, hxy⟩ := turned (x := l[p]) (m := m) (by omega) (by omega)
  rw [← hm] at hy
  have hne : sumOf l ≠ sumOf (l.set p y) := by
    rw [hset y]
    conv => lhs; rw [hab]
    exact sum_apart a b hxy
  have hsl : (l.set p y).length = l.length := List.length_set
  have hml : l.length ≤ maxLen := by unfold maxLen; omega
  have hne' : ((sumOf l : Nat) : Int) ≠ ((sumOf (l.set p y) : Nat) : Int) := by omega
  have hne3 : (((sumOf l : Nat) : Int) != ((sumOf (l.set p y) : Nat) : Int)) = true := by rw [bne_iff_ne]; exact hne'
  have H1 : ∀ w, _ := fun w => Sum_any l (by omega) w
  have H2 : ∀ w, _ := fun w => Sum_any (l.set p y) (by omega) w
  have H3 : ∀ w, _ := fun w => rSum_any l (by omega) w
  have HM : Hid (by' % 256 = (m : Int)) := hm
  clear hab hal hset hxy h hm
  generalize sumOf l = x1 at *
  generalize sumOf (l.set p y) = x2 at *
  unfold Goal
  go_enter Try.func3, Try.ntmps3
  go_wp2_with (first
    | (go_at_call 4; refine (shown_any _).mono ?_; rintro e w1 ⟨rfl, b1⟩; obtain ⟨W, cap, hcv, hB, b3, hW⟩ := bytes_new w1 l hml; have hcl := hB.cell p hp; have hfr := hB.fro p hp; have HB : Hid (Bs (W.setCell ⟨w1.heap.size, p, none⟩ (.int .u8 (y.toNat : Int))) w1.heap.size (l.set p y)) := hB.set hp (y := y) rfl; clear hB)
    | (go_at_call_of 5 (Value.string (S l)); refine (H1 _).mono ?_; rintro e w2 ⟨rfl, b4⟩; have HB2 : Hid (Bs w2 w1.heap.size (l.set p y)) := HB.out.below b4 (by simpa using hW); have hcv2 := HB2.out.conv (cap := cap); rw [hsl] at hcv2)
    | (go_at_call 5; refine (H2 _).mono ?_; rintro e w3 ⟨rfl, b5⟩)
    | (go_at_call 6; refine (H3 _).mono ?_; rintro e w4 ⟨rfl, rfl⟩))
  have hB4 := bel_of ((bel_of b1 b3 (Nat.le_refl _)).setCell (p := ⟨w1.heap.size, p, none⟩) b1.size _) b4 (Nat.le_refl _)
  go_ret
  exact ⟨rfl, bel_of hB4 b5 (Nat.le_refl _)⟩

theorem walk (hl : l.length ≤ 140737488351232) : Goal at' by' l w := by
  by_cases h : at' < 0 ∨ (l.length : Int) ≤ at' ∨ by' % 256 = 0 ∨ 100000 < l.length
  · exact walkA at' by' l w hl h
  · obtain ⟨p, rfl⟩ : ∃ p : Nat, at' = (p : Int) := ⟨at'.toNat, by omega⟩
    exact walkC by' l w p (by omega) (by omega) (by omega)

theorem own : ownKnob Try.prog.godebug = none := by kernel_rfl

set_option maxRecDepth 100000 in
theorem lifted (os : Os) (started : os.Started) (H : Type) (enc : TypeId × Value → H) :
    ReturnsInHanded {} Try.checked os 3 .any (Rows.frameSumsSpec.pre6 enc Try.prog Try.f3 Rows.frameSumsRow.domain false) (Rows.frameSumsSpec.post enc Try.prog Try.f3 false true false false) := by
  refine returnsInHanded_of_change_sized (C := Try.checked) own started (by kernel_rfl) Try.func3
    (ChangeSpec.witness6 (enc := enc) (C := Try.checked) false ⟨#[], #[.string .empty, .int .i64 0, .int .i64 0], []⟩ 8 (by kernel_rfl) (by kernel_rfl) (by kernel_rfl) (by kernel_rfl)) ?_
  intro W base args ds gs before hval0 hW hcnd hsz0 _
  have hval : ∀ (j : Nat) t v, Try.f3.params[j]? = some t → args[j]? = some v → Value.okWide Try.prog W .any base t v := hval0
  have hsz : (DataW.weightsEach Try.prog (Try.f3.params.toList ++ Rows.frameSumsSpec.plain.varTypes Try.prog) (ds ++ gs)).all (· ≤ reachBytes) = true := hsz0
  have hW' := hW
  obtain ⟨p, q, hA0, hV, rfl, hfz, hnd⟩ := hW
  have hA : DataW.TrodAll enc Try.prog W 0 (fun _ => true) true Try.f3.params.toList args.toList ds p := hA0
  rw [Try.params3] at hA hval hsz
  obtain ⟨v0, vs0, d0, ds0, p0, q0, hargs, rfl, rfl, h0, r0⟩ := trodAll_cons hA
  obtain ⟨v1, vs1, d1, ds1, p1, q1, rfl, rfl, rfl, h1, r1⟩ := trodAll_cons r0
  obtain ⟨v2, vs2, d2, ds2, p2, q2, rfl, rfl, rfl, h2, r2⟩ := trodAll_cons r1
  obtain ⟨rfl, rfl, rfl⟩ := trodAll_nil r2
  obtain rfl : args = #[v0, v1, v2] := by cases args; simp_all
  obtain ⟨rfl, rfl⟩ := trodVars_none hV
  obtain ⟨a0, rfl, rfl, rfl, w0⟩ := open_string Try.underlying9 (hval 0 9 v0 rfl rfl) h0
  have hlen0 := sized_string hsz (j := 0) (t := 9) rfl rfl
  simp only [reachBytes] at hlen0
  obtain ⟨a1, rfl, rfl, rfl, w1⟩ := open_int Try.underlying3 (hval 1 3 v1 rfl rfl) h1
  obtain ⟨a2, rfl, rfl, rfl, w2⟩ := open_int Try.underlying3 (hval 2 3 v2 rfl rfl) h2
  clear hA0 hval0
  have hwk := walk a1 a2 a0.data.toList W (by omega)
  unfold Goal at hwk
  rw [S_of] at hwk
  refine hwk.mono fun e W' ⟨he, bel⟩ => ?_
  subst he
  exact ⟨_, rfl, _, _, _, [], _, [], hW', trodAll_mk1 (shut_bool Try.underlying4 _), (trodAll_cons_mk (shut_string Try.underlying9 w0) (trodAll_cons_mk (shut_int Try.underlying3 w1) (trodAll_cons_mk (shut_int Try.underlying3 w2) trodAll_mk0))), rfl, bel.frame _, fun h => by cases h⟩

theorem proved : Rows.FrameSumsSaid :=
  OpenClaim.holds_of_wide 3 Try.f3 rfl rfl rfl rfl rfl rfl rfl ⟨rfl, rfl, rfl, rfl, rfl⟩ rfl rfl rfl rfl rfl (by kernel_rfl) Try.func3 (by kernel_rfl)
    (of_decide_eq_true (by kernel_rfl)) (by unfold Func.isWrapper; first | (rw [if_pos (by decide +kernel)]; kernel_rfl) | (rw [if_neg (by decide +kernel)]; exact ⟨rfl, rfl⟩))
    (fun os started H enc _ => lifted os started H enc)
end Go.Proofs.Ytbnfmaooailfeab.frameSums

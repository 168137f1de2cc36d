/-
  Proved, of arguments of bulk at most 1048576: for every block's size and every slice of rows RunBuilds answers true, and changes nothing that was there before the call: whatever keys and values there are, in whatever order, their run has just the document's bytes, or the document's reason why there is none. Condition: the arguments are of bulk at most 1048576 (the statement's second form).
-/
import Derived.Test.YtiaeicfmdnmeeaaH7RefQ
import Derived.Test.YtiaeicfmdnmeeaaH7Args
import Derived.Lib.SmallJoins
namespace Go.Proofs.Ytiaeicfmdnmeeaa.runBuilds
open Go.ChangeShapes Go.WideShapes Go.ChangeAt Go.RowKit
open Go.ChangeMaps (open_string shut_string)

/-- a row as data -/
def dat {H : Type} (r : R7) : DataW H := .agg [.lit (.string r.1), .agg [.lit (.string r.2.1), .lit (.bool r.2.2)]]
theorem bulk_rows {H : Type} : ∀ (l : List R7), Rows.uptoBulkAll (l.map (dat (H := H))) ≤ 1048576 → l.length ≤ Rows.uptoBulkAll (l.map (dat (H := H))) ∧ (ld l).length ≤ 5 * Rows.uptoBulkAll (l.map (dat (H := H))) ∧ Sm7 l
  | [], _ => ⟨by simp, by simp [ld], fun x hx => by cases hx⟩
  | x :: t, h => by
    have e : Rows.uptoBulkAll ((x :: t).map (dat (H := H))) = (x.1.length + x.2.1.length + 5) + Rows.uptoBulkAll (t.map (dat (H := H))) := by
      simp only [List.map_cons, Rows.uptoBulkAll, dat, Rows.uptoBulk]
      omega
    rw [e] at h ⊢
    obtain ⟨h1, h2, h3⟩ := bulk_rows t (by omega)
    have u1 := Lib.uvarint_length64 (show x.1.length < 18446744073709551616 by omega)
    have u2 := Lib.uvarint_length64 (show x.2.1.length < 18446744073709551616 by omega)
    refine ⟨by rw [List.length_cons]; omega, ?_, fun y hy => ?_⟩
    · rw [ld_cons, List.length_append, rb_length, txt_length, txt_length]
      omega
    · rcases List.mem_cons.1 hy with rfl | hy
      · exact ⟨by omega, by omega⟩
      · exact h3 y hy

set_option maxHeartbeats 4000000 in
set_option maxRecDepth 100000 in
theorem walk (block : Int) (l : List R7) (w : World) {v : Value} (hv : Rw7 w v l) (hn : l.length ≤ 1048576) (hD : (ld l).length ≤ 33554432) (hs : Sm7 l) :
    Calls Try.prog 3 #[.int .i64 block, v] w fun r w' => r = .returned (.bool true) ∧ Below w.heap.size w w' := by
  have HB1 : Hid (∀ (w2 : World), Below w.heap.size w w2 → Calls Try.prog 6 #[.int .i64 block, v] w2 _) := fun w2 hb => built_any block (hv.up hb) (by omega) hs
  have HB2 : Hid (∀ (w2 : World), Below w.heap.size w w2 → Calls Try.prog 7 #[.int .i64 block, v] w2 _) := fun w2 hb => refBuild_any block (hv.up hb) hn hD hs
  obtain ⟨va, cap, rfl, -⟩ := hv
  generalize (bld block l).1 = s1 at *
  generalize (bld block l).2 = e1 at *
  clear hn hD hs
  go_enter Try.func3, Try.ntmps3
  go_wp2_with (first
    | (go_at_call 5; refine (shown_any _).mono ?_; rintro e w1 ⟨rfl, b1⟩; have B1 : Hid (Below w.heap.size w w1) := b1; clear b1)
    | (go_at_call 6; refine (HB1.out w1 B1.out).mono ?_; rintro e w2 ⟨rfl, b2⟩; (have B2 : Hid (Below w.heap.size w w2) := bel_of B1.out b2 (Nat.le_refl _)); clear b2)
    | (go_at_call 7; refine (HB2.out w2 B2.out).mono ?_; rintro e w3 ⟨rfl, b3⟩; (have B3 : Hid (Below w.heap.size w w3) := bel_of B2.out b3 (Nat.le_refl _)); clear b3))
  go_ret
  exact ⟨by simp, B3.out⟩

set_option maxRecDepth 100000 in
theorem lifted (os : Os) (started : os.Started) (H : Type) (enc : TypeId × Value → H) (F : Stop.Interp) :
    ReturnsInHanded {} Try.checked os 3 .any ((Rows.OpenSpec.upto Rows.runBuildsSpec).pre6 enc Try.prog Try.f3 Rows.runBuildsUptoRow.domain false) (((Rows.OpenSpec.upto Rows.runBuildsSpec).at F).post enc Try.prog Try.f3 false true false false) := by
  refine returnsInHanded_of_cond (C := Try.checked) (s := Rows.OpenSpec.upto Rows.runBuildsSpec) (k := Rows.uptoSmall) rfl own started (by kernel_rfl) Try.func3
    (OpenSpec.witness (enc := enc) (C := Try.checked) (s := Rows.OpenSpec.upto Rows.runBuildsSpec) (k := Rows.uptoSmall) rfl false ⟨#[], #[.int .i64 0, .slice none 0 0], []⟩ 8 (by kernel_rfl) (by kernel_rfl) (by kernel_rfl)
      (x := ([.lit (.int .i64 0), .nil], [], [])) (by kernel_rfl) rfl (by kernel_rfl)) ?_
  intro W base args ds gs before hval0 hW _ hk _
  have hval : ∀ (j : Nat) t v, Try.f3.params[j]? = some t → args[j]? = some v → Value.okWide Try.prog W .any base t v := hval0
  have hW' := hW
  obtain ⟨p, q, hA0, hV, rfl, hfz, hnd⟩ := hW
  have hA : DataW.TrodAll enc Try.prog W 0 (fun _ => true) true Try.f3.params.toList args.toList ds p := hA0
  rw [Try.params3] at hA hval
  obtain ⟨v0, vs0, d0, ds0, p0, q0, hargs, rfl, rfl, h0, r0⟩ := trodAll_cons hA
  obtain ⟨v1, vs1, d1, ds1, p1, q1, rfl, rfl, rfl, h1, r1⟩ := trodAll_cons r0
  obtain ⟨rfl, rfl, rfl⟩ := trodAll_nil r1
  obtain rfl : args = #[v0, v1] := by cases args; simp_all
  obtain ⟨rfl, rfl⟩ := trodVars_none hV
  have k1 := h1
  have lt1 : ∀ x ∈ p1, x.block < W.heap.size := by obtain ⟨m, hm⟩ := k1; exact DataW.trod_lt m _ _ _ hm
  obtain ⟨a0, rfl, rfl, rfl, w0⟩ := open_int Try.underlying3 (hval 0 3 v0 rfl rfl) h0
  obtain ⟨l, hl, -, hl3⟩ := openRows7 (hval 1 22 v1 rfl rfl) h1
  have hsmall : Rows.uptoBulkAll ([DataW.lit (.int .i64 a0), d1] ++ []) ≤ 1048576 := of_decide_eq_true hk
  simp only [List.append_nil, Rows.uptoBulkAll, Rows.uptoBulk] at hsmall
  have hb : l.length ≤ 1048576 ∧ (ld l).length ≤ 33554432 ∧ Sm7 l := by
    rcases hl3 with rfl | ⟨sp, rfl⟩
    · exact ⟨by simp, by simp [ld], fun x hx => by cases hx⟩
    · simp only [Rows.uptoBulk] at hsmall
      have hB : Rows.uptoBulkAll (l.map (dat (H := H))) ≤ 1048576 := by
        have : l.map (dat (H := H)) = l.map fun r => .agg [.lit (.string r.1), .agg [.lit (.string r.2.1), .lit (.bool r.2.2)]] := rfl
        rw [this]
        omega
      obtain ⟨b1, b2, b3⟩ := bulk_rows (H := H) l hB
      exact ⟨by omega, by omega, b3⟩
  clear hA0 hval0
  refine (walk a0 l W hl hb.1 hb.2.1 hb.2.2).mono fun e W' ⟨he, bel⟩ => ?_
  subst he
  exact ⟨_, rfl, _, _, _, [], _, [], hW', trodAll_mk1 (shut_bool Try.underlying4 _), (trodAll_cons_mk (shut_int Try.underlying3 w0) (trodAll_cons_mk (Below.trod laidOut (by kernel_rfl) (of_decide_eq_true (by kernel_rfl)) k1 bel lt1) trodAll_mk0)), rfl, bel.frame _, fun h => by cases h⟩

theorem proved : Rows.RunBuildsUptoSaid :=
  OpenClaim.holds_of_cond 3 Try.f3 rfl rfl rfl rfl rfl rfl rfl ⟨rfl, rfl, rfl, rfl, rfl⟩ rfl rfl rfl rfl rfl (by kernel_rfl) Try.func3 (by kernel_rfl)
    (of_decide_eq_true (by kernel_rfl)) (by unfold Func.isWrapper; first | (rw [if_pos (by decide +kernel)]; kernel_rfl) | (rw [if_neg (by decide +kernel)]; exact ⟨rfl, rfl⟩))
    (fun os started H enc _ F => lifted os started H enc F)
end Go.Proofs.Ytiaeicfmdnmeeaa.runBuilds

/-
  Proved: for every key and every block's size RunNil answers true, and changes nothing that was there before the call: a run that is nil has nothing; a range that is nil is a run of nothing. No condition.
-/
import Derived.Test.YtiflkgpdomippaaH7RefN
import Derived.Test.YtiflkgpdomippaaH7Args
namespace Go.Proofs.Ytiflkgpdomippaa.runNil
open Go.RowKit Go.Shelf Go.Sort Go.Proofs.Ytiflkgpdomippaa
open Go.Lib hiding intOf
attribute [local go_sem] Oper.semAt_some

set_option maxRecDepth 100000 in
set_option maxHeartbeats 8000000 in
theorem walk (k : ByteArray) (block : Int) (w : World) : Calls Try.prog 7 #[.string k, .int .i64 block] w fun r w' => r = .returned (.bool true) ∧ Below w.heap.size w w' := by
  have hGN : ∀ w : World, Calls Try.prog 15 #[.pointer none, .string k] w fun e w' => e = .returned (.tuple #[.agg #[.string ⟨#[]⟩, .bool false], .bool false]) ∧ Below w.heap.size w w' := fun w => Get_nil k w
  refine (callsIn_wide (n := 9)).1 ?_
  refine callsIn_of_wp_marks Try.func7 rfl trivial ?_ rfl
  simp only [Try.ntmps7, List.size_toArray, List.length_cons, List.length_nil, Nat.reduceAdd, Nat.reduceSub, Array.replicate_succ, Array.replicate_zero, List.push_toArray, List.append_toArray, List.nil_append, List.cons_append]
  gi_wp2_with (first
    | (refine ⟨trivial, ?_⟩; gi_at_call 9; refine (callsIn_wide.2 (shown_any _)).mono ?_; rintro e w1 ⟨rfl, b1⟩; have B1 : Hid (Below w.heap.size w w1) := b1; clear b1)
    | (refine ⟨trivial, ?_⟩; gi_at_call 15; refine (callsIn_wide.2 (hGN _)).mono ?_; rintro e w2 ⟨rfl, b2⟩; (have B2 : Hid (Below w.heap.size w w2) := bel_of B1.out b2 (Nat.le_refl _)); clear b2)
    | (refine ⟨trivial, ?_⟩; gi_at_call 18; refine (callsIn_wide.2 (From_nil _ _)).mono ?_; rintro e w5 ⟨rfl, hS5, hb5⟩))
  obtain ⟨W4, hW4⟩ : ∃ W4, W4 = (w2.alloc (.cells #[.string ⟨#[]⟩, .bool false] 37)).alloc (.cells #[.int .i64 0] 3) := ⟨_, rfl⟩
  have hs4 : W4.heap.size = w2.heap.size + 1 + 1 := by rw [hW4]; simp
  have bc : W4.heap[w2.heap.size]? = some (.cells #[.string ⟨#[]⟩, .bool false] 37) := by rw [hW4]; exact (Below.heap_alloc _ _ _ (by simp)).trans (heap_alloc_new _ _)
  have bn : Bx W4 (w2.heap.size + 1) (.int .i64 0) 3 := by
    rw [hW4]
    have := Bx.new (w2.alloc (.cells #[.string ⟨#[]⟩, .bool false] 37)) (.int .i64 0) 3
    rwa [World.size_alloc] at this
  have hB4 : Below w.heap.size w W4 := by rw [hW4]; exact (B2.out.alloc B2.out.size _).alloc (by simp; have := B2.out.size; omega) _
  rw [← hW4] at hS5 hb5
  rw [hs4] at hS5
  clear hW4
  have hz5 := hb5.size
  have hw2 := B2.out.size
  have hB5 : Below w.heap.size w w5 := bel_of hB4 hb5 (Nat.le_refl _)
  have bc5 : w5.heap[w2.heap.size]? = some (.cells #[.string ⟨#[]⟩, .bool false] 37) := (hb5.block _ (by omega)).trans bc
  have bn5 := bn.below hb5 bn.lt
  clear bc bn hb5 hB4
  refine range_sqA (fun _ => rfl) rfl hS5
    (fun s pre W => W.heap[w2.heap.size]? = some (.cells #[.string ⟨#[]⟩, .bool false] 37) ∧ Bx W (w2.heap.size + 1) (.int .i64 0) 3 ∧ Below w.heap.size w W)
    (fun _ _ _ _ => False) (fun _ _ _ _ _ _ _ => False)
    ?hI ?hIx ?hA ?start ?assign ?body ?done ?stop
  case hI =>
    rintro s pre A B ⟨h0, h1, h2⟩ hs
    exact ⟨hs.obj h0 (by rintro ⟨h, -⟩; omega), hs.bx h1 (.inl (by omega)), hs.below h2 (Nat.le_refl _) (by omega)⟩
  case hIx => rintro s c pre A B h; exact h.elim
  case hA => intro _ _ _ _ _ _ _ _ h; exact h.elim
  case start =>
    intro W0 hB h0
    exact ⟨(hB.block _ (Array.getElem?_eq_some_iff.1 bc5).1).trans bc5, bn5.below hB bn5.lt, hB5.trans (hB.mono hB5.size)⟩
  case assign =>
    intro _ _ _ _ _ _ _ _ _ _ hnx
    have := hnx.length_le
    simp at this
  case body => intro _ _ _ _ _ _ _ _ _ h; exact h.elim
  case stop => rintro s c pre W h; exact h.elim
  case done =>
    rintro s W ⟨h0, h1, h2⟩ hD
    have HW : Hid (∀ W', Below W.heap.size W W' → W'.cell? ⟨w2.heap.size + 1, 0, none⟩ = some (.int .i64 0) ∧ W'.cell? ⟨w2.heap.size, 0, none⟩ = some (.string ⟨#[]⟩) ∧ W'.cell? ⟨w2.heap.size, 1, none⟩ = some (.bool false) ∧ W'.heap[w5.heap.size]? = some (.deferred (some [])) ∧ Below w.heap.size w W') := fun W' hb => by
      have h0' : W'.heap[w2.heap.size]? = _ := (hb.block _ (Array.getElem?_eq_some_iff.1 h0).1).trans h0
      exact ⟨(h1.below hb h1.lt).cell, by simp [World.cell?, h0'], by simp [World.cell?, h0'], (hb.block _ (Array.getElem?_eq_some_iff.1 hD).1).trans hD, h2.trans (hb.mono h2.size)⟩
    have hBu := Build_any (w := W) block (Sn.nil W (fun _ => False) (fun _ h => h.elim)) (by simp)
    have hRe := refBuild_nil block
    generalize (bld block []).1 = s1 at *
    generalize (bld block []).2 = e1 at *
    clear h0 h1 h2 hD
    gi_wp2_with (first
      | (refine ⟨trivial, ?_⟩; gi_at_call 19; refine (callsIn_wide.2 hBu).mono ?_; rintro e w6 ⟨rfl, b6⟩; have B6 : Hid (Below W.heap.size W w6) := b6; clear b6)
      | (refine ⟨trivial, ?_⟩; gi_at_call 11; refine (callsIn_wide.2 (hRe _)).mono ?_; rintro e w7 ⟨rfl, b7⟩; (have B7 : Hid (Below W.heap.size W w7) := bel_of B6.out b7 (Nat.le_refl _)); obtain ⟨q1, q2, q3, q4, q5⟩ := HW.out w7 B7.out; have Q5 : Hid (W.heap.size ≤ w7.heap.size ∧ w7.heap[w5.heap.size]? = some (.deferred (some [])) ∧ Below w.heap.size w w7) := ⟨B7.out.size, q4, q5⟩; clear q4 q5 b7)
      | (refine ⟨trivial, ?_⟩; gi_at_call 16; refine (callsIn_wide.2 (Len_nil _)).mono ?_; rintro e w8 ⟨rfl, rfl⟩)
      | (refine ⟨trivial, ?_⟩; gi_at_call 17; refine (callsIn_wide.2 (Blocks_nil _)).mono ?_; rintro e w9 ⟨rfl, rfl⟩))
    obtain ⟨-, x1, x2⟩ := Q5.out
    refine ⟨by simp, .inl ⟨_, _, rfl, takes x1, ?_⟩⟩
    exact ⟨_, results_tmp rfl _ _ _, rfl, below_take x2 (Nat.le_refl _) (by omega) _⟩

open Go.ChangeShapes Go.WideShapes Go.ChangeAt in
open Go.ChangeMaps (open_string shut_string) in
set_option maxRecDepth 100000 in
theorem lifted (os : Os) (started : os.Started) (H : Type) (enc : TypeId × Value → H) :
    ReturnsInHanded {} Try.checked os 7 .any (Rows.runNilSpec.pre6 enc Try.prog Try.f7 Rows.runNilRow.domain false) (Rows.runNilSpec.post enc Try.prog Try.f7 false true false false) := by
  refine returnsInHanded_of_change_sized (C := Try.checked) own started (by kernel_rfl) Try.func7
    (ChangeSpec.witness6 (enc := enc) (C := Try.checked) false ⟨#[], #[.string .empty, .int .i64 0], []⟩ 8 (by kernel_rfl) (by kernel_rfl) (by kernel_rfl) (by kernel_rfl)) ?_
  intro W base args ds gs before hval0 hW hcnd hsz0 _
  have hval : ∀ (j : Nat) t v, Try.f7.params[j]? = some t → args[j]? = some v → Value.okWide Try.prog W .any base t v := hval0
  have hW' := hW
  obtain ⟨p, q, hA0, hV, rfl, hfz, hnd⟩ := hW
  have hA : DataW.TrodAll enc Try.prog W 0 (fun _ => true) true Try.f7.params.toList args.toList ds p := hA0
  rw [Try.params7] at hA hval
  obtain ⟨v0, vs0, d0, ds0, p0, q0, hargs, rfl, rfl, h0, r0⟩ := trodAll_cons hA
  obtain ⟨v1, vs1, d1, ds1, p1, q1, rfl, rfl, rfl, h1, r1⟩ := trodAll_cons r0
  obtain ⟨rfl, rfl, rfl⟩ := trodAll_nil r1
  obtain rfl : args = #[v0, v1] := by cases args; simp_all
  obtain ⟨rfl, rfl⟩ := trodVars_none hV
  obtain ⟨a0, rfl, rfl, rfl, w0⟩ := open_string Try.underlying9 (hval 0 9 v0 rfl rfl) h0
  obtain ⟨a1, rfl, rfl, rfl, w1⟩ := open_int Try.underlying3 (hval 1 3 v1 rfl rfl) h1
  clear hA0 hval0
  refine (walk a0 a1 W).mono fun e W' ⟨he, bel⟩ => ?_
  subst he
  exact ⟨_, rfl, _, _, _, [], _, [], hW', trodAll_mk1 (shut_bool Try.underlying4 _), (trodAll_cons_mk (shut_string Try.underlying9 w0) (trodAll_cons_mk (shut_int Try.underlying3 w1) trodAll_mk0)), rfl, bel.frame _, fun h => by cases h⟩

theorem proved : Rows.RunNilSaid :=
  OpenClaim.holds_of_wide 7 Try.f7 rfl rfl rfl rfl rfl rfl rfl ⟨rfl, rfl, rfl, rfl, rfl⟩ rfl rfl rfl rfl rfl (by kernel_rfl) Try.func7 (by kernel_rfl)
    (of_decide_eq_true (by kernel_rfl)) (by unfold Func.isWrapper; first | (rw [if_pos (by decide +kernel)]; kernel_rfl) | (rw [if_neg (by decide +kernel)]; exact ⟨rfl, rfl⟩))
    (fun os started H enc _ => lifted os started H enc)
end Go.Proofs.Ytiflkgpdomippaa.runNil

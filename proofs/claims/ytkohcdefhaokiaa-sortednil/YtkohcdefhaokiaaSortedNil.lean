/-
  Proved: for every text SortedNil answers true, and changes nothing that was there before the call: a map that is nil has nothing. No condition.
-/
import Derived.Test.YtkohcdefhaokiaaRows
import Derived.Test.YtkohcdefhaokiaaSOver
import Derived.ProofKit
import Derived.OpenShut
import Derived.ShutString
namespace Go.Proofs.Ytkohcdefhaokiaa.sortedNil
open Go.ChangeShapes Go.WideShapes Go.ChangeAt Go.RowKit Go.Shelf Go.Lib Go.Sort
open Go.ChangeMaps (open_string shut_string)

attribute [local go_sem] Oper.semAt_some

set_option maxRecDepth 100000 in
set_option maxHeartbeats 4000000 in
theorem nil_walk (k : ByteArray) (w : World) : Calls Try.prog 7 #[.string k] w fun e w' => e = .returned (.bool true) ∧ Below w.heap.size w w' := by
  refine (callsIn_wide (n := 9)).1 ?_
  refine callsIn_of_wp_marks Try.func7 rfl trivial ?_ rfl
  simp only [Try.ntmps7, List.size_toArray, List.length_cons, List.length_nil, Nat.reduceAdd, Nat.reduceSub, Array.replicate_succ, Array.replicate_zero, List.push_toArray, List.append_toArray, List.nil_append, List.cons_append]
  gi_wp2_with (first
    | (refine ⟨trivial, ?_⟩; gi_at_call 9; refine (callsIn_wide.2 (shown_any _)).mono ?_; rintro e w1 ⟨rfl, hB1⟩)
    | (refine ⟨trivial, ?_⟩; gi_at_call 18; refine (callsIn_wide.2 (Put_nil _ _ _)).mono ?_; rintro e w2 ⟨rfl, rfl⟩)
    | (refine ⟨trivial, ?_⟩; gi_at_call 25; refine (callsIn_wide.2 (Get_nil _ _)).mono ?_; rintro e w2 ⟨rfl, rfl⟩)
    | (refine ⟨trivial, ?_⟩; gi_at_call 19; refine (callsIn_wide.2 (Del_nil _ _)).mono ?_; rintro e w2 ⟨rfl, rfl⟩)
    | (refine ⟨trivial, ?_⟩; gi_at_call 26; refine (callsIn_wide.2 (All_any _ _)).mono ?_; rintro e w3 ⟨f, rfl, ⟨bm, bp, rfl, hm, -⟩, hB3⟩))
  have hs2 := hB1.size
  rw [World.size_alloc] at hB3
  have hn3 : w3.cell? ⟨w2.heap.size, 0, none⟩ = some (.int .i64 0) := ((Bx.new w2 (.int .i64 0) 3).below hB3 (Nat.lt_succ_self _)).cell
  have hB3' : Below w.heap.size w w3 := (hB1.alloc hs2 _).trans (hB3.mono (by omega))
  have hmlt := hm.lt
  have hs3 := hB3.size
  rw [World.size_alloc] at hs3
  refine range_none (gf := 53) (lb := #[.pointer (some ⟨bm, 0, none⟩), .pointer (some ⟨bp, 0, none⟩)]) rfl (enters_of Try.func53 (by kernel_rfl) rfl) (fun l W1 hb => over1_nil l bm _ W1 (hm.below hb hmlt)) ?_
  intro w4 hB4 hD4
  have hn4 := (hB4.cell (p := ⟨w2.heap.size, 0, none⟩) (by show w2.heap.size < _; omega)).trans hn3
  have hB4' : Below w.heap.size w w4 := hB3'.trans (hB4.mono (by omega))
  have hs4 := hB4.size
  clear hn3 hm hB3 hB1
  gi_wp2_with (first
    | (refine ⟨trivial, ?_⟩; gi_at_call 27; refine (callsIn_wide.2 (Down_any _ _)).mono ?_; rintro e w5 ⟨f, rfl, ⟨bm5, bp5, rfl, hm5, -⟩, hB5⟩))
  have hn5 := (hB5.cell (p := ⟨w2.heap.size, 0, none⟩) (by show w2.heap.size < _; omega)).trans hn4
  have hB5' : Below w.heap.size w w5 := hB4'.trans (hB5.mono (by omega))
  have hD5 := (hB5.block w3.heap.size (Array.getElem?_eq_some_iff.1 hD4).1).trans hD4
  have hs5 := hB5.size
  have hmlt5 := hm5.lt
  refine range_none (gf := 53) (lb := #[.pointer (some ⟨bm5, 0, none⟩), .pointer (some ⟨bp5, 0, none⟩)]) rfl (enters_of Try.func53 (by kernel_rfl) rfl) (fun l W1 hb => over1_nil l bm5 _ W1 (hm5.below hb hmlt5)) ?_
  intro w6 hB6 hD6
  have hn6 := (hB6.cell (p := ⟨w2.heap.size, 0, none⟩) (by show w2.heap.size < _; omega)).trans hn5
  have hB6' : Below w.heap.size w w6 := hB5'.trans (hB6.mono (by omega))
  have hD6b := (hB6.block w3.heap.size (by have := (Array.getElem?_eq_some_iff.1 hD5).1; omega)).trans hD5
  have hs6 := hB6.size
  have l34 := (Array.getElem?_eq_some_iff.1 hD4).1
  clear hn4 hn5 hm5 hB5 hB4 hD5 hD4
  gi_wp2_with (first
    | (refine ⟨trivial, ?_⟩; gi_at_call 28; refine (callsIn_wide.2 (Under_any _ _ _)).mono ?_; rintro e w7 ⟨f, kb, rfl, ⟨bm7, bp7, rfl, hm7, -⟩, -, -, hB7⟩))
  have hn7 := (hB7.cell (p := ⟨w2.heap.size, 0, none⟩) (by show w2.heap.size < _; omega)).trans hn6
  have hB7' : Below w.heap.size w w7 := hB6'.trans (hB7.mono (by omega))
  have hD7 := (hB7.block w5.heap.size (Array.getElem?_eq_some_iff.1 hD6).1).trans hD6
  have hD7b := (hB7.block w3.heap.size (Array.getElem?_eq_some_iff.1 hD6b).1).trans hD6b
  have hs7 := hB7.size
  have hmlt7 := hm7.lt
  refine range_none (gf := 53) (lb := #[.pointer (some ⟨bm7, 0, none⟩), .pointer (some ⟨bp7, 0, none⟩)]) rfl (enters_of Try.func53 (by kernel_rfl) rfl) (fun l W1 hb => over1_nil l bm7 _ W1 (hm7.below hb hmlt7)) ?_
  intro w8 hB8 hD8
  have hn8 := (hB8.cell (p := ⟨w2.heap.size, 0, none⟩) (by show w2.heap.size < _; omega)).trans hn7
  have hB8' : Below w.heap.size w w8 := hB7'.trans (hB8.mono (by omega))
  have hD8a := (hB8.block w5.heap.size (by have := (Array.getElem?_eq_some_iff.1 hD7).1; omega)).trans hD7
  have hD8b := (hB8.block w3.heap.size (by have := (Array.getElem?_eq_some_iff.1 hD7b).1; omega)).trans hD7b
  have hs8 := hB8.size
  have l3 := (Array.getElem?_eq_some_iff.1 hD6b).1
  have l5 := (Array.getElem?_eq_some_iff.1 hD7).1
  clear hn6 hn7 hm7 hB7 hB6 hD7 hD6 hD6b hD7b hB8
  gi_wp2_with (first
    | (refine ⟨trivial, ?_⟩; gi_at_call 17; refine (callsIn_wide.2 (Clone_nil _)).mono ?_; rintro e w9 ⟨rfl, hM9, hB9⟩; have hn9 := (hB9.cell (p := ⟨w2.heap.size, 0, none⟩) (by show w2.heap.size < _; omega)).trans hn8)
    | (refine ⟨trivial, ?_⟩; gi_at_call 12; first | (refine (callsIn_wide.2 (Len_nil _)).mono ?_; rintro e w10 ⟨rfl, rfl⟩) | (refine (callsIn_wide.2 (Len_any hM9)).mono ?_; rintro e w10 ⟨rfl, rfl⟩)))
  have hD9 := (hB9.block w7.heap.size (Array.getElem?_eq_some_iff.1 hD8).1).trans hD8
  have hD9a := (hB9.block w5.heap.size (Array.getElem?_eq_some_iff.1 hD8a).1).trans hD8a
  have hD9b := (hB9.block w3.heap.size (Array.getElem?_eq_some_iff.1 hD8b).1).trans hD8b
  have hD10a := (World.putObj_heap_other (o := .deferred none) (show w5.heap.size ≠ w7.heap.size by omega)).trans hD9a
  have hD10b := (World.putObj_heap_other (o := .deferred none) (show w3.heap.size ≠ w5.heap.size by omega)).trans ((World.putObj_heap_other (o := .deferred none) (show w3.heap.size ≠ w7.heap.size by omega)).trans hD9b)
  have hB10 : Below w.heap.size w w10 := hB8'.trans (hB9.mono (by omega))
  refine ⟨by simp, .inl ⟨_, _, rfl, takes hD9, ?_⟩⟩
  refine ⟨by simp, .inl ⟨_, _, rfl, takes hD10a, ?_⟩⟩
  refine ⟨by simp, .inl ⟨_, _, rfl, takes hD10b, ?_⟩⟩
  exact ⟨_, results_tmp rfl _ _ _, rfl, below_take (below_take (below_take hB10 (Nat.le_refl _) (by omega) _) (Nat.le_refl _) (by omega) _) (Nat.le_refl _) (by omega) _⟩

theorem own : ownKnob Try.prog.godebug = none := by kernel_rfl

set_option maxRecDepth 100000 in
theorem lifted (os : Os) (started : os.Started) (H : Type) (enc : TypeId × Value → H) :
    ReturnsInHanded {} Try.checked os 7 .any (Rows.sortedNilSpec.pre6 enc Try.prog Try.f7 Rows.sortedNilRow.domain false) (Rows.sortedNilSpec.post enc Try.prog Try.f7 false true false false) := by
  refine returnsInHanded_of_change (C := Try.checked) own started (by kernel_rfl) Try.func7
    (ChangeSpec.witness6 (enc := enc) (C := Try.checked) false ⟨#[], #[.string .empty], []⟩ 8 (by kernel_rfl) (by kernel_rfl) (by kernel_rfl) (by kernel_rfl)) ?_
  intro W base args ds gs before hval0 hW hcnd _
  have hval : ∀ (j : Nat) t v, Try.f7.params[j]? = some t → args[j]? = some v → Value.okWide Try.prog W .any base t v := hval0
  have hW' := hW
  obtain ⟨p, q, hA0, hV, rfl, hfz, hnd⟩ := hW
  have hA : DataW.TrodAll enc Try.prog W 0 (fun _ => true) true Try.f7.params.toList args.toList ds p := hA0
  rw [Try.params7] at hA hval
  obtain ⟨v0, vs0, d0, ds0, p0, q0, hargs, rfl, rfl, h0, r0⟩ := trodAll_cons hA
  obtain ⟨rfl, rfl, rfl⟩ := trodAll_nil r0
  obtain rfl : args = #[v0] := by cases args; simp_all
  obtain ⟨rfl, rfl⟩ := trodVars_none hV
  obtain ⟨a0, rfl, rfl, rfl, w0⟩ := open_string Try.underlying9 (hval 0 9 v0 rfl rfl) h0
  clear hA0 hval0
  refine (nil_walk a0 W).mono fun e W' ⟨he, bel⟩ => ?_
  subst he
  exact ⟨_, rfl, _, _, _, [], _, [], hW', trodAll_mk1 (shut_bool Try.underlying4 _), (trodAll_cons_mk (shut_string Try.underlying9 w0) trodAll_mk0), rfl, bel.frame _, fun h => by cases h⟩

theorem proved : Rows.SortedNilSaid :=
  OpenClaim.holds_of_wide 7 Try.f7 rfl rfl rfl rfl rfl rfl rfl ⟨rfl, rfl, rfl, rfl, rfl⟩ rfl rfl rfl rfl rfl (by kernel_rfl) Try.func7 (by kernel_rfl)
    (of_decide_eq_true (by kernel_rfl)) (by unfold Func.isWrapper; first | (rw [if_pos (by decide +kernel)]; kernel_rfl) | (rw [if_neg (by decide +kernel)]; exact ⟨rfl, rfl⟩))
    (fun os started H enc _ => lifted os started H enc)
end Go.Proofs.Ytkohcdefhaokiaa.sortedNil

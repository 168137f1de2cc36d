/-
  Proved: SortedPlays answers true, and changes nothing that was there before the call, for every input: whatever is put, asked, taken away and ranged over, in whatever order, all is answered as the document says.
-/
import Derived.Test.YtkohcdefhaokiaaSPlay
import Derived.Test.YtkohcdefhaokiaaSActs
import Derived.ProofKit
import Derived.OpenShut
import Derived.ShutString
import Derived.SizedLaws
import Derived.Deep.RegionHeld3
namespace Go.Proofs.Ytkohcdefhaokiaa.sortedPlays
open Go.ChangeShapes Go.WideShapes Go.ChangeAt Go.RowKit Go.Shelf Go.Lib Go.Sort
open Go.ChangeMaps (open_string shut_string)

set_option maxHeartbeats 4000000 in
set_option maxRecDepth 100000 in
theorem walk (va : Value) (q : List (Int × ByteArray × Int)) (hql : q.length ≤ 4398046510976) (hqs : ∀ (j : Nat) (t : Int × ByteArray × Int), q[j]? = some t → t.2.1.size < 4611686018427387904) (w : World) (hs : Acts w va q) :
    Calls Try.prog 3 #[va] w fun r w' => r = .returned (.bool true) ∧ Below w.heap.size w w' := by
  obtain ⟨a, cap, rfl, hs⟩ := hs
  have HS : Hid (∀ (j : Nat) (t : Int × ByteArray × Int), q[j]? = some t → t.2.1.size < 4611686018427387904) := hqs
  clear hqs
  go_enter Try.func3, Try.ntmps3
  go_wp2_with fail
  refine (shown_any _).mono ?_
  rintro r w1 ⟨rfl, b1⟩
  go_wp2_with fail
  refine (New_any _).mono ?_
  rintro r w2 ⟨rfl, hM2, b2⟩
  have hs1 := b1.size
  have P0 := Pl.start hM2 (b1.trans (b2.mono hs1)) hs1
  have hl12 : w1.heap.size < w2.heap.size := hM2.lt
  clear hM2 b1 b2
  go_wp2_with fail
  go_loopw [6] (fun vi wr => ∃ (i : Nat) (es : List Ent), vi = .int .i64 i ∧ i ≤ q.length ∧ es.length ≤ i ∧ Pl w w1.heap.size w2.heap.size es wr) (fun vi _ => q.length - (intOf vi).toNat)
  case atStart => exact ⟨0, [], rfl, Nat.zero_le _, Nat.le_refl _, P0⟩
  case round =>
    obtain ⟨i, es, rfl, hi, hel, P⟩ := hrel
    clear P0
    by_cases hl : i < q.length
    · have hli : (i : Int) < (q.length : Int) := by omega
      rcases hs with hs | ⟨b, off, rfl, hlt, hc⟩
      · rw [hs] at hl; simp at hl
      obtain ⟨⟨kind, k, v⟩, ht⟩ : ∃ t, q[i]? = some t := ⟨_, List.getElem?_eq_getElem hl⟩
      obtain ⟨c0, c1, c2⟩ := hc i _ ht
      have hkz := HS.out i _ ht
      have bel := P.b
      have m0 := (bel.cell (p := ⟨b, off + i * 3, none⟩) hlt).trans c0
      have m1 := (bel.cell (p := ⟨b, off + i * 3 + 1, none⟩) hlt).trans c1
      have m2 := (bel.cell (p := ⟨b, off + i * 3 + 2, none⟩) hlt).trans c2
      have PH : Hid (Pl w w1.heap.size w2.heap.size es wr) := P
      clear c0 c1 c2 hc ht P bel HS
      dsimp only at m0 m1 m2 hkz
      go_wp2_with fail
      refine (does_pl PH.out kind k v hkz (by omega)).mono ?_
      rintro r w4 ⟨rfl, P4⟩
      have hal := act_len kind k v es
      generalize act kind k v es = es4 at *
      have P4H : Hid (Pl w w1.heap.size w2.heap.size es4 w4) := P4
      obtain ⟨sv, q4, kv, vv, J4, -⟩ := P4
      obtain ⟨ka, kc, rfl, -⟩ := row_slice J4.r.kv.1
      have r0 := J4.r.cell0
      have JH : Hid _ := J4
      clear J4 PH m0 m1 m2
      go_wp2_with fail
      go_region_held3 (fun w' => w'.cell? ⟨w2.heap.size, 0, none⟩ = some (.slice ka es4.length kc)) (go_keep) (first
        | (go_at_call 12; refine (Len_any (mp_drew JH.out.m)).mono ?_; rintro r w9 ⟨rfl, rfl⟩))
      all_goals
        go_wp2
        exact ⟨⟨i + 1, es4, by go_num, by omega, by omega, pl_drew P4H.out⟩, by simp [intOf]; omega⟩
    · have hli : ¬ (i : Int) < (q.length : Int) := by omega
      have PH : Hid (Pl w w1.heap.size w2.heap.size es wr) := P
      clear P hs HS
      go_wp2_with fail
      refine (ranged_pl PH.out 4 _ (-1) (by omega)).mono ?_
      rintro r w4 ⟨kv1, vv1, rfl, hK, P4, -, -⟩
      rw [pick_all, most_all] at hK
      have P4H : Hid (Pl w w1.heap.size w2.heap.size es w4) := P4
      obtain ⟨sv, q4, kv, vv, J4, -⟩ := P4
      have r0 := J4.r.cell0
      have r1 := J4.r.cell1
      have JH : Hid _ := J4
      have KH : Hid _ := hK
      clear J4 PH hK
      go_wp2_with fail
      have hrl := JH.out.r.lt
      go_region_held3 (fun w' => w'.cell? ⟨w2.heap.size, 0, none⟩ = some kv ∧ w'.cell? ⟨w2.heap.size, 1, none⟩ = some vv) (go_keep) (first
        | (go_at_call 14; refine (alike_any (kv_drew KH.out) (kv_drew JH.out.r.kv) (most_all es).symm (by omega)).mono ?_; rintro r w9 ⟨rfl, hB9⟩; have r8 := (hB9.cell (p := ⟨w2.heap.size, 0, none⟩) hrl).trans r0; have r9 := (hB9.cell (p := ⟨w2.heap.size, 1, none⟩) hrl).trans r1))
      all_goals
        go_wp2
        go_ret
        exact ⟨rfl, ((pl_drew P4H.out).below hB9).b⟩
set_option maxRecDepth 100000 in
theorem lifted (os : Os) (started : os.Started) (H : Type) (enc : TypeId × Value → H) :
    ReturnsInHanded {} Try.checked os 3 .any (Rows.sortedPlaysSpec.pre6 enc Try.prog Try.f3 Rows.sortedPlaysRow.domain false) (Rows.sortedPlaysSpec.post enc Try.prog Try.f3 false true false false) := by
  refine returnsInHanded_of_change_sized (C := Try.checked) own started (by kernel_rfl) Try.func3
    (ChangeSpec.witness6 (enc := enc) (C := Try.checked) false ⟨#[], #[.slice none 0 0], []⟩ 8 (by kernel_rfl) (by kernel_rfl) (by kernel_rfl) (by kernel_rfl)) ?_
  intro W base args ds gs before hval0 hW hcnd hsz0 _
  have hval : ∀ (j : Nat) t v, Try.f3.params[j]? = some t → args[j]? = some v → Value.okWide Try.prog W .any base t v := hval0
  have hsz : (DataW.weightsEach Try.prog (Try.f3.params.toList ++ Rows.sortedPlaysSpec.plain.varTypes Try.prog) (ds ++ gs)).all (· ≤ reachBytes) = true := hsz0
  have hW' := hW
  obtain ⟨p, q, hA0, hV, rfl, hfz, hnd⟩ := hW
  have hA : DataW.TrodAll enc Try.prog W 0 (fun _ => true) true Try.f3.params.toList args.toList ds p := hA0
  rw [Try.params3] at hA hval hsz
  obtain ⟨v0, vs0, d0, ds0, p0, q0, hargs, rfl, rfl, h0, r0⟩ := trodAll_cons hA
  obtain ⟨rfl, rfl, rfl⟩ := trodAll_nil r0
  obtain rfl : args = #[v0] := by cases args; simp_all
  obtain ⟨rfl, rfl⟩ := trodVars_none hV
  have k0 := h0
  have lt0 : ∀ x ∈ p0, x.block < W.heap.size := by obtain ⟨m, hm⟩ := k0; exact DataW.trod_lt m _ _ _ hm
  obtain ⟨qs, hqs, hq⟩ := openActs (hval 0 22 v0 rfl rfl) h0
  obtain ⟨hql, hqk⟩ := hq (by
    have h := hsz
    simp only [List.cons_append, DataW.weightsEach, List.all_append, Bool.and_eq_true] at h
    exact h.1)
  clear hA0 hval0
  refine (walk v0 qs hql hqk W hqs).mono fun e W' ⟨he, bel⟩ => ?_
  subst he
  exact ⟨_, rfl, _, _, _, [], _, [], hW', trodAll_mk1 (shut_bool Try.underlying4 _), (trodAll_cons_mk (Below.trod laidOut (by kernel_rfl) (of_decide_eq_true (by kernel_rfl)) k0 bel lt0) trodAll_mk0), rfl, bel.frame _, fun h => by cases h⟩

theorem proved : Rows.SortedPlaysSaid :=
  OpenClaim.holds_of_wide 3 Try.f3 rfl rfl rfl rfl rfl rfl rfl ⟨rfl, rfl, rfl, rfl, rfl⟩ rfl rfl rfl rfl rfl (by kernel_rfl) Try.func3 (by kernel_rfl)
    (of_decide_eq_true (by kernel_rfl)) (by unfold Func.isWrapper; first | (rw [if_pos (by decide +kernel)]; kernel_rfl) | (rw [if_neg (by decide +kernel)]; exact ⟨rfl, rfl⟩))
    (fun os started H enc _ => lifted os started H enc)
end Go.Proofs.Ytkohcdefhaokiaa.sortedPlays

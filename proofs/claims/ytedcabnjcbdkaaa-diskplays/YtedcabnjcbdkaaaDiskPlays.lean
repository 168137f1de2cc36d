/-
  Proved: for every slice of acts DiskPlays answers true, and changes nothing that was there before the call: whatever is appended, synced, cut, deleted, lost and kept, in whatever order, and cloned, all is answered as the document says. No condition.
-/
import Derived.Test.YtedcabnjcbdkaaaD6Pair
import Derived.SizedLaws
namespace Go.Proofs.Ytedcabnjcbdkaaa.diskPlays
open Go.ChangeShapes Go.WideShapes Go.ChangeAt Go.RowKit

/-- what stands in the loop -/
def JP (w : World) (d r : Nat) (wr : World) : Prop := (∃ st, Pb wr w.heap.size d r st) ∧ Below w.heap.size w wr

set_option maxRecDepth 100000 in
set_option maxHeartbeats 16000000 in
theorem walk (va : Value) (q : List Ac) (hql : q.length ≤ 4398046510976) (w : World) (hs : Acs w va q) :
    Calls Try.prog 3 #[va] w fun r w' => r = .returned (.bool true) ∧ Below w.heap.size w w' := by
  obtain ⟨a, cap, rfl, hs⟩ := hs
  have hS := shown_any w
  go_enter Try.func3, Try.ntmps3
  go_wp2_with (first
    | (go_at_call 9; refine hS.mono ?_; rintro e w1 ⟨rfl, B1⟩; have HB : Hid (Below w.heap.size w w1 ∧ True) := ⟨B1, trivial⟩; have hN := sNew w.heap.size w1 B1.size; clear B1 hS)
    | (go_at_call 10; refine hN.mono ?_; rintro e w2 ⟨rfl, S2, B2⟩; have HB2 : Hid (St w2 w.heap.size w1.heap.size ([], -1, false) ∧ Below w.heap.size w w2) := ⟨S2, HB.out.1.trans (B2.mono HB.out.1.size)⟩; have hD := dNew w.heap.size w2 HB2.out.2.size; clear S2 B2 hN HB)
    | (go_at_call 11; refine hD.mono ?_; rintro e w3 ⟨rfl, D3, B3⟩; have HJ : Hid (JP w w1.heap.size w2.heap.size w3) := ⟨⟨_, Pb.make (HB2.out.1.below B3) D3 HB2.out.2.size⟩, HB2.out.2.trans (B3.mono HB2.out.2.size)⟩; clear D3 B3 hD HB2))
  go_loopw [4, 5, 6] (fun v4 v5 v6 wr => ∃ (i d r : Nat), v4 = .pointer (some ⟨d, 0, none⟩) ∧ v5 = .pointer (some ⟨r, 0, none⟩) ∧ v6 = .int .i64 i ∧ i ≤ q.length ∧ JP w d r wr) (fun _ _ v6 _ => q.length - (intOf v6).toNat)
  case atStart => exact ⟨0, _, _, rfl, rfl, rfl, Nat.zero_le _, HJ.out⟩
  case round =>
    obtain ⟨i, d, r, rfl, rfl, rfl, hi, hJ⟩ := hrel
    by_cases hl : i < q.length
    · have hli : (i : Int) < (q.length : Int) := by omega
      have hi0 : (0 : Int) ≤ (i : Int) := Int.natCast_nonneg _
      rcases hs with hs | ⟨b, off, rfl, hlt, hc⟩
      · rw [hs] at hl; simp at hl
      obtain ⟨⟨kind, n, nm, s, ka, ks, kc⟩, ht⟩ : ∃ t, q[i]? = some t := ⟨_, List.getElem?_eq_getElem hl⟩
      obtain ⟨hcs, hok⟩ := hc i _ ht
      obtain ⟨⟨st, P⟩, bel⟩ := hJ
      have hcell : ∀ W, Below w.heap.size w W → W.cell? ⟨b, off + i * 5, none⟩ = some (.int .i64 kind) ∧ W.cell? ⟨b, off + i * 5 + 1, none⟩ = some (.int .i64 n) ∧ W.cell? ⟨b, off + i * 5 + 2, none⟩ = some (.string nm) ∧ W.cell? ⟨b, off + i * 5 + 3, none⟩ = some (.string s) ∧ W.cell? ⟨b, off + i * 5 + 4, none⟩ = some (.slice ka ks.length kc) := fun W h =>
        ⟨(h.cell (p := ⟨b, off + i * 5, none⟩) hlt).trans (hcs 0 _ rfl), (h.cell (p := ⟨b, off + i * 5 + 1, none⟩) hlt).trans (hcs 1 _ rfl), (h.cell (p := ⟨b, off + i * 5 + 2, none⟩) hlt).trans (hcs 2 _ rfl), (h.cell (p := ⟨b, off + i * 5 + 3, none⟩) hlt).trans (hcs 3 _ rfl), (h.cell (p := ⟨b, off + i * 5 + 4, none⟩) hlt).trans (hcs 4 _ rfl)⟩
      have HC : Hid (∀ W, Below w.heap.size w W → W.cell? ⟨b, off + i * 5, none⟩ = some (.int .i64 kind) ∧ W.cell? ⟨b, off + i * 5 + 1, none⟩ = some (.int .i64 n) ∧ W.cell? ⟨b, off + i * 5 + 2, none⟩ = some (.string nm) ∧ W.cell? ⟨b, off + i * 5 + 3, none⟩ = some (.string s) ∧ W.cell? ⟨b, off + i * 5 + 4, none⟩ = some (.slice ka ks.length kc)) := hcell
      obtain ⟨m0, m1, m2, m3, m4⟩ := hcell wr bel
      have HP : Hid (Pb wr w.heap.size d r st ∧ Below w.heap.size w wr ∧ AcOk w w.heap.size ⟨kind, n, nm, s, ka, ks, kc⟩) := ⟨P, bel, hok⟩
      clear P bel hok hcs hc ht HJ hcell
      by_cases h8 : kind = 8
      · subst h8
        have cC := sClone HP.out.1.sd
        clear m1 m2 m3 m4
        go_wp2_with (first
          | (go_at_call 12; refine cC.mono ?_; rintro e wa ⟨rfl, Sa, Ba⟩; obtain ⟨sva, Ka⟩ := HP.out.1.dk; have cK := dClone (Ka.below Ba) HP.out.1.sd.wf.few; have HA : Hid (St wa w.heap.size wr.heap.size st ∧ Below w.heap.size w wa) := ⟨Sa.weak HP.out.1.base, HP.out.2.1.trans (Ba.mono HP.out.1.base)⟩; clear cC Sa Ba Ka)
          | (go_at_call 13; refine cK.mono ?_; rintro e wb ⟨svb, rfl, Kb, Bb⟩; have HQ : Hid (Pb wb w.heap.size wr.heap.size wa.heap.size st ∧ Below w.heap.size w wb) := ⟨Pb.make (HA.out.1.below Bb) (Kb.weak HA.out.2.size) HA.out.2.size, HA.out.2.trans (Bb.mono HA.out.2.size)⟩; (obtain ⟨m0', m1, m2, m3, m4⟩ := HC.out wb HQ.out.2); have cD := does_any (a := ⟨8, n, nm, s, ka, ks, kc⟩) HQ.out.1 (HP.out.2.2.below HQ.out.2); clear cK Kb Bb HA)
          | (go_at_call 14; refine cD.mono ?_; rintro e w4 ⟨rfl, L4⟩; obtain ⟨st4, P4, B4⟩ := L4.pb HQ.out.1.base; have H4 : Hid (Pb w4 w.heap.size wr.heap.size wa.heap.size st4 ∧ Below w.heap.size w w4) := ⟨P4, HQ.out.2.trans B4⟩; have hN1 := names1 P4; clear cD L4 P4 B4)
          | (go_at_call 16; refine hN1.mono ?_; rintro e w5 ⟨nv, rfl, hr5, B5⟩; have P5 := H4.out.1.below B5; have hN2 := names2 P5; have H5 : Hid (Pb w5 w.heap.size wr.heap.size wa.heap.size st4 ∧ Below w.heap.size w w5 ∧ w5.ownsRow w4.heap.size 9 1 nv st4.1.length (nms st4.1)) := ⟨P5, H4.out.2.trans (B5.mono H4.out.1.base), hr5⟩; clear hN1 P5 B5 hr5)
          | (go_at_call 17; refine hN2.mono ?_; rintro e w6 ⟨nv2, rfl, hr6, B6⟩; have P6 := H5.out.1.below B6; have hSm := Same_names (row_below H5.out.2.2 B6) hr6 P6.sd.wf.few; have H6 : Hid (Pb w6 w.heap.size wr.heap.size wa.heap.size st4 ∧ Below w.heap.size w w6) := ⟨P6, H5.out.2.1.trans (B6.mono H5.out.1.base)⟩; clear hN2 P6 B6 hr6)
          | (go_at_call 15; refine hSm.mono ?_; rintro e w7 ⟨rfl, B7⟩; have P7 := H6.out.1.below B7; have H7 : Hid (Pb w7 w.heap.size wr.heap.size wa.heap.size st4 ∧ Below w.heap.size w w7) := ⟨P7, H6.out.2.trans (B7.mono H6.out.1.base)⟩; clear hSm P7 B7))
        have hoff := off_drawn H7.out.1
        obtain ⟨sv7, K7⟩ := H7.out.1.dk
        have k2 := K7.c2
        clear K7
        generalize st4.2.2 = o4 at hoff k2
        have hne : (o4 != o4) = false := by simp
        go_quiet ((go_at_call 18; refine Calls.quiet_of_same (hoff _)))
        go_wp2
        exact ⟨⟨i + 1, _, _, rfl, rfl, by go_num, by omega, ⟨st4, H7.out.1.ch (Y := fun _ => False) ((Ch.refl _ w7).drewN nq) (fun _ _ => id)⟩, Below.drewN H7.out.2 nq⟩, by simp [intOf]; omega⟩
      · have h8' : (kind == 8) = false := by simpa using h8
        have cD := does_any (a := ⟨kind, n, nm, s, ka, ks, kc⟩) HP.out.1 (HP.out.2.2.below HP.out.2.1)
        go_wp2_with (first
          | (go_at_call 14; refine cD.mono ?_; rintro e w4 ⟨rfl, L4⟩; obtain ⟨st4, P4, B4⟩ := L4.pb HP.out.1.base; have H4 : Hid (Pb w4 w.heap.size d r st4 ∧ Below w.heap.size w w4) := ⟨P4, HP.out.2.1.trans B4⟩; have hN1 := names1 P4; clear cD L4 P4 B4)
          | (go_at_call 16; refine hN1.mono ?_; rintro e w5 ⟨nv, rfl, hr5, B5⟩; have P5 := H4.out.1.below B5; have hN2 := names2 P5; have H5 : Hid (Pb w5 w.heap.size d r st4 ∧ Below w.heap.size w w5 ∧ w5.ownsRow w4.heap.size 9 1 nv st4.1.length (nms st4.1)) := ⟨P5, H4.out.2.trans (B5.mono H4.out.1.base), hr5⟩; clear hN1 P5 B5 hr5)
          | (go_at_call 17; refine hN2.mono ?_; rintro e w6 ⟨nv2, rfl, hr6, B6⟩; have P6 := H5.out.1.below B6; have hSm := Same_names (row_below H5.out.2.2 B6) hr6 P6.sd.wf.few; have H6 : Hid (Pb w6 w.heap.size d r st4 ∧ Below w.heap.size w w6) := ⟨P6, H5.out.2.1.trans (B6.mono H5.out.1.base)⟩; clear hN2 P6 B6 hr6)
          | (go_at_call 15; refine hSm.mono ?_; rintro e w7 ⟨rfl, B7⟩; have P7 := H6.out.1.below B7; have H7 : Hid (Pb w7 w.heap.size d r st4 ∧ Below w.heap.size w w7) := ⟨P7, H6.out.2.trans (B7.mono H6.out.1.base)⟩; clear hSm P7 B7))
        have hoff := off_drawn H7.out.1
        obtain ⟨sv7, K7⟩ := H7.out.1.dk
        have k2 := K7.c2
        clear K7
        generalize st4.2.2 = o4 at hoff k2
        have hne : (o4 != o4) = false := by simp
        go_quiet ((go_at_call 18; refine Calls.quiet_of_same (hoff _)))
        go_wp2
        exact ⟨⟨i + 1, _, _, rfl, rfl, by go_num, by omega, ⟨st4, H7.out.1.ch (Y := fun _ => False) ((Ch.refl _ w7).drewN nq) (fun _ _ => id)⟩, Below.drewN H7.out.2 nq⟩, by simp [intOf]; omega⟩
    · have hli : ¬ (i : Int) < (q.length : Int) := by omega
      have HB : Hid (Below w.heap.size w wr ∧ True) := ⟨hJ.2, trivial⟩
      clear hJ HJ hs
      go_wp2
      go_ret
      exact ⟨rfl, HB.out.1⟩
set_option maxRecDepth 100000 in
theorem lifted (os : Os) (started : os.Started) (H : Type) (enc : TypeId × Value → H) :
    ReturnsInHanded {} Try.checked os 3 .any (Rows.diskPlaysSpec.pre6 enc Try.prog Try.f3 Rows.diskPlaysRow.domain false) (Rows.diskPlaysSpec.post enc Try.prog Try.f3 false true false false) := by
  refine returnsInHanded_of_change_sized (C := Try.checked) own started (by kernel_rfl) Try.func3
    (ChangeSpec.witness6 (enc := enc) (C := Try.checked) false ⟨#[], #[.slice none 0 0], []⟩ 8 (by kernel_rfl) (by kernel_rfl) (by kernel_rfl) (by kernel_rfl)) ?_
  intro W base args ds gs before hval0 hW hcnd hsz0 _
  have hval : ∀ (j : Nat) t v, Try.f3.params[j]? = some t → args[j]? = some v → Value.okWide Try.prog W .any base t v := hval0
  have hsz : (DataW.weightsEach Try.prog (Try.f3.params.toList ++ Rows.diskPlaysSpec.plain.varTypes Try.prog) (ds ++ gs)).all (· ≤ reachBytes) = true := hsz0
  have hW' := hW
  obtain ⟨p, q, hA0, hV, rfl, hfz, hnd⟩ := hW
  have hA : DataW.TrodAll enc Try.prog W 0 (fun _ => true) true Try.f3.params.toList args.toList ds p := hA0
  rw [Try.params3] at hA hval hsz
  obtain ⟨v0, vs0, d0, ds0, p0, q0, hargs, rfl, rfl, h0, r0⟩ := trodAll_cons hA
  obtain ⟨rfl, rfl, rfl⟩ := trodAll_nil r0
  obtain rfl : args = #[v0] := by cases args; simp_all
  obtain ⟨rfl, rfl⟩ := trodVars_none hV
  have k0 := h0
  have lt0 : ∀ x ∈ p0, x.block < W.heap.size := by obtain ⟨m, hm⟩ := k0; exact DataW.trod_lt m _ _ _ hm
  obtain ⟨qs, hqs, hql⟩ := openActs (hval 0 22 v0 rfl rfl) h0 (by
    have h := hsz
    simp only [List.cons_append, DataW.weightsEach, List.all_append, Bool.and_eq_true] at h
    exact h.1)
  clear hA0 hval0
  refine (walk v0 qs hql W hqs).mono fun e W' ⟨he, bel⟩ => ?_
  subst he
  exact ⟨_, rfl, _, _, _, [], _, [], hW', trodAll_mk1 (shut_bool Try.underlying4 _), (trodAll_cons_mk (Below.trod laidOut (by kernel_rfl) (of_decide_eq_true (by kernel_rfl)) k0 bel lt0) trodAll_mk0), rfl, bel.frame _, fun h => by cases h⟩

theorem proved : Rows.DiskPlaysSaid :=
  OpenClaim.holds_of_wide 3 Try.f3 rfl rfl rfl rfl rfl rfl rfl ⟨rfl, rfl, rfl, rfl, rfl⟩ rfl rfl rfl rfl rfl (by kernel_rfl) Try.func3 (by kernel_rfl)
    (of_decide_eq_true (by kernel_rfl)) (by unfold Func.isWrapper; first | (rw [if_pos (by decide +kernel)]; kernel_rfl) | (rw [if_neg (by decide +kernel)]; exact ⟨rfl, rfl⟩))
    (fun os started H enc _ => lifted os started H enc)
end Go.Proofs.Ytedcabnjcbdkaaa.diskPlays

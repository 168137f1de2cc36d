/-
  Package seglog's ranges: over the records of a segment from a position on.
-/
import Derived.Test.YteifkkceldlfnaaGreatDoorG6Nil
import Derived.Stop.RegionWithIn
namespace Go.Proofs.YteifkkceldlfnaaGreatDoor
open Go.RowKit Go.Shelf Go.Sort
open Go.Lib hiding intOf
attribute [local go_sem] Oper.semAt_some
variable {w w' : World} {B : Nat} {pre : ByteArray} {v : Sv}

/-- what a segment tells from a position on -/
def segE (s : Sg) (pos : Nat) : List (Nat × List UInt8) := ent (max pos s.first) (s.recs.drop (pos - s.first))
theorem segE_length (s : Sg) (pos : Nat) : (segE s pos).length = s.recs.length - (pos - s.first) := by unfold segE; rw [ent_length]; simp
theorem segE_get {s : Sg} {pos k : Nat} (h : k < (segE s pos).length) : (segE s pos)[k] = (max pos s.first + k, s.recs[max pos s.first + k - s.first]'(by rw [segE_length] at h; omega)) := by
  have h1 : (segE s pos)[k]? = some (max pos s.first + k, s.recs[max pos s.first + k - s.first]'(by rw [segE_length] at h; omega)) := by
    unfold segE
    rw [ent_get, List.getElem?_drop, show pos - s.first + k = max pos s.first + k - s.first by omega, List.getElem?_eq_getElem (by rw [segE_length] at h; omega)]
    rfl
  rw [List.getElem?_eq_getElem h] at h1
  exact Option.some.inj h1
theorem Sw.kq {X : Nat → Prop} (h : Sw w B pre v) (hk : Kq X w w') (hX : ∀ x, v.at x → X x) : Sw w' B pre v := by
  refine ⟨hk.2 _ _ (hX _ (.inl rfl)) h.hd rfl, ⟨h.row.1, ?_⟩, h.low⟩
  rcases h.row.2 with hn | ⟨g, cap, cur, e, hb, hg, rest⟩
  · exact .inl hn
  · exact .inr ⟨g, cap, cur, e, hb, hk.2 _ _ (hX _ (.inr (by rw [e]; rfl))) hg rfl, rest⟩
theorem take_snocE {α : Type} {l : List α} {k : Nat} (h : k < l.length) : l.take k ++ [l[k]] = l.take (k + 1) := (List.take_succ_eq_append_getElem h).symm
theorem take_preE {α : Type} {l : List α} {k : Nat} (h : k < l.length) : l.take k ++ [l[k]] <+: l := by rw [take_snocE h]; exact List.take_prefix _ _
/-- a segment's range -/
def Xs (b1 b2 : Nat) (v : Sv) (k : Nat) : Prop := k = b1 ∨ k = b2 ∨ v.at k

set_option maxRecDepth 100000 in
set_option maxHeartbeats 4000000 in
theorem sfrom1_runs {W1 : World} {b1 b2 pos : Nat} (h1 : Bx W1 b1 (.int .u64 (pos : Int)) 36) (h2 : Bx W1 b2 (.pointer (some ⟨v.g, 0, none⟩)) 83) (hs : Sw W1 B pre v) (hn : v.sg.next ≤ 9223372036854775807) :
    Runs (fun x => #[encE1 x, encE2 x]) 95 #[.pointer (some ⟨b1, 0, none⟩), .pointer (some ⟨b2, 0, none⟩)] (segE v.sg pos) (Xs b1 b2 v) W1 := by
  intro y J Jx hC
  have hst := hC.start W1 (Below.refl _ _)
  have c1 := h1.cell
  have c2 := h2.cell
  have cf := hs.c1
  have HS : Hid (Sw W1 B pre v ∧ Bx W1 b1 (.int .u64 (pos : Int)) 36 ∧ Bx W1 b2 (.pointer (some ⟨v.g, 0, none⟩)) 83) := ⟨hs, h1, h2⟩
  clear hs h1 h2
  refine (callsIn_wide (n := 9)).1 ?_
  refine callsIn_of_wp Tryz.func95 rfl trivial ?_ rfl
  simp only [Tryz.ntmps95, List.size_toArray, List.length_cons, List.length_nil, Nat.reduceAdd, Nat.reduceSub, Array.replicate_succ, Array.replicate_zero, List.push_toArray, List.append_toArray, List.nil_append, List.cons_append]
  rcases id hC.yk with ⟨ly, rfl⟩ | ⟨gf, caps, rfl, eg⟩
  · have HC : Hid _ := hC
    clear hC
    gi_wp2
    gi_region
    all_goals gi_wp2
    have hst1 : J W1.heap.size [] W1.drew := HC.out.st _ _ _ _ hst (Sb.of_below ((Below.refl _ W1).drew))
    have hkq1 : Kq (Xs b1 b2 v) W1 W1.drew := Kq.of_below ((Below.refl _ W1).drew)
    clear hst c1 c2 cf
    gi_loopw [4] (fun a wr => ∃ k : Nat, k ≤ (segE v.sg pos).length ∧ a = .int .u64 ((max pos v.sg.first + k : Nat) : Int) ∧ J W1.heap.size ((segE v.sg pos).take k) wr ∧ Kq (Xs b1 b2 v) W1 wr) (fun a _ => (segE v.sg pos).length - ((intOf a).toNat - max pos v.sg.first))
    case atStart => exact ⟨0, Nat.zero_le _, by simp; omega, hst1, hkq1⟩
    case round =>
      obtain ⟨k, hk, rfl, hJ, hq⟩ := hrel
      have hlen := segE_length v.sg pos
      have hsw := HS.out.1.kq hq (fun x hx => .inr (.inr hx))
      have cN := next_any hsw hn
      have m2 := (kq_bx hq (.inr (.inl rfl)) HS.out.2.2).cell
      by_cases hlt : k < (segE v.sg pos).length
      · have hlt' : ((max pos v.sg.first + k : Nat) : Int) < (v.sg.next : Int) := by unfold Sg.next; omega
        have hge := segE_get hlt
        have hY := fun W hs => HC.out.go W1.heap.size ((segE v.sg pos).take k) (segE v.sg pos)[k] wr W hJ hs (take_preE hlt)
        rw [take_snocE hlt, hge] at hY
        obtain ⟨ra, rc, hra, -⟩ := row_slice hsw.row
        have cf := hsw.c1
        have c3 := hsw.c3
        rw [hra] at c3
        have hjl : max pos v.sg.first + k - v.sg.first < v.sg.recs.length := by omega
        obtain ⟨g, hg, cg⟩ : ∃ g, ra = some ⟨g, 0, none⟩ ∧ wr.cell? ⟨g, max pos v.sg.first + k - v.sg.first, none⟩ = some (.string (S v.sg.recs[max pos v.sg.first + k - v.sg.first])) := by
          have hrow := hsw.row
          rcases hrow.2 with ⟨_, h0⟩ | ⟨gr, cap, cur, e, _⟩
          · omega
          · rw [hra] at e hrow
            cases e
            exact ⟨gr, rfl, row_cell hrow (by simp [strCs, hjl])⟩
        subst hg
        clear hJ hge
        generalize hrr : v.sg.recs[max pos v.sg.first + k - v.sg.first] = r at *
        clear hrr
        obtain ⟨at', hat⟩ : ∃ a, max pos v.sg.first + k = a := ⟨_, rfl⟩
        have HA : Hid (max pos v.sg.first + k = at') := hat
        rw [hat] at cg hY hlt' hjl ⊢
        have hsub : IntKind.u64.wrap ((at' : Int) - (v.sg.first : Int)) = ((at' - v.sg.first : Nat) : Int) := by rw [IntKind.wrap_u64]; unfold Sg.next at hlt' hn; omega
        have hat1 : at' + 1 ≤ 9223372036854775807 := by unfold Sg.next at hlt' hn; omega
        obtain ⟨j, hj⟩ : ∃ j, at' - v.sg.first = j := ⟨_, rfl⟩
        rw [hj] at cg hjl hsub
        have hjl' : (j : Int) < (v.sg.recs.length : Int) := by omega
        have hj0 : (0 : Int) ≤ (j : Int) := by omega
        have HSW : Hid _ := hsw
        clear hat hj hsw
        generalize hfi : v.sg.first = fi at cf hsub
        generalize hln : v.sg.recs.length = ln at c3 hjl hjl'
        have HFI : Hid (v.sg.first = fi) := hfi
        clear hfi hln
        gi_wp2_with (first
          | (refine ⟨trivial, ?_⟩; gi_at_call 34; refine (callsIn_wide.2 cN).mono ?_; rintro e w3 ⟨rfl, q, rfl⟩))
        have hbD : Below wr.heap.size wr (wr.drewN (q + 1)) := below_drewN' (Below.refl _ wr) (q + 1)
        obtain ⟨fn, tmps, assign, body, hyl, hR⟩ := (hY _ (Sb.of_below hbD)).yield
        have HR : Hid _ := hR
        clear hR hY
        gi_region_with (refine (HR.out _).mono ?_; rintro e W3 ⟨k1, k2, hj⟩; obtain ⟨bb, hbb, hj2⟩ : ∃ bb, e = .returned (.bool bb) ∧ (bb = true ∧ J W1.heap.size (List.take (k + 1) (segE v.sg pos)) W3 ∨ bb = false ∧ Jx W1.heap.size (List.take (k + 1) (segE v.sg pos)) W3) := (hj.elim (fun h => ⟨true, h.1, .inl ⟨rfl, h.2⟩⟩) (fun h => ⟨false, h.1, .inr ⟨rfl, h.2⟩⟩)); subst hbb; have HJ : Hid _ := hj2; have HK : Hid _ := hq.trans ((Kq.of_below hbD).trans (k2.sub (fun k hk => .inl hk))); clear hj hj2 k1 k2)
        all_goals
          cases bb
          · obtain ⟨h, -⟩ | ⟨-, hJx⟩ := HJ.out
            · cases h
            have HX : Hid _ := hJx
            clear hJx HJ
            gi_wp2
            refine bodyPost_ret (results_none rfl _ _ _) rfl ?_
            exact ⟨⟨_, rfl⟩, .inr ⟨_, _, HX.out⟩⟩
          · obtain ⟨-, hJ3⟩ | ⟨h, -⟩ := HJ.out
            rotate_left
            · cases h
            have HX : Hid _ := hJ3
            clear hJ3 HJ
            gi_wp2
            go_roundw
            case rel => exact ⟨k + 1, by omega, by have e1 := HA.out; rw [HFI.out] at e1; rw [show max pos fi + (k + 1) = at' + 1 by omega]; simp, HX.out, HK.out⟩
            case measure => have e1 := HA.out; rw [HFI.out] at e1; simp only [intOf]; omega
      · have hlt' : ¬ ((max pos v.sg.first + k : Nat) : Int) < (v.sg.next : Int) := by unfold Sg.next; omega
        rw [List.take_of_length_le (by omega)] at hJ
        have HJ : Hid _ := fun q => HC.out.st _ _ _ _ hJ (Sb.of_below (below_drewN' (Below.refl _ wr) q))
        clear hJ hsw
        generalize max pos v.sg.first + k = at' at *
        gi_wp2_with (first
          | (refine ⟨trivial, ?_⟩; gi_at_call 34; refine (callsIn_wide.2 cN).mono ?_; rintro e w3 ⟨rfl, q, rfl⟩))
        go_end0
        exact ⟨⟨_, rfl⟩, .inl ⟨_, HJ.out _⟩⟩
  · have HC : Hid _ := hC
    clear hC
    unfold Ent0 at eg
    gi_wp2
    gi_region
    all_goals gi_wp2
    have hst1 : J W1.heap.size [] W1.drew := HC.out.st _ _ _ _ hst (Sb.of_below ((Below.refl _ W1).drew))
    have hkq1 : Kq (Xs b1 b2 v) W1 W1.drew := Kq.of_below ((Below.refl _ W1).drew)
    clear hst c1 c2 cf
    gi_loopw [4] (fun a wr => ∃ k : Nat, k ≤ (segE v.sg pos).length ∧ a = .int .u64 ((max pos v.sg.first + k : Nat) : Int) ∧ J W1.heap.size ((segE v.sg pos).take k) wr ∧ Kq (Xs b1 b2 v) W1 wr) (fun a _ => (segE v.sg pos).length - ((intOf a).toNat - max pos v.sg.first))
    case atStart => exact ⟨0, Nat.zero_le _, by simp; omega, hst1, hkq1⟩
    case round =>
      obtain ⟨k, hk, rfl, hJ, hq⟩ := hrel
      have hlen := segE_length v.sg pos
      have hsw := HS.out.1.kq hq (fun x hx => .inr (.inr hx))
      have cN := next_any hsw hn
      have m2 := (kq_bx hq (.inr (.inl rfl)) HS.out.2.2).cell
      by_cases hlt : k < (segE v.sg pos).length
      · have hlt' : ((max pos v.sg.first + k : Nat) : Int) < (v.sg.next : Int) := by unfold Sg.next; omega
        have hge := segE_get hlt
        have hY := fun W hs => HC.out.go W1.heap.size ((segE v.sg pos).take k) (segE v.sg pos)[k] wr W hJ hs (take_preE hlt)
        rw [take_snocE hlt, hge] at hY
        obtain ⟨ra, rc, hra, -⟩ := row_slice hsw.row
        have cf := hsw.c1
        have c3 := hsw.c3
        rw [hra] at c3
        have hjl : max pos v.sg.first + k - v.sg.first < v.sg.recs.length := by omega
        obtain ⟨g, hg, cg⟩ : ∃ g, ra = some ⟨g, 0, none⟩ ∧ wr.cell? ⟨g, max pos v.sg.first + k - v.sg.first, none⟩ = some (.string (S v.sg.recs[max pos v.sg.first + k - v.sg.first])) := by
          have hrow := hsw.row
          rcases hrow.2 with ⟨_, h0⟩ | ⟨gr, cap, cur, e, _⟩
          · omega
          · rw [hra] at e hrow
            cases e
            exact ⟨gr, rfl, row_cell hrow (by simp [strCs, hjl])⟩
        subst hg
        clear hJ hge
        generalize hrr : v.sg.recs[max pos v.sg.first + k - v.sg.first] = r at *
        clear hrr
        obtain ⟨at', hat⟩ : ∃ a, max pos v.sg.first + k = a := ⟨_, rfl⟩
        have HA : Hid (max pos v.sg.first + k = at') := hat
        rw [hat] at cg hY hlt' hjl ⊢
        have hsub : IntKind.u64.wrap ((at' : Int) - (v.sg.first : Int)) = ((at' - v.sg.first : Nat) : Int) := by rw [IntKind.wrap_u64]; unfold Sg.next at hlt' hn; omega
        have hat1 : at' + 1 ≤ 9223372036854775807 := by unfold Sg.next at hlt' hn; omega
        obtain ⟨j, hj⟩ : ∃ j, at' - v.sg.first = j := ⟨_, rfl⟩
        rw [hj] at cg hjl hsub
        have hjl' : (j : Int) < (v.sg.recs.length : Int) := by omega
        have hj0 : (0 : Int) ≤ (j : Int) := by omega
        have HSW : Hid _ := hsw
        clear hat hj hsw
        generalize hfi : v.sg.first = fi at cf hsub
        generalize hln : v.sg.recs.length = ln at c3 hjl hjl'
        have HFI : Hid (v.sg.first = fi) := hfi
        clear hfi hln
        gi_wp2_with (first
          | (refine ⟨trivial, ?_⟩; gi_at_call 34; refine (callsIn_wide.2 cN).mono ?_; rintro e w3 ⟨rfl, q, rfl⟩))
        have hbD : Below wr.heap.size wr (wr.drewN (q + 1)) := below_drewN' (Below.refl _ wr) (q + 1)
        have HR : Hid _ := (hY _ (Sb.of_below hbD)).func
        clear hY
        gi_region_with (refine ⟨trivial, ?_⟩; refine (callsIn_wide.2 HR.out).mono ?_; rintro e W3 ⟨k1, k2, hj⟩; obtain ⟨bb, hbb, hj2⟩ : ∃ bb, e = .returned (.bool bb) ∧ (bb = true ∧ J W1.heap.size (List.take (k + 1) (segE v.sg pos)) W3 ∨ bb = false ∧ Jx W1.heap.size (List.take (k + 1) (segE v.sg pos)) W3) := (hj.elim (fun h => ⟨true, h.1, .inl ⟨rfl, h.2⟩⟩) (fun h => ⟨false, h.1, .inr ⟨rfl, h.2⟩⟩)); subst hbb; have HJ : Hid _ := hj2; have HK : Hid _ := hq.trans ((Kq.of_below hbD).trans (k2.sub (fun k hk => .inl hk))); clear hj hj2 k1 k2)
        all_goals
          cases bb
          · obtain ⟨h, -⟩ | ⟨-, hJx⟩ := HJ.out
            · cases h
            have HX : Hid _ := hJx
            clear hJx HJ
            gi_wp2
            refine bodyPost_ret (results_none rfl _ _ _) rfl ?_
            exact ⟨⟨_, rfl⟩, .inr ⟨_, _, HX.out⟩⟩
          · obtain ⟨-, hJ3⟩ | ⟨h, -⟩ := HJ.out
            rotate_left
            · cases h
            have HX : Hid _ := hJ3
            clear hJ3 HJ
            gi_wp2
            go_roundw
            case rel => exact ⟨k + 1, by omega, by have e1 := HA.out; rw [HFI.out] at e1; rw [show max pos fi + (k + 1) = at' + 1 by omega]; simp, HX.out, HK.out⟩
            case measure => have e1 := HA.out; rw [HFI.out] at e1; simp only [intOf]; omega
      · have hlt' : ¬ ((max pos v.sg.first + k : Nat) : Int) < (v.sg.next : Int) := by unfold Sg.next; omega
        rw [List.take_of_length_le (by omega)] at hJ
        have HJ : Hid _ := fun q => HC.out.st _ _ _ _ hJ (Sb.of_below (below_drewN' (Below.refl _ wr) q))
        clear hJ hsw
        generalize max pos v.sg.first + k = at' at *
        gi_wp2_with (first
          | (refine ⟨trivial, ?_⟩; gi_at_call 34; refine (callsIn_wide.2 cN).mono ?_; rintro e w3 ⟨rfl, q, rfl⟩))
        go_end0
        exact ⟨⟨_, rfl⟩, .inl ⟨_, HJ.out _⟩⟩
theorem sfrom_mk {g : Nat} {pos : Nat} (w : World) : Calls Tryz.prog 65 #[.pointer (some ⟨g, 0, none⟩), .int .u64 (pos : Int)] w fun e w' => e = .returned (.func (.func 95) #[] #[.pointer (some ⟨w.heap.size + 1, 0, none⟩), .pointer (some ⟨w.heap.size, 0, none⟩)]) ∧
    Bx w' w.heap.size (.pointer (some ⟨g, 0, none⟩)) 83 ∧ Bx w' (w.heap.size + 1) (.int .u64 (pos : Int)) 36 ∧ Below w.heap.size w w' ∧ w'.heap.size = w.heap.size + 2 := by
  have hmf := mk_func
  obtain ⟨W0, hW0⟩ : ∃ W0, W0 = (w.alloc (.cells #[.pointer (some ⟨g, 0, none⟩)] 83)).alloc (.cells #[.int .u64 (pos : Int)] 36) := ⟨_, rfl⟩
  have HK : Hid (Bx W0 w.heap.size (.pointer (some ⟨g, 0, none⟩)) 83 ∧ Bx W0 (w.heap.size + 1) (.int .u64 (pos : Int)) 36 ∧ Below w.heap.size w W0 ∧ W0.heap.size = w.heap.size + 2) := by
    rw [hW0]
    refine ⟨(Bx.new w _ _).alloc _, ?_, ((Below.refl _ w).alloc (Nat.le_refl _) _).alloc (by simp) _, by simp⟩
    have := Bx.new (w.alloc (.cells #[.pointer (some ⟨g, 0, none⟩)] 83)) (.int .u64 (pos : Int)) 36
    rwa [World.size_alloc] at this
  have HW : Hid (W0 = (w.alloc (.cells #[.pointer (some ⟨g, 0, none⟩)] 83)).alloc (.cells #[.int .u64 (pos : Int)] 36)) := hW0
  clear hW0
  go_enter Tryz.func65, Tryz.ntmps65
  go_wp2
  go_ret
  rw [← HW.out]
  exact ⟨rfl, HK.out⟩
/-- a segment's range is one -/
theorem sfrom_any {pos : Nat} (hs : Sw w B pre v) (hn : v.sg.next ≤ 9223372036854775807) : Calls Tryz.prog 65 #[.pointer (some ⟨v.g, 0, none⟩), .int .u64 (pos : Int)] w fun e w' =>
    ∃ f, e = .returned f ∧ Sq (fun x => #[encE1 x, encE2 x]) w' f (segE v.sg pos) (Xs (w.heap.size + 1) w.heap.size v) ∧ Below w.heap.size w w' ∧ w'.heap.size = w.heap.size + 2 :=
  (sfrom_mk w).mono fun e w' ⟨he, h1, h2, h3, h4⟩ => ⟨_, he, ⟨_, _, rfl, enters_of Tryz.func95 (by kernel_rfl) rfl, fun k hk => by
    rcases hk with rfl | rfl | hk
    · exact h2.lt
    · exact h1.lt
    · have := (hs.at_lt hk).1; omega, fun W1 hk => sfrom1_runs (kq_bx hk (.inl rfl) h2) (kq_bx hk (.inr (.inl rfl)) h1) ((hs.below h3).kq hk (fun x hx => .inr (.inr hx))) hn⟩, h3, h4⟩
end Go.Proofs.YteifkkceldlfnaaGreatDoor

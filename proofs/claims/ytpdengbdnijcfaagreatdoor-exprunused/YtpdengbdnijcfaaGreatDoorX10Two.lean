/-
  Package expr's reader: marks that must be, operators.
-/
import Derived.Test.YtpdengbdnijcfaaGreatDoorX10Leaf
namespace Go.Proofs.YtpdengbdnijcfaaGreatDoor.x10
open Go.RowKit Go.Shelf Go.Sort
open Go.Lib hiding intOf

set_option maxHeartbeats 1000000 in
set_option maxRecDepth 100000 in
theorem must_any {w : World} {B b : Nat} {s : List UInt8} {st : Rs} {pv : Value} (h : Rm w B b s st pv) (hg : Gx B w) (hs : s.length ≤ 512) (hd : Gd s st) (m : List UInt8) : Calls Tryz.prog 128 #[.pointer (some ⟨b, 0, none⟩), .string (S m)] w (Rp w B b s pv (must s m st)) := by
  have hbl := h.ob.lt
  have c3 : w.cell? ⟨b, 3, none⟩ = some (.string (S st.now.s)) := h.ob.c 3
  have CN := next_any h hg hs hd.b
  have CF := refuse_any h
  by_cases hm : st.now.s = m
  · have HEQ : Hid (must s m st = nxt s st) := if_pos hm
    have hne : ((S st.now.s).toList == (S m).toList) = true := by rw [hm]; simp
    clear h hg hd
    generalize st.now.s = ns at *
    subst hm
    rcases hq : nxt s st with st1 | ⟨er, ea⟩ | _
    · have HQ : Hid (∀ e w', Rp w B b s pv (nxt s st) e w' → e = .returned (.tuple #[]) ∧ Hid (Rp w B b s pv (must s ns st) (.returned (.tuple #[])) w')) := fun e w' hR => by
        have h1 := hR
        obtain ⟨rfl, -⟩ := hR.good hq
        rw [HEQ.out]
        exact ⟨rfl, h1⟩
      clear hq HEQ
      go_enter Tryz.func128, Tryz.ntmps128
      go_wp2_with (go_at_call 35; refine CN.mono ?_; rintro e w2 hR; obtain ⟨he, HX⟩ := HQ.out e w2 hR; subst he; clear hR CN)
      first | go_end0 | refine bodyPost_ret (results_none rfl _ _ _) rfl ?_
      exact HX.out
    · have HQ : Hid (∀ e w', Rp w B b s pv (nxt s st) e w' → e = .panicked (wrg er ea) ∧ Hid (Rp w B b s pv (must s ns st) (.panicked (wrg er ea)) w')) := fun e w' hR => by
        have h1 := hR
        obtain ⟨rfl, -⟩ := hR.bad hq
        rw [HEQ.out]
        exact ⟨rfl, h1⟩
      clear hq HEQ
      go_enter Tryz.func128, Tryz.ntmps128
      go_wp2_with (go_at_call 35; refine CN.mono ?_; rintro e w2 hR; obtain ⟨he, HX⟩ := HQ.out e w2 hR; subst he; clear hR CN)
      exact ⟨rfl, HX.out⟩
    · exact absurd hq nxt_out
  · have HEQ : Hid (must s m st = .no 10 st.now.at') := if_neg hm
    have hne : ((S st.now.s).toList == (S m).toList) = false := by rw [S_toList, S_toList, beq_eq_false_iff_ne]; exact hm
    clear h hg hd CN hm
    go_enter Tryz.func128, Tryz.ntmps128
    go_wp2_with (go_at_call 37; refine CF.mono ?_; rintro e w2 ⟨rfl, hw2⟩; rw [hw2]; clear hw2)
    rw [HEQ.out]
    exact ⟨rfl, rfl, Ch.refl _ _⟩

theorem sgs_txt (k : Nat) (h : k < 19) : sgsV[k * 2]? = some (.string (S (sgs[k]?.getD ([], 0)).1)) ∧ sgsV[k * 2 + 1]? = some (.int .i64 (lvl k)) := by
  have key : ∀ k : Fin 19, sgsV[k.val * 2]? = some (.string (S (sgs[k.val]?.getD ([], 0)).1)) ∧ sgsV[k.val * 2 + 1]? = some (.int .i64 (lvl k.val)) := by
    intro k
    match k with
    | ⟨0, _⟩ => exact ⟨rfl, rfl⟩
    | ⟨1, _⟩ => exact ⟨rfl, rfl⟩
    | ⟨2, _⟩ => exact ⟨rfl, rfl⟩
    | ⟨3, _⟩ => exact ⟨rfl, rfl⟩
    | ⟨4, _⟩ => exact ⟨rfl, rfl⟩
    | ⟨5, _⟩ => exact ⟨rfl, rfl⟩
    | ⟨6, _⟩ => exact ⟨rfl, rfl⟩
    | ⟨7, _⟩ => exact ⟨rfl, rfl⟩
    | ⟨8, _⟩ => exact ⟨rfl, rfl⟩
    | ⟨9, _⟩ => exact ⟨rfl, rfl⟩
    | ⟨10, _⟩ => exact ⟨rfl, rfl⟩
    | ⟨11, _⟩ => exact ⟨rfl, rfl⟩
    | ⟨12, _⟩ => exact ⟨rfl, rfl⟩
    | ⟨13, _⟩ => exact ⟨rfl, rfl⟩
    | ⟨14, _⟩ => exact ⟨rfl, rfl⟩
    | ⟨15, _⟩ => exact ⟨rfl, rfl⟩
    | ⟨16, _⟩ => exact ⟨rfl, rfl⟩
    | ⟨17, _⟩ => exact ⟨rfl, rfl⟩
    | ⟨18, _⟩ => exact ⟨rfl, rfl⟩
    | ⟨n + 19, h⟩ => exact absurd h (by omega)
  exact key ⟨k, h⟩
theorem sg_cell {B : Nat} {w : World} (hg : Gx B w) (k : Nat) (h : k < 19) : w.cell? ⟨0, k * 2, none⟩ = some (.string (S (sgs[k]?.getD ([], 0)).1)) ∧ w.cell? ⟨0, k * 2 + 1, none⟩ = some (.int .i64 (lvl k)) := by
  have hv := (hg w (Below.refl _ _)).1
  have h1 := fun off => World.var?_cell (g := 0) (P := Tryz.prog) (by kernel_rfl) hv off
  obtain ⟨q1, q2⟩ := sgs_txt k h
  exact ⟨(h1 _).trans q1, (h1 _).trans q2⟩

set_option maxHeartbeats 1000000 in
set_option maxRecDepth 100000 in
theorem two_any {B : Nat} {w : World} (hg : Gx B w) (t : List UInt8) : Calls Tryz.prog 84 #[.string (S t)] w fun e w' => e = .returned (.int .i64 (twoH t : Int)) ∧ w' = w := by
  have HG : Hid (∀ k, k < 19 → _) := fun k h => sg_cell hg k h
  clear hg
  go_enter Tryz.func84, Tryz.ntmps84
  go_wp2
  go_loopw [3] (fun v3 wr => ∃ i : Nat, v3 = .int .i64 ((6 + i : Nat) : Int) ∧ i ≤ 13 ∧ wr = w ∧ Hid (∀ j (hj : j < (List.range 13).length), j < i → ((sgs[6 + (List.range 13)[j]]?.getD ([], 0)).1 == t) = false)) (fun v3 _ => 19 - (intOf v3).toNat)
  case atStart => exact ⟨0, rfl, Nat.zero_le _, rfl, fun j _ hj => by omega⟩
  case round =>
    obtain ⟨i, rfl, hi, rfl, HI⟩ := hrel
    obtain ⟨k, hk⟩ : ∃ k, 6 + i = k := ⟨_, rfl⟩
    rw [hk]
    by_cases hi13 : i < 13
    · have hk18 : (k : Int) ≤ 18 := by omega
      have hk0 : (0 : Int) ≤ (k : Int) := by omega
      have hk19 : (k : Int) < 19 := by omega
      have hkn : k < 19 := by omega
      obtain ⟨q1, -⟩ := HG.out k hkn
      obtain ⟨u, hu⟩ : ∃ u, (sgs[k]?.getD ([], 0)).1 = u := ⟨_, rfl⟩
      rw [hu] at q1
      have hir : i < (List.range 13).length := by simpa using hi13
      have HFS := find_some (p := fun i => (sgs[6 + i]?.getD ([], 0)).1 == t) hir HI.out
      simp only [List.getElem_range] at HFS
      rw [hk, hu] at HFS
      cases q : u == t with
      | true =>
        have HE : Hid (twoH t = k) := by
          show _ = _
          unfold twoH
          rw [HFS q]
          exact hk
        have q' : ((S u).toList == (S t).toList) = true := by rw [S_toList, S_toList]; exact q
        clear HFS q hu
        go_wp2
        go_ret
        rw [HE.out]
        exact ⟨rfl, rfl⟩
      | false =>
        have HN : Hid (∀ j (hj : j < (List.range 13).length), j < i + 1 → ((sgs[6 + (List.range 13)[j]]?.getD ([], 0)).1 == t) = false) := fun j hj hji => by
          rcases Nat.lt_succ_iff_lt_or_eq.1 hji with h1 | rfl
          · exact HI.out j hj h1
          · simp only [List.getElem_range]
            rw [hk, hu]
            exact q
        have q' : ((S u).toList == (S t).toList) = false := by rw [S_toList, S_toList]; exact q
        clear HFS q hu
        go_wp2
        go_roundw
        case rel => exact ⟨i + 1, by rw [show 6 + (i + 1) = k + 1 by omega]; simp, by omega, by first | rfl | trivial, HN⟩
        case measure => simp [intOf]; omega
    · have hk18 : ¬ (k : Int) ≤ 18 := by omega
      have HE : Hid (twoH t = 0) := by
        show _ = _
        unfold twoH
        rw [find_none (i := i) (by simp; omega) HI.out]
      go_wp2
      go_ret
      rw [HE.out]
      exact ⟨rfl, rfl⟩
end Go.Proofs.YtpdengbdnijcfaaGreatDoor.x10

/-
  Package expr's reader: the next token.
-/
import Derived.Test.YtpbfdaijnndilaaGreatDoorGTxtT
namespace Go.Proofs.YtpbfdaijnndilaaGreatDoor.x10
open Go.RowKit Go.Shelf Go.Sort
open Go.Lib hiding intOf

theorem Rm.gx {w w' : World} {B b : Nat} {s : List UInt8} {st : Rs} {pv : Value} (h : Rm w B b s st pv) (c : Ch (Fx b pv) w w') : Below B w w' :=
  c.below (by have := h.lo; have := h.ob.lt; omega) (fun k hk e => by
    rcases e with e | e
    · have := h.lo; omega
    · have := (row_obj h.row e).1; omega)
theorem Rp.lift {w W w' : World} {B b : Nat} {s : List UInt8} {pv : Value} {r : Ot Rs} {e : Ending} (L : Lf w b pv W pv) (h : Rp W B b s pv r e w') : Rp w B b s pv r e w' := by
  unfold Rp at h ⊢
  split
  · obtain ⟨h1, pv', h2, h3⟩ := h
    exact ⟨h1, pv', h2, L.trans h3⟩
  · exact ⟨h.1, joinG L.ch h.2 (fun x _ e => e)⟩
  · trivial
theorem take_spn (p : UInt8 → Bool) (l : List UInt8) : l.take (spn p l) = l.takeWhile p := by
  unfold spn
  exact (List.prefix_iff_eq_take.1 (List.takeWhile_prefix p)).symm
theorem nxt_tok {s : List UInt8} {st : Rs} {b0 : Nat} {rest : List UInt8} (h1 : st.beh + spn kB (s.drop st.beh) = b0) (h2 : s.drop b0 = rest) : nxt s st = match tok b0 rest with
    | .ok (t, n) => .ok { st with now := t, beh := b0 + n }
    | .no e a => .no e a
    | .out => .out := by
  unfold nxt
  simp only
  rw [h1, h2]
  rcases tok b0 rest with ⟨t, n⟩ | ⟨e, a⟩ | _ <;> rfl
theorem tw_mem {p : UInt8 → Bool} : ∀ {l : List UInt8} {x : UInt8}, x ∈ l.takeWhile p → p x = true
  | [], _, h => by cases h
  | c :: t, x, h => by
    cases hc : p c with
    | true =>
      rw [List.takeWhile_cons_of_pos hc] at h
      rcases List.mem_cons.1 h with rfl | h
      · exact hc
      · exact tw_mem h
    | false => rw [List.takeWhile_cons_of_neg (by simp [hc])] at h; cases h
set_option maxHeartbeats 4000000 in
set_option maxRecDepth 100000 in
theorem next_any {w : World} {B b : Nat} {s : List UInt8} {st : Rs} {pv : Value} (h : Rm w B b s st pv) (hg : Gx B w) (hs : s.length ≤ 512) (hb : st.beh ≤ s.length) : Calls Tryz.prog 47 #[.pointer (some ⟨b, 0, none⟩)] w (Rp w B b s pv (nxt s st)) := by
  have hz := S_size s
  have hbl := h.ob.lt
  have c0 := h.ob.c 0
  have c1 := h.ob.c 1
  have c2 := h.ob.c 2
  have c3 := h.ob.c 3
  have c4 := h.ob.c 4
  have c5 := h.ob.c 5
  have c6 := h.ob.c 6
  have c7 := h.ob.c 7
  have f1 := h.ob.f 1
  have f2 := h.ob.f 2
  have f3 := h.ob.f 3
  have f4 := h.ob.f 4
  have f5 := h.ob.f 5
  have f6 := h.ob.f 6
  have f7 := h.ob.f 7
  simp only [rcs, List.getElem?_toArray, List.getElem?_cons_zero, List.getElem?_cons_succ] at c0 c1 c2 c3 c4 c5 c6 c7
  have hx := S_drop s st.beh
  have hsp := spn_le kB (s.drop st.beh)
  rw [List.length_drop] at hsp
  have CS := span_blank (s.drop st.beh) (by rw [List.length_drop]; omega)
  obtain ⟨n, hn⟩ : ∃ n, spn kB (s.drop st.beh) = n := ⟨_, rfl⟩
  have HN : Hid (spn kB (s.drop st.beh) = n) := hn
  rw [hn] at CS hsp
  clear hn
  have HH : Hid (Rm w B b s st pv) := h
  have HG : Hid (Gx B w) := hg
  have hbi : (0 : Int) ≤ (st.beh : Int) := by omega
  have hbi2 : (st.beh : Int) ≤ (s.length : Int) := by omega
  obtain ⟨dr, hdr⟩ : ∃ dr, s.drop st.beh = dr := ⟨_, rfl⟩
  rw [hdr] at hx CS
  clear h hg hdr
  go_enter Tryz.func47, Tryz.ntmps47
  go_wp2
  refine Code.wp_mono (Q := Exit.then (fun a' w' => a' = { tmps := #[.pointer (some ⟨b, 0, none⟩), undef, undef, .pointer (some ⟨b, 0, none⟩), .pointer (some ⟨b, 0, none⟩), .pointer (some ⟨b, 7, none⟩), .int .i64 (st.beh : Int), .pointer (some ⟨b, 0, none⟩), .pointer (some ⟨b, 0, none⟩), .pointer (some ⟨b, 0, none⟩), .string (S s), .pointer (some ⟨b, 0, none⟩), .pointer (some ⟨b, 0, none⟩), .pointer (some ⟨b, 7, none⟩), .int .i64 (st.beh : Int), .string (S dr), .int .i64 (n : Int), .int .i64 (IntKind.i64.wrap ((st.beh : Int) + (n : Int))), .pointer (some ⟨b, 0, none⟩), .pointer (some ⟨b, 7, none⟩), undef, undef, undef, undef, undef, undef, undef, undef, undef, undef, undef, undef, undef, undef, undef, undef, undef, undef, undef, undef, undef, undef, undef, undef, undef, undef, undef, undef, undef, undef, undef, undef, undef, undef, undef, undef, undef, undef, undef, undef, undef, undef, undef, undef, undef, undef, undef, undef, undef, undef], defers := [] } ∧ w' = (w.setCell ⟨b, 7, none⟩ (.int .i64 (IntKind.i64.wrap ((st.beh : Int) + (n : Int))))).drew) (fun _ _ _ => False)) ?post ?reg
  case reg =>
    go_region_with (go_at_call 90; refine (CS _).mono ?_; rintro e w1 ⟨rfl, hw1⟩; rw [hw1]; clear hw1)
    all_goals exact ⟨rfl, rfl⟩
  case post =>
    intro e a' w' hq
    obtain ⟨rfl, rfl, rfl⟩ : e = .normal ∧ a' = _ ∧ w' = _ := by
      cases e <;> first | exact ⟨rfl, hq.1, hq.2⟩ | exact hq.elim
    clear hq
    dsimp only
    have hww : IntKind.i64.wrap ((st.beh : Int) + (n : Int)) = ((st.beh + n : Nat) : Int) := by rw [IntKind.wrap_i64]; omega
    rw [hww]
    obtain ⟨b0, hb0⟩ : ∃ b0, st.beh + n = b0 := ⟨_, rfl⟩
    have HB0 : Hid (st.beh + n = b0) := hb0
    rw [hb0]
    have hb0l : b0 ≤ s.length := by omega
    obtain ⟨W0, hW0⟩ : ∃ W0, (w.setCell ⟨b, 7, none⟩ (.int .i64 (b0 : Int))).drew = W0 := ⟨_, rfl⟩
    obtain ⟨R0, L0⟩ : Rm W0 B b s { st with beh := b0 } pv ∧ Lf w b pv W0 pv := by
      rw [← hW0]
      refine HH.out.sets (joinG (chAt (chRe w b) 7 (.int .i64 (b0 : Int))) (drew_ch _ (fun _ => False)) (fun _ _ e => e.elim)) ?_ rfl
      have := HH.out.ob.set 7 (.int .i64 (b0 : Int))
      have h2 : Ro (w.setCell ⟨b, 7, none⟩ (.int .i64 (b0 : Int))).drew b _ := this
      simpa [rcs] using h2
    rw [hW0]
    clear hW0 hww hb0 c0 c1 c2 c3 c4 c5 c6 c7 f1 f2 f3 f4 f5 f6 f7 CS hx
    have c0 := R0.ob.c 0
    have c1 := R0.ob.c 1
    have c2 := R0.ob.c 2
    have c3 := R0.ob.c 3
    have c4 := R0.ob.c 4
    have c5 := R0.ob.c 5
    have c6 := R0.ob.c 6
    have c7 := R0.ob.c 7
    have f1 := R0.ob.f 1
    have f2 := R0.ob.f 2
    have f3 := R0.ob.f 3
    have f4 := R0.ob.f 4
    have f5 := R0.ob.f 5
    have f6 := R0.ob.f 6
    have hlt0 := R0.ob.lt
    simp only [rcs, List.getElem?_toArray, List.getElem?_cons_zero, List.getElem?_cons_succ] at c0 c1 c2 c3 c4 c5 c6 c7
    have HR0 : Hid (Rm W0 B b s { st with beh := b0 } pv ∧ Lf w b pv W0 pv) := ⟨R0, L0⟩
    clear R0 L0
    go_wp2
    obtain ⟨W1, hW1⟩ : ∃ W1, ((((((W0.setCell ⟨b, 1, none⟩ (.int .i64 0)).setCell ⟨b, 2, none⟩ (.int .i64 (b0 : Int))).setCell ⟨b, 3, none⟩ (.string ⟨#[]⟩)).setCell ⟨b, 4, none⟩ (.int .i64 0)).setCell ⟨b, 5, none⟩ (.int .i64 0)).setCell ⟨b, 6, none⟩ (.string ⟨#[]⟩)) = W1 := ⟨_, rfl⟩
    obtain ⟨st2, hst2⟩ : ∃ st2 : Rs, { st with now := ⟨0, b0, [], v0⟩, beh := b0 } = st2 := ⟨_, rfl⟩
    obtain ⟨R1, L1⟩ : Rm W1 B b s st2 pv ∧ Lf w b pv W1 pv := by
      rw [← hW1, ← hst2]
      obtain ⟨k1, k2⟩ := HR0.out.1.sets (st' := { st with now := ⟨0, b0, [], v0⟩, beh := b0 }) (chAt (chAt (chAt (chAt (chAt (chAt (chRe W0 b) 1 (.int .i64 0)) 2 (.int .i64 (b0 : Int))) 3 (.string ⟨#[]⟩)) 4 (.int .i64 0)) 5 (.int .i64 0)) 6 (.string ⟨#[]⟩)) (by
        have := (((((HR0.out.1.ob.set 1 (.int .i64 0)).set 2 (.int .i64 (b0 : Int))).set 3 (.string ⟨#[]⟩)).set 4 (.int .i64 0)).set 5 (.int .i64 0)).set 6 (.string ⟨#[]⟩)
        simpa [rcs, v0, S] using this) rfl
      exact ⟨k1, HR0.out.2.trans k2⟩
    rw [hW1]
    clear hW1 c0 c1 c2 c3 c4 c5 c6 c7 f1 f2 f3 f4 f5 f6 hlt0 HR0
    have c0 : W1.cell? ⟨b, 0, none⟩ = some (.string (S s)) := R1.ob.c 0
    have c7 : W1.cell? ⟨b, 7, none⟩ = some (.int .i64 (b0 : Int)) := by rw [R1.ob.c 7, ← hst2]; rfl
    have hx0 := S_drop s b0
    obtain ⟨rest, hrest⟩ : ∃ rest, s.drop b0 = rest := ⟨_, rfl⟩
    have hrl : rest.length + b0 = s.length := by rw [← hrest, List.length_drop]; omega
    have HTK : Hid (nxt s st = match tok b0 rest with
      | .ok (t, n) => .ok { st with now := t, beh := b0 + n }
      | .no e a => .no e a
      | .out => .out) := nxt_tok (by rw [HN.out, HB0.out]) hrest
    rw [hrest] at hx0
    have hbi3 : (0 : Int) ≤ (b0 : Int) := by omega
    have hbi4 : (b0 : Int) ≤ (s.length : Int) := by omega
    have HR1 : Hid (Rm W1 B b s st2 pv ∧ Lf w b pv W1 pv) := ⟨R1, L1⟩
    have hlt1 := R1.ob.lt
    clear R1 L1 hrest
    go_quiet (fail)
    obtain ⟨W2, hW2⟩ : ∃ W2, W1.drewN nq = W2 := ⟨_, rfl⟩
    have HR2 : Hid (Rm W2 B b s st2 pv ∧ Lf w b pv W2 pv) := by
      have hb2 : Below W1.heap.size W1 W2 := by rw [← hW2]; exact below_drewN (Below.refl _ _) _
      exact ⟨HR1.out.1.below hb2, HR1.out.2.trans (Lf.of_below b pv hb2)⟩
    rw [hW2]
    have hbh : st2.beh ≤ 512 := by rw [← hst2]; simp only; omega
    have HST2 : Hid ({ st with now := ⟨0, b0, [], v0⟩, beh := b0 } = st2) := hst2
    have HLF : Hid (∀ r e w', Rp W2 B b s pv r e w' → Rp w B b s pv r e w') := fun r e w' hR => Rp.lift HR2.out.2 hR
    have HG2 : Hid (Gx B W2) := HG.out.below (HH.out.gx HR2.out.2.ch)
    have hzr := S_size rest
    clear hW2 HR1 c0 c7 hx0 hst2 HB0 HN
    cases hrc : rest with
    | nil =>
      subst hrc
      have HEQ : Hid (nxt s st = .ok st2) := by show _ = _; rw [HTK.out, ← HST2.out]; rfl
      have he : ((S []).toList.isEmpty) = true := by rw [S_toList]; rfl
      have he2 : (S []).toList = [] := S_toList []
      clear HTK
      go_wp2
      first | go_end0 | refine bodyPost_ret (results_none rfl _ _ _) rfl ?_
      rw [HEQ.out]
      exact ⟨rfl, pv, HR2.out.1, HR2.out.2⟩
    | cons c t =>
      have hg0 : ∀ (h : 0 < (S rest).size), (S rest)[0]'h = c := fun h => by rw [S_at rest 0 (by rw [← hzr]; exact h) h]; simp [hrc]
      have hg1 : 0 < rest.length := by rw [hrc]; simp
      have hg2 : (0 : Int) < (rest.length : Int) := by omega
      have he : ((S rest).toList.isEmpty) = false := by rw [S_toList, hrc]; rfl
      have hcl : c.toNat < 256 := c.toNat_lt
      have CD := digit_any c
      have CL := letter_any c
      have hrl2 : rest.length ≤ 512 := by omega
      rw [← hrc]
      cases kd : kD c with
      | true =>
        rw [kd] at CD
        obtain ⟨r, hr⟩ : ∃ r, rest.takeWhile kD = r := ⟨_, rfl⟩
        have CP := span_digit rest (by omega)
        have hpre := S_take rest (spn kD rest)
        rw [take_spn, hr] at hpre
        have hrlen : r.length = spn kD rest := by rw [← hr]; rfl
        have hspl := spn_le kD rest
        have hrne : r ≠ [] := by rw [← hr, hrc, List.takeWhile_cons_of_pos kd]; simp
        have hdig : ∀ x ∈ r, 48 ≤ x.toNat ∧ x.toNat ≤ 57 := fun x hx => by
          rw [← hr] at hx
          have := tw_mem hx
          unfold kD at this
          simpa using this
        have CC := number_any HR2.out.1 HG2.out r hrne (by omega) hdig hbh
        have HEQ : Hid (numR r st2 = nxt s st) := by
          show _ = _
          rw [HTK.out, ← HST2.out, hrc]
          unfold tok numR
          simp only [kd, if_true]
          rw [← hrc, hr]
          have hh : (r.head? = some 48 ∧ r ≠ [48]) ↔ (c = 48 ∧ r ≠ [48]) := by
            have : r.head? = some c := by rw [← hr, hrc, List.takeWhile_cons_of_pos kd]; rfl
            rw [this]; simp
          by_cases hq : numD r ≤ 9223372036854775807 ∧ ¬ (c = 48 ∧ r ≠ [48])
          · rw [if_pos hq, if_pos ⟨hq.1, fun h => hq.2 (hh.1 h)⟩]
          · rw [if_neg hq, if_neg (fun h => hq ⟨h.1, fun h2 => h.2 (hh.2 h2)⟩)]
        generalize spn kD rest = sp at *
        have hsp1 : (0 : Int) ≤ (sp : Int) := by omega
        have hsp2 : (sp : Int) ≤ (rest.length : Int) := by omega
        clear HTK hr hrc hrne hdig kd CL
        rcases hq : numR r st2 with st3 | ⟨er, ea⟩ | _
        · have HQ : Hid (∀ e w', Rp W2 B b s pv (numR r st2) e w' → e = .returned (.tuple #[]) ∧ Hid (Rp w B b s pv (nxt s st) (.returned (.tuple #[])) w')) := fun e w' hR => by
            have h1 := HLF.out _ _ _ hR
            rw [HEQ.out] at h1
            rw [hq] at hR
            obtain ⟨rfl, -⟩ := hR
            exact ⟨rfl, h1⟩
          clear hq HEQ HLF
          go_wp2_with (first
            | (go_at_call 92; refine (CD _).mono ?_; rintro e w3 ⟨rfl, hw3⟩; rw [hw3]; clear hw3 CD)
            | (go_at_call 90; refine (CP _).mono ?_; rintro e w3 ⟨rfl, hw3⟩; rw [hw3]; clear hw3 CP)
            | (go_at_call 93; refine CC.mono ?_; rintro e w4 hR; obtain ⟨he, HX⟩ := HQ.out e w4 hR; subst he; clear hR CC))
          first | go_end0 | refine bodyPost_ret (results_none rfl _ _ _) rfl ?_
          exact HX.out
        · have HQ : Hid (∀ e w', Rp W2 B b s pv (numR r st2) e w' → e = .panicked (wrg er ea) ∧ Hid (Rp w B b s pv (nxt s st) (.panicked (wrg er ea)) w')) := fun e w' hR => by
            have h1 := HLF.out _ _ _ hR
            rw [HEQ.out] at h1
            rw [hq] at hR
            obtain ⟨rfl, -⟩ := hR
            exact ⟨rfl, h1⟩
          clear hq HEQ HLF
          go_wp2_with (first
            | (go_at_call 92; refine (CD _).mono ?_; rintro e w3 ⟨rfl, hw3⟩; rw [hw3]; clear hw3 CD)
            | (go_at_call 90; refine (CP _).mono ?_; rintro e w3 ⟨rfl, hw3⟩; rw [hw3]; clear hw3 CP)
            | (go_at_call 93; refine CC.mono ?_; rintro e w4 hR; obtain ⟨he, HX⟩ := HQ.out e w4 hR; subst he; clear hR CC))
          exact ⟨rfl, HX.out⟩
        · exact absurd hq (by unfold numR; split <;> simp)
      | false =>
        rw [kd] at CD
        cases ka : kA c with
        | true =>
          rw [ka] at CL
          obtain ⟨r, hr⟩ : ∃ r, rest.takeWhile kW = r := ⟨_, rfl⟩
          have CP := span_word rest (by omega)
          have hpre := S_take rest (spn kW rest)
          rw [take_spn, hr] at hpre
          have hrlen : r.length = spn kW rest := by rw [← hr]; rfl
          have hspl := spn_le kW rest
          have CC := word_any HR2.out.1 r (by omega) hbh
          have HEQ : Hid (wrdR r st2 = nxt s st) := by
            show _ = _
            rw [HTK.out, ← HST2.out, hrc]
            unfold tok wrdR
            simp only [kd, ka, if_true, Bool.false_eq_true, if_false]
            rw [← hrc, hr]
            by_cases hq : (namV r || wds.contains r) = true
            · rw [if_pos hq, if_pos hq]
            · rw [if_neg hq, if_neg hq]
          generalize spn kW rest = sp at *
          have hsp1 : (0 : Int) ≤ (sp : Int) := by omega
          have hsp2 : (sp : Int) ≤ (rest.length : Int) := by omega
          clear HTK hr hrc kd ka
          rcases hq : wrdR r st2 with st3 | ⟨er, ea⟩ | _
          · have HQ : Hid (∀ e w', Rp W2 B b s pv (wrdR r st2) e w' → e = .returned (.tuple #[]) ∧ Hid (Rp w B b s pv (nxt s st) (.returned (.tuple #[])) w')) := fun e w' hR => by
              have h1 := HLF.out _ _ _ hR
              rw [HEQ.out] at h1
              rw [hq] at hR
              obtain ⟨rfl, -⟩ := hR
              exact ⟨rfl, h1⟩
            clear hq HEQ HLF
            go_wp2_with (first
              | (go_at_call 92; refine (CD _).mono ?_; rintro e w3 ⟨rfl, hw3⟩; rw [hw3]; clear hw3 CD)
              | (go_at_call 94; refine (CL _).mono ?_; rintro e w3 ⟨rfl, hw3⟩; rw [hw3]; clear hw3 CL)
              | (go_at_call 90; refine (CP _).mono ?_; rintro e w3 ⟨rfl, hw3⟩; rw [hw3]; clear hw3 CP)
              | (go_at_call 95; refine CC.mono ?_; rintro e w4 hR; obtain ⟨he, HX⟩ := HQ.out e w4 hR; subst he; clear hR CC))
            first | go_end0 | refine bodyPost_ret (results_none rfl _ _ _) rfl ?_
            exact HX.out
          · have HQ : Hid (∀ e w', Rp W2 B b s pv (wrdR r st2) e w' → e = .panicked (wrg er ea) ∧ Hid (Rp w B b s pv (nxt s st) (.panicked (wrg er ea)) w')) := fun e w' hR => by
              have h1 := HLF.out _ _ _ hR
              rw [HEQ.out] at h1
              rw [hq] at hR
              obtain ⟨rfl, -⟩ := hR
              exact ⟨rfl, h1⟩
            clear hq HEQ HLF
            go_wp2_with (first
              | (go_at_call 92; refine (CD _).mono ?_; rintro e w3 ⟨rfl, hw3⟩; rw [hw3]; clear hw3 CD)
              | (go_at_call 94; refine (CL _).mono ?_; rintro e w3 ⟨rfl, hw3⟩; rw [hw3]; clear hw3 CL)
              | (go_at_call 90; refine (CP _).mono ?_; rintro e w3 ⟨rfl, hw3⟩; rw [hw3]; clear hw3 CP)
              | (go_at_call 95; refine CC.mono ?_; rintro e w4 hR; obtain ⟨he, HX⟩ := HQ.out e w4 hR; subst he; clear hR CC))
            exact ⟨rfl, HX.out⟩
          · exact absurd hq (by unfold wrdR; split <;> simp)
        | false =>
          rw [ka] at CL
          by_cases h34 : c = 34
          · have h34' : ((c.toNat : Int) == 34) = true := by rw [h34]; rfl
            have CC := text_any HR2.out.1 rest hrl2 hg1 hbh
            have HEQ : Hid (txtR rest st2 = nxt s st) := by
              show _ = _
              rw [HTK.out, ← HST2.out]
              unfold txtR
              have e1 : tok b0 rest = match (txs rest.length [] (rest.drop 1)).2 with
                | 34 :: q => .ok (⟨2, b0, [], (3, 0, (txs rest.length [] (rest.drop 1)).1)⟩, rest.length - q.length)
                | _ => .no 10 b0 := by
                rw [hrc]
                unfold tok
                simp only [kd, ka, Bool.false_eq_true, if_false]
                rw [if_pos h34]
                rfl
              rw [e1]
              generalize txs rest.length [] (rest.drop 1) = z
              obtain ⟨z1, z2⟩ := z
              cases z2 with
              | nil => rfl
              | cons d q =>
                by_cases hd : d = 34
                · subst hd; rfl
                · have m1 : ∀ {α : Type} (A : List UInt8 → α) (D : α), (match d :: q with | 34 :: q => A q | _ => D) = D := fun A D => by
                    split
                    · rename_i e; simp at e; exact absurd e.1 hd
                    · rfl
                  simp only
                  rw [m1 (fun q => Ot.ok _)]
                  split
                  · rename_i e; simp at e; exact absurd e.1 hd
                  · rfl
            clear HTK hrc kd ka h34
            rcases hq : txtR rest st2 with st3 | ⟨er, ea⟩ | _
            · have HQ : Hid (∀ e w', Rp W2 B b s pv (txtR rest st2) e w' → e = .returned (.tuple #[]) ∧ Hid (Rp w B b s pv (nxt s st) (.returned (.tuple #[])) w')) := fun e w' hR => by
                have h1 := HLF.out _ _ _ hR
                rw [HEQ.out] at h1
                rw [hq] at hR
                obtain ⟨rfl, -⟩ := hR
                exact ⟨rfl, h1⟩
              clear hq HEQ HLF
              go_wp2_with (first
                | (go_at_call 92; refine (CD _).mono ?_; rintro e w3 ⟨rfl, hw3⟩; rw [hw3]; clear hw3 CD)
                | (go_at_call 94; refine (CL _).mono ?_; rintro e w3 ⟨rfl, hw3⟩; rw [hw3]; clear hw3 CL)
                | (go_at_call 97; refine CC.mono ?_; rintro e w4 hR; obtain ⟨he, HX⟩ := HQ.out e w4 hR; subst he; clear hR CC))
              first | go_end0 | refine bodyPost_ret (results_none rfl _ _ _) rfl ?_
              exact HX.out
            · have HQ : Hid (∀ e w', Rp W2 B b s pv (txtR rest st2) e w' → e = .panicked (wrg er ea) ∧ Hid (Rp w B b s pv (nxt s st) (.panicked (wrg er ea)) w')) := fun e w' hR => by
                have h1 := HLF.out _ _ _ hR
                rw [HEQ.out] at h1
                rw [hq] at hR
                obtain ⟨rfl, -⟩ := hR
                exact ⟨rfl, h1⟩
              clear hq HEQ HLF
              go_wp2_with (first
                | (go_at_call 92; refine (CD _).mono ?_; rintro e w3 ⟨rfl, hw3⟩; rw [hw3]; clear hw3 CD)
                | (go_at_call 94; refine (CL _).mono ?_; rintro e w3 ⟨rfl, hw3⟩; rw [hw3]; clear hw3 CL)
                | (go_at_call 97; refine CC.mono ?_; rintro e w4 hR; obtain ⟨he, HX⟩ := HQ.out e w4 hR; subst he; clear hR CC))
              exact ⟨rfl, HX.out⟩
            · exact absurd hq (by unfold txtR; split <;> simp)
          · have h34n : c.toNat ≠ 34 := fun e => h34 (UInt8.toNat_inj.1 e)
            have h34' : ((c.toNat : Int) == 34) = false := by rw [beq_eq_false_iff_ne]; omega
            have CC := mark_any HR2.out.1 HG2.out rest hbh
            have HEQ : Hid (mrkR rest st2 = nxt s st) := by
              show _ = _
              rw [HTK.out, ← HST2.out]
              unfold mrkR
              have e1 : tok b0 rest = match mkOf rest with
                | some m => .ok (⟨4, b0, m, v0⟩, m.length)
                | none => .no 10 b0 := by
                rw [hrc]
                unfold tok
                simp only [kd, ka, h34, Bool.false_eq_true, if_false]
                cases mkOf (c :: t) <;> rfl
              rw [e1]
              cases mkOf rest <;> rfl
            clear HTK hrc kd ka h34 h34n
            rcases hq : mrkR rest st2 with st3 | ⟨er, ea⟩ | _
            · have HQ : Hid (∀ e w', Rp W2 B b s pv (mrkR rest st2) e w' → e = .returned (.tuple #[]) ∧ Hid (Rp w B b s pv (nxt s st) (.returned (.tuple #[])) w')) := fun e w' hR => by
                have h1 := HLF.out _ _ _ hR
                rw [HEQ.out] at h1
                rw [hq] at hR
                obtain ⟨rfl, -⟩ := hR
                exact ⟨rfl, h1⟩
              clear hq HEQ HLF
              go_wp2_with (first
                | (go_at_call 92; refine (CD _).mono ?_; rintro e w3 ⟨rfl, hw3⟩; rw [hw3]; clear hw3 CD)
                | (go_at_call 94; refine (CL _).mono ?_; rintro e w3 ⟨rfl, hw3⟩; rw [hw3]; clear hw3 CL)
                | (go_at_call 98; refine CC.mono ?_; rintro e w4 hR; obtain ⟨he, HX⟩ := HQ.out e w4 hR; subst he; clear hR CC))
              first | go_end0 | refine bodyPost_ret (results_none rfl _ _ _) rfl ?_
              exact HX.out
            · have HQ : Hid (∀ e w', Rp W2 B b s pv (mrkR rest st2) e w' → e = .panicked (wrg er ea) ∧ Hid (Rp w B b s pv (nxt s st) (.panicked (wrg er ea)) w')) := fun e w' hR => by
                have h1 := HLF.out _ _ _ hR
                rw [HEQ.out] at h1
                rw [hq] at hR
                obtain ⟨rfl, -⟩ := hR
                exact ⟨rfl, h1⟩
              clear hq HEQ HLF
              go_wp2_with (first
                | (go_at_call 92; refine (CD _).mono ?_; rintro e w3 ⟨rfl, hw3⟩; rw [hw3]; clear hw3 CD)
                | (go_at_call 94; refine (CL _).mono ?_; rintro e w3 ⟨rfl, hw3⟩; rw [hw3]; clear hw3 CL)
                | (go_at_call 98; refine CC.mono ?_; rintro e w4 hR; obtain ⟨he, HX⟩ := HQ.out e w4 hR; subst he; clear hR CC))
              exact ⟨rfl, HX.out⟩
            · exact absurd hq (by unfold mrkR; split <;> simp)
end Go.Proofs.YtpbfdaijnndilaaGreatDoor.x10

/-
  Package expr: what stands behind an operand; operands.
-/
import Derived.Test.YtpbfdaijnndilaaGreatDoorGTwoR
namespace Go.Proofs.YtpbfdaijnndilaaGreatDoor.x10
open Go.RowKit Go.Shelf Go.Sort
open Go.Lib hiding intOf

variable {s : List UInt8} {B b : Nat}

theorem cmpL (w l : List UInt8) : ((S w).toList == l) = (w == l) := by rw [S_toList]
set_option maxHeartbeats 1000000 in
set_option maxRecDepth 100000 in
theorem aftM_step (hs : s.length ≤ 512) {n : Nat} (ih : Al s B b n) (m : List UInt8) (st : Rs) (pv : Value) (w : World) (h : Rm w B b s st pv) (hg : Gx B w) (hd : Gd s st) (hno : aftM s (n + 1) m st ≠ .out) : Calls Tryz.prog 124 #[.pointer (some ⟨b, 0, none⟩), .string (S m)] w (Rp w B b s pv (aftM s (n + 1) m st)) := by
  have H0 : Hid (At w B b s pv w st pv) := ⟨h, Lf.refl _ _ _, hd, hg⟩
  have hbl := h.ob.lt
  have e1 := cmpL m [40]
  have e2 := cmpL m [45]
  have CF := refuse_any h
  have HE0 : Hid (aftM s (n + 1) m st = if m = [40] then inBr s n st else if m = [45] then (nxt s st).bind fun st => (opd s n st).bind fun st => putP (3, lasP st, -1, v0) st else .no 10 st.now.at') := by show _ = _; rw [aftM]
  clear h hg
  by_cases m1 : m = [40]
  · rw [beq_iff_eq.2 m1] at e1
    have HE : Hid (aftM s (n + 1) m st = inBr s n st) := HE0.out.trans (if_pos m1)
    clear m1 HE0 e2 CF
    have CA := ih.inBr st pv w H0.out.rm H0.out.gx hd (by rw [← HE.out]; exact hno)
    rcases q1 : inBr s n st with st1 | ⟨er, ea⟩ | _
    · have HQ1 : Hid (∀ e w', Rp w B b s pv (inBr s n st) e w' → e = .returned (.tuple #[]) ∧ Hid (Rp w B b s pv (aftM s (n + 1) m st) (.returned (.tuple #[])) w')) := fun e w' hR => by
        have h1 := hR
        obtain ⟨rfl, -⟩ := hR.good q1
        rw [HE.out]
        exact ⟨rfl, h1⟩
      clear q1 HE ih hno H0 hd 
      go_enter Tryz.func124, Tryz.ntmps124
      go_wp2_with (first
        | (go_at_call 142; refine CA.mono ?_; rintro e w1 hR; obtain ⟨he, HX⟩ := HQ1.out e w1 hR; subst he; clear hR CA))
      first | go_end0 | refine bodyPost_ret (results_none rfl _ _ _) rfl ?_
      exact HX.out
    · have HQ1 : Hid (∀ e w', Rp w B b s pv (inBr s n st) e w' → e = .panicked (wrg er ea) ∧ Hid (Rp w B b s pv (aftM s (n + 1) m st) (.panicked (wrg er ea)) w')) := fun e w' hR => by
        have h1 := hR
        obtain ⟨rfl, -⟩ := hR.bad q1
        rw [HE.out]
        exact ⟨rfl, h1⟩
      clear q1 HE ih hno H0 hd 
      go_enter Tryz.func124, Tryz.ntmps124
      go_wp2_with (first
        | (go_at_call 142; refine CA.mono ?_; rintro e w1 hR; obtain ⟨he, HX⟩ := HQ1.out e w1 hR; subst he; clear hR CA))
      exact ⟨rfl, HX.out⟩
    · exact absurd (HE.out.trans q1) hno
  · rw [beq_eq_false_iff_ne.2 m1] at e1
    by_cases m2 : m = [45]
    · rw [beq_iff_eq.2 m2] at e2
      have HE : Hid (aftM s (n + 1) m st = (nxt s st).bind fun st => (opd s n st).bind fun st => putP (3, lasP st, -1, v0) st) := HE0.out.trans ((if_neg m1).trans (if_pos m2))
      clear m1 m2 HE0 CF
      have CA := next_any H0.out.rm H0.out.gx hs hd.b
      rcases q1 : nxt s st with st1 | ⟨er, ea⟩ | _
      · have g1 := nxt_gr hd q1
        have HE1 : Hid (aftM s (n + 1) m st = (opd s n st1).bind fun st => putP (3, lasP st, -1, v0) st) := HE.out.trans (bind_eq q1)
        rcases q2 : opd s n st1 with st2 | ⟨er, ea⟩ | _
        · have g2 := (gr_all s n).2.2.1 _ _ g1.1 q2
          have HE2 : Hid (aftM s (n + 1) m st = putP (3, lasP st2, -1, v0) st2) := HE1.out.trans (bind_eq q2)
          have HO : Hid (∀ w1 pv1, At w B b s pv w1 st1 pv1 → Calls Tryz.prog 99 #[.pointer (some ⟨b, 0, none⟩)] w1 (Rp w1 B b s pv1 (opd s n st1))) := fun w1 pv1 k => ih.opd st1 pv1 w1 k.rm k.gx k.gd (by rw [q2]; simp)
          have HL : Hid (∀ w2 pv2, At w B b s pv w2 st2 pv2 → Calls Tryz.prog 100 #[.pointer (some ⟨b, 0, none⟩)] w2 fun e w' => e = .returned (.int .i64 (lasP st2)) ∧ w' = w2) := fun w2 pv2 k => last_any k.rm k.gd.p
          have HM : Hid (∀ w2 pv2, At w B b s pv w2 st2 pv2 → Calls Tryz.prog 102 #[.pointer (some ⟨b, 0, none⟩), .agg #[.int .i64 3, .int .i64 (lasP st2), .int .i64 (-1), .int .i64 0, .int .i64 0, .string ⟨#[]⟩]] w2 (Rp w2 B b s pv2 (putP (3, lasP st2, -1, v0) st2))) := fun w2 pv2 k => put_any k.rm k.gd.p (3, lasP st2, -1, v0)
          have HQ1 : Hid (∀ e w', Rp w B b s pv (nxt s st) e w' → _) := fun e w' hR => H0.out.ok hR q1 g1.1
          have HQ2 : Hid (∀ w1 pv1 e w', At w B b s pv w1 st1 pv1 → Rp w1 B b s pv1 (opd s n st1) e w' → _) := fun w1 pv1 e w' k hR => k.ok hR q2 g2.1
          clear q1 q2 HE HE1 ih hno
          rcases q3 : putP (3, lasP st2, -1, v0) st2 with st3 | ⟨er, ea⟩ | _
          · have g3 := put_gr g2.1 q3
            have HQ3 : Hid (∀ w2 pv2 e w', At w B b s pv w2 st2 pv2 → Rp w2 B b s pv2 (putP (3, lasP st2, -1, v0) st2) e w' → e = .returned (.tuple #[]) ∧ Hid (Rp w B b s pv (aftM s (n + 1) m st) (.returned (.tuple #[])) w')) := fun w2 pv2 e w' k hR => by
              obtain ⟨rfl, pv3, k3⟩ := k.ok hR q3 g3.1
              exact ⟨rfl, k3.out.fin (HE2.out.trans q3)⟩
            generalize lasP st2 = la at *
            clear q3 HE2 H0 hd g1 g2 g3 
            go_enter Tryz.func124, Tryz.ntmps124
            go_wp2_with (first
              | (go_at_call 47; refine CA.mono ?_; rintro e w1 hR; obtain ⟨he, pv1, K1⟩ := HQ1.out e w1 hR; subst he; have CO := HO.out w1 pv1 K1.out; clear hR CA)
              | (go_at_call 99; refine CO.mono ?_; rintro e w2 hR; obtain ⟨he, pv2, K2⟩ := HQ2.out w1 pv1 e w2 K1.out hR; subst he; have CL := HL.out w2 pv2 K2.out; have CM := HM.out w2 pv2 K2.out; clear hR CO)
              | (go_at_call 100; refine CL.mono ?_; rintro e w3 ⟨rfl, hw3⟩; rw [hw3]; clear hw3 CL)
              | (go_at_call 102; refine CM.mono ?_; rintro e w4 hR; obtain ⟨he, HX⟩ := HQ3.out w2 pv2 e w4 K2.out hR; subst he; clear hR CM))
            first | go_end0 | refine bodyPost_ret (results_none rfl _ _ _) rfl ?_
            exact HX.out
          · have HQ3 : Hid (∀ w2 pv2 e w', At w B b s pv w2 st2 pv2 → Rp w2 B b s pv2 (putP (3, lasP st2, -1, v0) st2) e w' → _) := fun w2 pv2 e w' k hR => k.no hR q3 (HE2.out.trans q3)
            generalize lasP st2 = la at *
            clear q3 HE2 H0 hd g1 g2 
            go_enter Tryz.func124, Tryz.ntmps124
            go_wp2_with (first
              | (go_at_call 47; refine CA.mono ?_; rintro e w1 hR; obtain ⟨he, pv1, K1⟩ := HQ1.out e w1 hR; subst he; have CO := HO.out w1 pv1 K1.out; clear hR CA)
              | (go_at_call 99; refine CO.mono ?_; rintro e w2 hR; obtain ⟨he, pv2, K2⟩ := HQ2.out w1 pv1 e w2 K1.out hR; subst he; have CL := HL.out w2 pv2 K2.out; have CM := HM.out w2 pv2 K2.out; clear hR CO)
              | (go_at_call 100; refine CL.mono ?_; rintro e w3 ⟨rfl, hw3⟩; rw [hw3]; clear hw3 CL)
              | (go_at_call 102; refine CM.mono ?_; rintro e w4 hR; obtain ⟨he, HX⟩ := HQ3.out w2 pv2 e w4 K2.out hR; subst he; clear hR CM))
            exact ⟨rfl, HX.out⟩
          · exact absurd q3 put_out
        · have HO : Hid (∀ w1 pv1, At w B b s pv w1 st1 pv1 → Calls Tryz.prog 99 #[.pointer (some ⟨b, 0, none⟩)] w1 (Rp w1 B b s pv1 (opd s n st1))) := fun w1 pv1 k => ih.opd st1 pv1 w1 k.rm k.gx k.gd (by rw [q2]; simp)
          have HQ1 : Hid (∀ e w', Rp w B b s pv (nxt s st) e w' → _) := fun e w' hR => H0.out.ok hR q1 g1.1
          have HQ2 : Hid (∀ w1 pv1 e w', At w B b s pv w1 st1 pv1 → Rp w1 B b s pv1 (opd s n st1) e w' → _) := fun w1 pv1 e w' k hR => k.no hR q2 (HE1.out.trans (bind_no q2))
          clear q1 q2 HE HE1 ih hno H0 hd g1 
          go_enter Tryz.func124, Tryz.ntmps124
          go_wp2_with (first
            | (go_at_call 47; refine CA.mono ?_; rintro e w1 hR; obtain ⟨he, pv1, K1⟩ := HQ1.out e w1 hR; subst he; have CO := HO.out w1 pv1 K1.out; clear hR CA)
            | (go_at_call 99; refine CO.mono ?_; rintro e w2 hR; obtain ⟨he, HX⟩ := HQ2.out w1 pv1 e w2 K1.out hR; subst he; clear hR CO))
          exact ⟨rfl, HX.out⟩
        · exact absurd (HE1.out.trans (bind_outs q2)) hno
      · have HQ1 : Hid (∀ e w', Rp w B b s pv (nxt s st) e w' → _) := fun e w' hR => H0.out.no hR q1 (HE.out.trans (bind_no q1))
        clear q1 HE ih hno H0 hd 
        go_enter Tryz.func124, Tryz.ntmps124
        go_wp2_with (first
          | (go_at_call 47; refine CA.mono ?_; rintro e w1 hR; obtain ⟨he, HX⟩ := HQ1.out e w1 hR; subst he; clear hR CA))
        exact ⟨rfl, HX.out⟩
      · exact absurd q1 nxt_out
    · rw [beq_eq_false_iff_ne.2 m2] at e2
      have HE : Hid (aftM s (n + 1) m st = .no 10 st.now.at') := HE0.out.trans ((if_neg m1).trans (if_neg m2))
      clear m1 m2 HE0 ih hno H0 hd
      go_enter Tryz.func124, Tryz.ntmps124
      go_wp2_with (go_at_call 49; refine CF.mono ?_; rintro e w2 ⟨rfl, hw2⟩; rw [hw2]; clear hw2)
      rw [HE.out]
      exact ⟨rfl, rfl, Ch.refl _ _⟩

set_option maxHeartbeats 2000000 in
set_option maxRecDepth 100000 in
theorem aftW_step (hs : s.length ≤ 512) {n : Nat} (ih : Al s B b n) (m : List UInt8) (st : Rs) (pv : Value) (w : World) (h : Rm w B b s st pv) (hg : Gx B w) (hd : Gd s st) (hno : aftW s (n + 1) m st ≠ .out) : Calls Tryz.prog 123 #[.pointer (some ⟨b, 0, none⟩), .string (S m)] w (Rp w B b s pv (aftW s (n + 1) m st)) := by
  have H0 : Hid (At w B b s pv w st pv) := ⟨h, Lf.refl _ _ _, hd, hg⟩
  have hbl := h.ob.lt
  have e1 := cmpL m [97, 110, 100]
  have e2 := cmpL m [111, 114]
  have e3 := cmpL m [116, 114, 117, 101]
  have e4 := cmpL m [102, 97, 108, 115, 101]
  have e5 := cmpL m [110, 111, 116]
  have e6 := cmpL m [108, 101, 110]
  have CF := refuse_any h
  have HE0 : Hid (aftW s (n + 1) m st = if m = [97, 110, 100] ∨ m = [111, 114] then .no 10 st.now.at' else if m = [116, 114, 117, 101] ∨ m = [102, 97, 108, 115, 101] then leaf s 1 (truV (m == [116, 114, 117, 101])) st else if m = [110, 111, 116] then (nxt s st).bind fun st => (opd s n st).bind fun st => putP (4, lasP st, -1, v0) st else if m = [108, 101, 110] then (nxt s st).bind fun st => (inBr s n st).bind fun st => putP (5, lasP st, -1, v0) st else leaf s 2 (3, 0, m) st) := by show _ = _; rw [aftW]
  clear h hg
  by_cases m1 : m = [97, 110, 100] ∨ m = [111, 114]
  · have HE : Hid (aftW s (n + 1) m st = .no 10 st.now.at') := HE0.out.trans (if_pos m1)
    have hc : (m == [97, 110, 100]) = true ∨ ((m == [97, 110, 100]) = false ∧ (m == [111, 114]) = true) := by
      rcases m1 with rfl | rfl
      · exact .inl rfl
      · exact .inr ⟨rfl, rfl⟩
    clear m1 HE0 ih hno H0 hd e3 e4 e5 e6
    rcases hc with hc | ⟨hc, hc2⟩
    · rw [hc] at e1
      clear hc
      go_enter Tryz.func123, Tryz.ntmps123
      go_wp2_with (go_at_call 49; refine CF.mono ?_; rintro e w2 ⟨rfl, hw2⟩; rw [hw2]; clear hw2)
      rw [HE.out]
      exact ⟨rfl, rfl, Ch.refl _ _⟩
    · rw [hc] at e1
      rw [hc2] at e2
      clear hc hc2
      go_enter Tryz.func123, Tryz.ntmps123
      go_wp2_with (go_at_call 49; refine CF.mono ?_; rintro e w2 ⟨rfl, hw2⟩; rw [hw2]; clear hw2)
      rw [HE.out]
      exact ⟨rfl, rfl, Ch.refl _ _⟩
  · rw [beq_eq_false_iff_ne.2 (fun e => m1 (.inl e))] at e1
    rw [beq_eq_false_iff_ne.2 (fun e => m1 (.inr e))] at e2
    have HE1 : Hid _ := HE0.out.trans (if_neg m1)
    clear m1 HE0 CF
    by_cases m2 : m = [116, 114, 117, 101] ∨ m = [102, 97, 108, 115, 101]
    · have HE : Hid (aftW s (n + 1) m st = leaf s 1 (truV (m == [116, 114, 117, 101])) st) := HE1.out.trans (if_pos m2)
      clear HE1 e5 e6
      have HT : Hid (∀ x : Bool, _) := fun x => truth_v x
      have hc : ((m == [116, 114, 117, 101]) = true) ∨ ((m == [116, 114, 117, 101]) = false ∧ (m == [102, 97, 108, 115, 101]) = true) := by
        rcases m2 with rfl | rfl
        · exact .inl rfl
        · exact .inr ⟨rfl, rfl⟩
      clear m2
      rcases hc with hc | ⟨hc, hc2⟩
      · rw [hc] at e3 HE
        have CT := HT.out true
        have HLE : Hid (∀ w1, Below w.heap.size w w1 → Calls Tryz.prog 122 #[.pointer (some ⟨b, 0, none⟩), .int .i64 1, .agg #[.int .i64 2, .int .i64 1, .string ⟨#[]⟩]] w1 (Rp w1 B b s pv (leaf s 1 (truV true) st))) := fun w1 hb => leaf_any (H0.out.rm.below hb) (H0.out.rm.gx2 H0.out.gx (Lf.of_below b pv hb)) hs hd 1 (truV true)
        clear hc HT
        simp only [if_true] at CT
        rcases q1 : leaf s 1 (truV true) st with st1 | ⟨er, ea⟩ | _
        · have HQ1 : Hid (∀ w1 e w', Below w.heap.size w w1 → Rp w1 B b s pv (leaf s 1 (truV true) st) e w' → e = .returned (.tuple #[]) ∧ Hid (Rp w B b s pv (aftW s (n + 1) m st) (.returned (.tuple #[])) w')) := fun w1 e w' hb hR => by
            have h1 := Rp.liftG (Lf.of_below b pv hb) hR
            obtain ⟨rfl, -⟩ := hR.good q1
            rw [HE.out]
            exact ⟨rfl, h1⟩
          clear q1 HE ih hno H0 hd
          go_enter Tryz.func123, Tryz.ntmps123
          go_wp2_with (first
            | (go_at_call 72; refine (CT _).mono ?_; rintro e w1 ⟨rfl, b1⟩; (have B1 : Hid (Below w.heap.size w w1) := b1); have CA := HLE.out w1 b1; clear b1 CT)
            | (go_at_call 122; refine CA.mono ?_; rintro e w2 hR; obtain ⟨he, HX⟩ := HQ1.out w1 e w2 B1.out hR; subst he; clear hR CA))
          first | go_end0 | refine bodyPost_ret (results_none rfl _ _ _) rfl ?_
          exact HX.out
        · have HQ1 : Hid (∀ w1 e w', Below w.heap.size w w1 → Rp w1 B b s pv (leaf s 1 (truV true) st) e w' → e = .panicked (wrg er ea) ∧ Hid (Rp w B b s pv (aftW s (n + 1) m st) (.panicked (wrg er ea)) w')) := fun w1 e w' hb hR => by
            have h1 := Rp.liftG (Lf.of_below b pv hb) hR
            obtain ⟨rfl, -⟩ := hR.bad q1
            rw [HE.out]
            exact ⟨rfl, h1⟩
          clear q1 HE ih hno H0 hd
          go_enter Tryz.func123, Tryz.ntmps123
          go_wp2_with (first
            | (go_at_call 72; refine (CT _).mono ?_; rintro e w1 ⟨rfl, b1⟩; (have B1 : Hid (Below w.heap.size w w1) := b1); have CA := HLE.out w1 b1; clear b1 CT)
            | (go_at_call 122; refine CA.mono ?_; rintro e w2 hR; obtain ⟨he, HX⟩ := HQ1.out w1 e w2 B1.out hR; subst he; clear hR CA))
          exact ⟨rfl, HX.out⟩
        · exact absurd (HE.out.trans q1) hno
      · rw [hc] at e3 HE
        rw [hc2] at e4
        have CT := HT.out false
        have HLE : Hid (∀ w1, Below w.heap.size w w1 → Calls Tryz.prog 122 #[.pointer (some ⟨b, 0, none⟩), .int .i64 1, .agg #[.int .i64 2, .int .i64 0, .string ⟨#[]⟩]] w1 (Rp w1 B b s pv (leaf s 1 (truV false) st))) := fun w1 hb => leaf_any (H0.out.rm.below hb) (H0.out.rm.gx2 H0.out.gx (Lf.of_below b pv hb)) hs hd 1 (truV false)
        clear hc hc2 HT
        simp only [Bool.false_eq_true, if_false] at CT
        rcases q1 : leaf s 1 (truV false) st with st1 | ⟨er, ea⟩ | _
        · have HQ1 : Hid (∀ w1 e w', Below w.heap.size w w1 → Rp w1 B b s pv (leaf s 1 (truV false) st) e w' → e = .returned (.tuple #[]) ∧ Hid (Rp w B b s pv (aftW s (n + 1) m st) (.returned (.tuple #[])) w')) := fun w1 e w' hb hR => by
            have h1 := Rp.liftG (Lf.of_below b pv hb) hR
            obtain ⟨rfl, -⟩ := hR.good q1
            rw [HE.out]
            exact ⟨rfl, h1⟩
          clear q1 HE ih hno H0 hd
          go_enter Tryz.func123, Tryz.ntmps123
          go_wp2_with (first
            | (go_at_call 72; refine (CT _).mono ?_; rintro e w1 ⟨rfl, b1⟩; (have B1 : Hid (Below w.heap.size w w1) := b1); have CA := HLE.out w1 b1; clear b1 CT)
            | (go_at_call 122; refine CA.mono ?_; rintro e w2 hR; obtain ⟨he, HX⟩ := HQ1.out w1 e w2 B1.out hR; subst he; clear hR CA))
          first | go_end0 | refine bodyPost_ret (results_none rfl _ _ _) rfl ?_
          exact HX.out
        · have HQ1 : Hid (∀ w1 e w', Below w.heap.size w w1 → Rp w1 B b s pv (leaf s 1 (truV false) st) e w' → e = .panicked (wrg er ea) ∧ Hid (Rp w B b s pv (aftW s (n + 1) m st) (.panicked (wrg er ea)) w')) := fun w1 e w' hb hR => by
            have h1 := Rp.liftG (Lf.of_below b pv hb) hR
            obtain ⟨rfl, -⟩ := hR.bad q1
            rw [HE.out]
            exact ⟨rfl, h1⟩
          clear q1 HE ih hno H0 hd
          go_enter Tryz.func123, Tryz.ntmps123
          go_wp2_with (first
            | (go_at_call 72; refine (CT _).mono ?_; rintro e w1 ⟨rfl, b1⟩; (have B1 : Hid (Below w.heap.size w w1) := b1); have CA := HLE.out w1 b1; clear b1 CT)
            | (go_at_call 122; refine CA.mono ?_; rintro e w2 hR; obtain ⟨he, HX⟩ := HQ1.out w1 e w2 B1.out hR; subst he; clear hR CA))
          exact ⟨rfl, HX.out⟩
        · exact absurd (HE.out.trans q1) hno
    · rw [beq_eq_false_iff_ne.2 (fun e => m2 (.inl e))] at e3
      rw [beq_eq_false_iff_ne.2 (fun e => m2 (.inr e))] at e4
      have HE2 : Hid _ := HE1.out.trans (if_neg m2)
      clear m2 HE1
      by_cases m3 : m = [110, 111, 116]
      · rw [beq_iff_eq.2 m3] at e5
        have HE : Hid (aftW s (n + 1) m st = (nxt s st).bind fun st => (opd s n st).bind fun st => putP (4, lasP st, -1, v0) st) := HE2.out.trans (if_pos m3)
        clear m3 HE2 e6
        have CA := next_any H0.out.rm H0.out.gx hs hd.b
        rcases q1 : nxt s st with st1 | ⟨er, ea⟩ | _
        · have g1 := nxt_gr hd q1
          have HE1 : Hid (aftW s (n + 1) m st = (opd s n st1).bind fun st => putP (4, lasP st, -1, v0) st) := HE.out.trans (bind_eq q1)
          rcases q2 : opd s n st1 with st2 | ⟨er, ea⟩ | _
          · have g2 := (gr_all s n).2.2.1 _ _ g1.1 q2
            have HE2 : Hid (aftW s (n + 1) m st = putP (4, lasP st2, -1, v0) st2) := HE1.out.trans (bind_eq q2)
            have HO : Hid (∀ w1 pv1, At w B b s pv w1 st1 pv1 → Calls Tryz.prog 99 #[.pointer (some ⟨b, 0, none⟩)] w1 (Rp w1 B b s pv1 (opd s n st1))) := fun w1 pv1 k => ih.opd st1 pv1 w1 k.rm k.gx k.gd (by rw [q2]; simp)
            have HL : Hid (∀ w2 pv2, At w B b s pv w2 st2 pv2 → Calls Tryz.prog 100 #[.pointer (some ⟨b, 0, none⟩)] w2 fun e w' => e = .returned (.int .i64 (lasP st2)) ∧ w' = w2) := fun w2 pv2 k => last_any k.rm k.gd.p
            have HM : Hid (∀ w2 pv2, At w B b s pv w2 st2 pv2 → Calls Tryz.prog 102 #[.pointer (some ⟨b, 0, none⟩), .agg #[.int .i64 4, .int .i64 (lasP st2), .int .i64 (-1), .int .i64 0, .int .i64 0, .string ⟨#[]⟩]] w2 (Rp w2 B b s pv2 (putP (4, lasP st2, -1, v0) st2))) := fun w2 pv2 k => put_any k.rm k.gd.p (4, lasP st2, -1, v0)
            have HQ1 : Hid (∀ e w', Rp w B b s pv (nxt s st) e w' → _) := fun e w' hR => H0.out.ok hR q1 g1.1
            have HQ2 : Hid (∀ w1 pv1 e w', At w B b s pv w1 st1 pv1 → Rp w1 B b s pv1 (opd s n st1) e w' → _) := fun w1 pv1 e w' k hR => k.ok hR q2 g2.1
            clear q1 q2 HE HE1 ih hno
            rcases q3 : putP (4, lasP st2, -1, v0) st2 with st3 | ⟨er, ea⟩ | _
            · have g3 := put_gr g2.1 q3
              have HQ3 : Hid (∀ w2 pv2 e w', At w B b s pv w2 st2 pv2 → Rp w2 B b s pv2 (putP (4, lasP st2, -1, v0) st2) e w' → e = .returned (.tuple #[]) ∧ Hid (Rp w B b s pv (aftW s (n + 1) m st) (.returned (.tuple #[])) w')) := fun w2 pv2 e w' k hR => by
                obtain ⟨rfl, pv3, k3⟩ := k.ok hR q3 g3.1
                exact ⟨rfl, k3.out.fin (HE2.out.trans q3)⟩
              generalize lasP st2 = la at *
              clear q3 HE2 H0 hd g1 g2 g3 
              go_enter Tryz.func123, Tryz.ntmps123
              go_wp2_with (first
                | (go_at_call 47; refine CA.mono ?_; rintro e w1 hR; obtain ⟨he, pv1, K1⟩ := HQ1.out e w1 hR; subst he; have CO := HO.out w1 pv1 K1.out; clear hR CA)
                | (go_at_call 99; refine CO.mono ?_; rintro e w2 hR; obtain ⟨he, pv2, K2⟩ := HQ2.out w1 pv1 e w2 K1.out hR; subst he; have CL := HL.out w2 pv2 K2.out; have CM := HM.out w2 pv2 K2.out; clear hR CO)
                | (go_at_call 100; refine CL.mono ?_; rintro e w3 ⟨rfl, hw3⟩; rw [hw3]; clear hw3 CL)
                | (go_at_call 102; refine CM.mono ?_; rintro e w4 hR; obtain ⟨he, HX⟩ := HQ3.out w2 pv2 e w4 K2.out hR; subst he; clear hR CM))
              first | go_end0 | refine bodyPost_ret (results_none rfl _ _ _) rfl ?_
              exact HX.out
            · have HQ3 : Hid (∀ w2 pv2 e w', At w B b s pv w2 st2 pv2 → Rp w2 B b s pv2 (putP (4, lasP st2, -1, v0) st2) e w' → _) := fun w2 pv2 e w' k hR => k.no hR q3 (HE2.out.trans q3)
              generalize lasP st2 = la at *
              clear q3 HE2 H0 hd g1 g2 
              go_enter Tryz.func123, Tryz.ntmps123
              go_wp2_with (first
                | (go_at_call 47; refine CA.mono ?_; rintro e w1 hR; obtain ⟨he, pv1, K1⟩ := HQ1.out e w1 hR; subst he; have CO := HO.out w1 pv1 K1.out; clear hR CA)
                | (go_at_call 99; refine CO.mono ?_; rintro e w2 hR; obtain ⟨he, pv2, K2⟩ := HQ2.out w1 pv1 e w2 K1.out hR; subst he; have CL := HL.out w2 pv2 K2.out; have CM := HM.out w2 pv2 K2.out; clear hR CO)
                | (go_at_call 100; refine CL.mono ?_; rintro e w3 ⟨rfl, hw3⟩; rw [hw3]; clear hw3 CL)
                | (go_at_call 102; refine CM.mono ?_; rintro e w4 hR; obtain ⟨he, HX⟩ := HQ3.out w2 pv2 e w4 K2.out hR; subst he; clear hR CM))
              exact ⟨rfl, HX.out⟩
            · exact absurd q3 put_out
          · have HO : Hid (∀ w1 pv1, At w B b s pv w1 st1 pv1 → Calls Tryz.prog 99 #[.pointer (some ⟨b, 0, none⟩)] w1 (Rp w1 B b s pv1 (opd s n st1))) := fun w1 pv1 k => ih.opd st1 pv1 w1 k.rm k.gx k.gd (by rw [q2]; simp)
            have HQ1 : Hid (∀ e w', Rp w B b s pv (nxt s st) e w' → _) := fun e w' hR => H0.out.ok hR q1 g1.1
            have HQ2 : Hid (∀ w1 pv1 e w', At w B b s pv w1 st1 pv1 → Rp w1 B b s pv1 (opd s n st1) e w' → _) := fun w1 pv1 e w' k hR => k.no hR q2 (HE1.out.trans (bind_no q2))
            clear q1 q2 HE HE1 ih hno H0 hd g1 
            go_enter Tryz.func123, Tryz.ntmps123
            go_wp2_with (first
              | (go_at_call 47; refine CA.mono ?_; rintro e w1 hR; obtain ⟨he, pv1, K1⟩ := HQ1.out e w1 hR; subst he; have CO := HO.out w1 pv1 K1.out; clear hR CA)
              | (go_at_call 99; refine CO.mono ?_; rintro e w2 hR; obtain ⟨he, HX⟩ := HQ2.out w1 pv1 e w2 K1.out hR; subst he; clear hR CO))
            exact ⟨rfl, HX.out⟩
          · exact absurd (HE1.out.trans (bind_outs q2)) hno
        · have HQ1 : Hid (∀ e w', Rp w B b s pv (nxt s st) e w' → _) := fun e w' hR => H0.out.no hR q1 (HE.out.trans (bind_no q1))
          clear q1 HE ih hno H0 hd 
          go_enter Tryz.func123, Tryz.ntmps123
          go_wp2_with (first
            | (go_at_call 47; refine CA.mono ?_; rintro e w1 hR; obtain ⟨he, HX⟩ := HQ1.out e w1 hR; subst he; clear hR CA))
          exact ⟨rfl, HX.out⟩
        · exact absurd q1 nxt_out
      · rw [beq_eq_false_iff_ne.2 m3] at e5
        have HE3 : Hid _ := HE2.out.trans (if_neg m3)
        clear m3 HE2
        by_cases m4 : m = [108, 101, 110]
        · rw [beq_iff_eq.2 m4] at e6
          have HE : Hid (aftW s (n + 1) m st = (nxt s st).bind fun st => (inBr s n st).bind fun st => putP (5, lasP st, -1, v0) st) := HE3.out.trans (if_pos m4)
          clear m4 HE3
          have CA := next_any H0.out.rm H0.out.gx hs hd.b
          rcases q1 : nxt s st with st1 | ⟨er, ea⟩ | _
          · have g1 := nxt_gr hd q1
            have HE1 : Hid (aftW s (n + 1) m st = (inBr s n st1).bind fun st => putP (5, lasP st, -1, v0) st) := HE.out.trans (bind_eq q1)
            rcases q2 : inBr s n st1 with st2 | ⟨er, ea⟩ | _
            · have g2 := (gr_all s n).2.2.2.2.2 _ _ g1.1 q2
              have HE2 : Hid (aftW s (n + 1) m st = putP (5, lasP st2, -1, v0) st2) := HE1.out.trans (bind_eq q2)
              have HO : Hid (∀ w1 pv1, At w B b s pv w1 st1 pv1 → Calls Tryz.prog 142 #[.pointer (some ⟨b, 0, none⟩)] w1 (Rp w1 B b s pv1 (inBr s n st1))) := fun w1 pv1 k => ih.inBr st1 pv1 w1 k.rm k.gx k.gd (by rw [q2]; simp)
              have HL : Hid (∀ w2 pv2, At w B b s pv w2 st2 pv2 → Calls Tryz.prog 100 #[.pointer (some ⟨b, 0, none⟩)] w2 fun e w' => e = .returned (.int .i64 (lasP st2)) ∧ w' = w2) := fun w2 pv2 k => last_any k.rm k.gd.p
              have HM : Hid (∀ w2 pv2, At w B b s pv w2 st2 pv2 → Calls Tryz.prog 102 #[.pointer (some ⟨b, 0, none⟩), .agg #[.int .i64 5, .int .i64 (lasP st2), .int .i64 (-1), .int .i64 0, .int .i64 0, .string ⟨#[]⟩]] w2 (Rp w2 B b s pv2 (putP (5, lasP st2, -1, v0) st2))) := fun w2 pv2 k => put_any k.rm k.gd.p (5, lasP st2, -1, v0)
              have HQ1 : Hid (∀ e w', Rp w B b s pv (nxt s st) e w' → _) := fun e w' hR => H0.out.ok hR q1 g1.1
              have HQ2 : Hid (∀ w1 pv1 e w', At w B b s pv w1 st1 pv1 → Rp w1 B b s pv1 (inBr s n st1) e w' → _) := fun w1 pv1 e w' k hR => k.ok hR q2 g2.1
              clear q1 q2 HE HE1 ih hno
              rcases q3 : putP (5, lasP st2, -1, v0) st2 with st3 | ⟨er, ea⟩ | _
              · have g3 := put_gr g2.1 q3
                have HQ3 : Hid (∀ w2 pv2 e w', At w B b s pv w2 st2 pv2 → Rp w2 B b s pv2 (putP (5, lasP st2, -1, v0) st2) e w' → e = .returned (.tuple #[]) ∧ Hid (Rp w B b s pv (aftW s (n + 1) m st) (.returned (.tuple #[])) w')) := fun w2 pv2 e w' k hR => by
                  obtain ⟨rfl, pv3, k3⟩ := k.ok hR q3 g3.1
                  exact ⟨rfl, k3.out.fin (HE2.out.trans q3)⟩
                generalize lasP st2 = la at *
                clear q3 HE2 H0 hd g1 g2 g3 
                go_enter Tryz.func123, Tryz.ntmps123
                go_wp2_with (first
                  | (go_at_call 47; refine CA.mono ?_; rintro e w1 hR; obtain ⟨he, pv1, K1⟩ := HQ1.out e w1 hR; subst he; have CO := HO.out w1 pv1 K1.out; clear hR CA)
                  | (go_at_call 142; refine CO.mono ?_; rintro e w2 hR; obtain ⟨he, pv2, K2⟩ := HQ2.out w1 pv1 e w2 K1.out hR; subst he; have CL := HL.out w2 pv2 K2.out; have CM := HM.out w2 pv2 K2.out; clear hR CO)
                  | (go_at_call 100; refine CL.mono ?_; rintro e w3 ⟨rfl, hw3⟩; rw [hw3]; clear hw3 CL)
                  | (go_at_call 102; refine CM.mono ?_; rintro e w4 hR; obtain ⟨he, HX⟩ := HQ3.out w2 pv2 e w4 K2.out hR; subst he; clear hR CM))
                first | go_end0 | refine bodyPost_ret (results_none rfl _ _ _) rfl ?_
                exact HX.out
              · have HQ3 : Hid (∀ w2 pv2 e w', At w B b s pv w2 st2 pv2 → Rp w2 B b s pv2 (putP (5, lasP st2, -1, v0) st2) e w' → _) := fun w2 pv2 e w' k hR => k.no hR q3 (HE2.out.trans q3)
                generalize lasP st2 = la at *
                clear q3 HE2 H0 hd g1 g2 
                go_enter Tryz.func123, Tryz.ntmps123
                go_wp2_with (first
                  | (go_at_call 47; refine CA.mono ?_; rintro e w1 hR; obtain ⟨he, pv1, K1⟩ := HQ1.out e w1 hR; subst he; have CO := HO.out w1 pv1 K1.out; clear hR CA)
                  | (go_at_call 142; refine CO.mono ?_; rintro e w2 hR; obtain ⟨he, pv2, K2⟩ := HQ2.out w1 pv1 e w2 K1.out hR; subst he; have CL := HL.out w2 pv2 K2.out; have CM := HM.out w2 pv2 K2.out; clear hR CO)
                  | (go_at_call 100; refine CL.mono ?_; rintro e w3 ⟨rfl, hw3⟩; rw [hw3]; clear hw3 CL)
                  | (go_at_call 102; refine CM.mono ?_; rintro e w4 hR; obtain ⟨he, HX⟩ := HQ3.out w2 pv2 e w4 K2.out hR; subst he; clear hR CM))
                exact ⟨rfl, HX.out⟩
              · exact absurd q3 put_out
            · have HO : Hid (∀ w1 pv1, At w B b s pv w1 st1 pv1 → Calls Tryz.prog 142 #[.pointer (some ⟨b, 0, none⟩)] w1 (Rp w1 B b s pv1 (inBr s n st1))) := fun w1 pv1 k => ih.inBr st1 pv1 w1 k.rm k.gx k.gd (by rw [q2]; simp)
              have HQ1 : Hid (∀ e w', Rp w B b s pv (nxt s st) e w' → _) := fun e w' hR => H0.out.ok hR q1 g1.1
              have HQ2 : Hid (∀ w1 pv1 e w', At w B b s pv w1 st1 pv1 → Rp w1 B b s pv1 (inBr s n st1) e w' → _) := fun w1 pv1 e w' k hR => k.no hR q2 (HE1.out.trans (bind_no q2))
              clear q1 q2 HE HE1 ih hno H0 hd g1 
              go_enter Tryz.func123, Tryz.ntmps123
              go_wp2_with (first
                | (go_at_call 47; refine CA.mono ?_; rintro e w1 hR; obtain ⟨he, pv1, K1⟩ := HQ1.out e w1 hR; subst he; have CO := HO.out w1 pv1 K1.out; clear hR CA)
                | (go_at_call 142; refine CO.mono ?_; rintro e w2 hR; obtain ⟨he, HX⟩ := HQ2.out w1 pv1 e w2 K1.out hR; subst he; clear hR CO))
              exact ⟨rfl, HX.out⟩
            · exact absurd (HE1.out.trans (bind_outs q2)) hno
          · have HQ1 : Hid (∀ e w', Rp w B b s pv (nxt s st) e w' → _) := fun e w' hR => H0.out.no hR q1 (HE.out.trans (bind_no q1))
            clear q1 HE ih hno H0 hd 
            go_enter Tryz.func123, Tryz.ntmps123
            go_wp2_with (first
              | (go_at_call 47; refine CA.mono ?_; rintro e w1 hR; obtain ⟨he, HX⟩ := HQ1.out e w1 hR; subst he; clear hR CA))
            exact ⟨rfl, HX.out⟩
          · exact absurd q1 nxt_out
        · rw [beq_eq_false_iff_ne.2 m4] at e6
          have HE : Hid (aftW s (n + 1) m st = leaf s 2 (3, 0, m) st) := HE3.out.trans (if_neg m4)
          clear m4 HE3
          have CT := text_v m
          have HLE : Hid (∀ w1, Below w.heap.size w w1 → Calls Tryz.prog 122 #[.pointer (some ⟨b, 0, none⟩), .int .i64 2, .agg #[.int .i64 3, .int .i64 0, .string (S m)]] w1 (Rp w1 B b s pv (leaf s 2 (3, 0, m) st))) := fun w1 hb => leaf_any (H0.out.rm.below hb) (H0.out.rm.gx2 H0.out.gx (Lf.of_below b pv hb)) hs hd 2 (3, 0, m)
          rcases q1 : leaf s 2 (3, 0, m) st with st1 | ⟨er, ea⟩ | _
          · have HQ1 : Hid (∀ w1 e w', Below w.heap.size w w1 → Rp w1 B b s pv (leaf s 2 (3, 0, m) st) e w' → e = .returned (.tuple #[]) ∧ Hid (Rp w B b s pv (aftW s (n + 1) m st) (.returned (.tuple #[])) w')) := fun w1 e w' hb hR => by
              have h1 := Rp.liftG (Lf.of_below b pv hb) hR
              obtain ⟨rfl, -⟩ := hR.good q1
              rw [HE.out]
              exact ⟨rfl, h1⟩
            clear q1 HE ih hno H0 hd
            go_enter Tryz.func123, Tryz.ntmps123
            go_wp2_with (first
              | (go_at_call 112; refine (CT _).mono ?_; rintro e w1 ⟨rfl, b1⟩; (have B1 : Hid (Below w.heap.size w w1) := b1); have CA := HLE.out w1 b1; clear b1 CT)
              | (go_at_call 122; refine CA.mono ?_; rintro e w2 hR; obtain ⟨he, HX⟩ := HQ1.out w1 e w2 B1.out hR; subst he; clear hR CA))
            first | go_end0 | refine bodyPost_ret (results_none rfl _ _ _) rfl ?_
            exact HX.out
          · have HQ1 : Hid (∀ w1 e w', Below w.heap.size w w1 → Rp w1 B b s pv (leaf s 2 (3, 0, m) st) e w' → e = .panicked (wrg er ea) ∧ Hid (Rp w B b s pv (aftW s (n + 1) m st) (.panicked (wrg er ea)) w')) := fun w1 e w' hb hR => by
              have h1 := Rp.liftG (Lf.of_below b pv hb) hR
              obtain ⟨rfl, -⟩ := hR.bad q1
              rw [HE.out]
              exact ⟨rfl, h1⟩
            clear q1 HE ih hno H0 hd
            go_enter Tryz.func123, Tryz.ntmps123
            go_wp2_with (first
              | (go_at_call 112; refine (CT _).mono ?_; rintro e w1 ⟨rfl, b1⟩; (have B1 : Hid (Below w.heap.size w w1) := b1); have CA := HLE.out w1 b1; clear b1 CT)
              | (go_at_call 122; refine CA.mono ?_; rintro e w2 hR; obtain ⟨he, HX⟩ := HQ1.out w1 e w2 B1.out hR; subst he; clear hR CA))
            exact ⟨rfl, HX.out⟩
          · exact absurd (HE.out.trans q1) hno
end Go.Proofs.YtpbfdaijnndilaaGreatDoor.x10
namespace Go.Proofs.YtpbfdaijnndilaaGreatDoor.x10
open Go.RowKit Go.Shelf Go.Sort
open Go.Lib hiding intOf

variable {s : List UInt8} {B b : Nat}

theorem Rm.nestTo {w : World} {st : Rs} {pv : Value} (h : Rm w B b s st pv) {v : Value} (k : Nat) (hv : v = .int .i64 (k : Int)) : Rm (w.setCell ⟨b, 8, none⟩ v) B b s { st with nest := k } pv ∧ Lf w b pv (w.setCell ⟨b, 8, none⟩ v) pv := by
  subst hv
  have c2 : Ch (fun x => x = b) w (w.setCell ⟨b, 8, none⟩ (.int .i64 (k : Int))) := (Ch.refl _ w).setCell _ _ (fun _ => rfl)
  exact ⟨⟨h.ob.set 8 _, c2.row h.row (fun x hx e => h.ap (e ▸ hx)), h.ap, h.lo⟩, ⟨c2.mono (fun _ _ e => .inl e), fun x hx => .inl hx⟩⟩
theorem At.nestTo {w w1 : World} {pv pv1 : Value} {st1 : Rs} (h : At w B b s pv w1 st1 pv1) {v : Value} (k : Nat) (hv : v = .int .i64 (k : Int)) (hk : k ≤ 20) : At w B b s pv (w1.setCell ⟨b, 8, none⟩ v) { st1 with nest := k } pv1 := by
  obtain ⟨h1, h2⟩ := h.rm.nestTo k hv
  exact h.step h1 h2 ⟨h.gd.b, h.gd.p, hk⟩
theorem At.c8 {w w1 : World} {pv pv1 : Value} {st1 : Rs} (h : At w B b s pv w1 st1 pv1) {k : Nat} (hk : st1.nest = k + 1) : w1.cell? ⟨b, 8, none⟩ = some (.int .i64 ((k : Int) + 1)) := by
  have c8 : w1.cell? ⟨b, 8, none⟩ = some (.int .i64 (st1.nest : Int)) := h.rm.ob.c 8
  rw [c8, hk]
  simp
/-- what operand leaves, once what it begins with was read -/
theorem opd_end {w w1 w' : World} {pv pv1 : Value} {st st1 st2 : Rs} {n k j : Nat} {r : Ot Rs} {e : Ending} (H1 : At w B b s pv w1 st1 pv1) (hn : st1.nest = k + 1) (HE : opd s (n + 1) st = r.bind fun st2 => .ok { st2 with nest := st2.nest - 1 }) (hR : Rp w1 B b s pv1 r e w') (q1 : r = .ok st2) (g1 : Gr s j st1 st2) :
    e = .returned (.tuple #[]) ∧ w'.cell? ⟨b, 8, none⟩ = some (.int .i64 ((k : Int) + 1)) ∧ w'.frozen? ⟨b, 8, none⟩ = false ∧ b < w'.heap.size ∧ Hid (Rp w B b s pv (opd s (n + 1) st) (.returned (.tuple #[])) (w'.setCell ⟨b, 8, none⟩ (.int .i64 (k : Int)))) := by
  obtain ⟨rfl, pv2, K2⟩ := H1.ok hR q1 g1.1
  have h2 : st2.nest = k + 1 := g1.2.1.trans hn
  have h20 := g1.1.n
  refine ⟨rfl, K2.out.c8 h2, K2.out.rm.ob.f 8, K2.out.rm.ob.lt, (K2.out.nestTo k rfl (by omega)).fin ?_⟩
  rw [HE, q1]
  show Ot.ok _ = _
  rw [h2]
  rfl
theorem opd_bad {w w1 w' : World} {pv pv1 : Value} {st st1 : Rs} {n : Nat} {r : Ot Rs} {er ea : Int} {e : Ending} (H1 : At w B b s pv w1 st1 pv1) (HE : opd s (n + 1) st = r.bind fun st2 => .ok { st2 with nest := st2.nest - 1 }) (hR : Rp w1 B b s pv1 r e w') (q1 : r = .no er ea) :
    e = .panicked (wrg er ea) ∧ Hid (Rp w B b s pv (opd s (n + 1) st) (.panicked (wrg er ea)) w') := H1.no hR q1 (HE.trans (bind_no q1))

set_option maxHeartbeats 2000000 in
set_option maxRecDepth 100000 in
theorem opd_step (hs : s.length ≤ 512) {n : Nat} (ih : Al s B b n) (st : Rs) (pv : Value) (w : World) (h : Rm w B b s st pv) (hg : Gx B w) (hd : Gd s st) (hno : opd s (n + 1) st ≠ .out) : Calls Tryz.prog 99 #[.pointer (some ⟨b, 0, none⟩)] w (Rp w B b s pv (opd s (n + 1) st)) := by
  have H0 : Hid (At w B b s pv w st pv) := ⟨h, Lf.refl _ _ _, hd, hg⟩
  have hbl := h.ob.lt
  obtain ⟨k, hk⟩ : ∃ k, st.nest = k := ⟨_, rfl⟩
  have hk20 := hd.n
  rw [hk] at hk20
  have c1 : w.cell? ⟨b, 1, none⟩ = some (.int .i64 st.now.kind) := h.ob.c 1
  have c2 : w.cell? ⟨b, 2, none⟩ = some (.int .i64 (st.now.at' : Int)) := h.ob.c 2
  have c3 : w.cell? ⟨b, 3, none⟩ = some (.string (S st.now.s)) := h.ob.c 3
  have c4 : w.cell? ⟨b, 4, none⟩ = some (.int .i64 st.now.v.1) := h.ob.c 4
  have c5 : w.cell? ⟨b, 5, none⟩ = some (.int .i64 st.now.v.2.1) := h.ob.c 5
  have c6 : w.cell? ⟨b, 6, none⟩ = some (.string (S st.now.v.2.2)) := h.ob.c 6
  have c8 : w.cell? ⟨b, 8, none⟩ = some (.int .i64 (st.nest : Int)) := h.ob.c 8
  have f8 := h.ob.f 8
  rw [hk] at c8
  have HE0 : Hid (opd s (n + 1) st = if st.nest = 20 then .no 13 st.now.at' else (if st.now.kind = 1 ∨ st.now.kind = 2 then leaf s 1 st.now.v { st with nest := st.nest + 1 } else if st.now.kind = 3 then aftW s n st.now.s { st with nest := st.nest + 1 } else if st.now.kind = 4 then aftM s n st.now.s { st with nest := st.nest + 1 } else .no 10 st.now.at').bind fun st2 => .ok { st2 with nest := st2.nest - 1 }) := by show _ = _; rw [opd]
  by_cases k20 : k = 20
  · have HE : Hid (opd s (n + 1) st = .no 13 st.now.at') := HE0.out.trans (if_pos (hk.trans k20))
    have hb : ((k : Int) == 20) = true := by rw [k20]; rfl
    have CG := giveUp_any 13 st.now.at'
    clear HE0 ih hno H0 hd h hg k20 c1 c3 c4 c5 c6 f8 hk
    go_enter Tryz.func99, Tryz.ntmps99
    go_wp2_with (go_at_call 65; refine (CG _).mono ?_; rintro e w1 ⟨rfl, hw1⟩; rw [hw1]; clear hw1)
    rw [HE.out]
    exact ⟨rfl, rfl, Ch.refl _ _⟩
  have hb : ((k : Int) == 20) = false := by simp; omega
  have hw1 : IntKind.i64.wrap ((k : Int) + 1) = (k : Int) + 1 := by rw [IntKind.wrap_i64]; omega
  have hw2 : IntKind.i64.wrap ((k : Int) + 1 - 1) = (k : Int) := by rw [IntKind.wrap_i64]; omega
  have HE1 : Hid _ := HE0.out.trans (if_neg (fun e => k20 (hk.symm.trans e)))
  have H1 : Hid (At w B b s pv (w.setCell ⟨b, 8, none⟩ (.int .i64 ((k : Int) + 1))) { st with nest := st.nest + 1 } pv) := by
    have := H0.out.nestTo (v := .int .i64 ((k : Int) + 1)) (st.nest + 1) (by rw [hk]; simp) (by omega)
    exact this
  have hn1 : ({ st with nest := st.nest + 1 } : Rs).nest = k + 1 := by show st.nest + 1 = k + 1; rw [hk]
  have h1d := H1.out.gd
  clear HE0 h hg H0 hd k20
  by_cases k1 : st.now.kind = 1
  · have HE : Hid (opd s (n + 1) st = (leaf s 1 st.now.v { st with nest := st.nest + 1 }).bind fun st2 => .ok { st2 with nest := st2.nest - 1 }) := HE1.out.trans (by rw [if_pos (Or.inl k1)])
    have b1 : (st.now.kind == 1) = true := beq_iff_eq.2 k1
    clear HE1 k1
    have CA : Calls Tryz.prog 122 #[.pointer (some ⟨b, 0, none⟩), .int .i64 1, .agg #[.int .i64 st.now.v.1, .int .i64 st.now.v.2.1, .string (S st.now.v.2.2)]] (w.setCell ⟨b, 8, none⟩ (.int .i64 ((k : Int) + 1))) (Rp (w.setCell ⟨b, 8, none⟩ (.int .i64 ((k : Int) + 1))) B b s pv (leaf s 1 st.now.v { st with nest := st.nest + 1 })) := leaf_any H1.out.rm H1.out.gx hs h1d 1 st.now.v
    rcases q1 : leaf s 1 st.now.v { st with nest := st.nest + 1 } with st2 | ⟨er, ea⟩ | _
    · have g1 := leaf_gr h1d q1
      have HQ1 : Hid (∀ e w', Rp (w.setCell ⟨b, 8, none⟩ (.int .i64 ((k : Int) + 1))) B b s pv (leaf s 1 st.now.v { st with nest := st.nest + 1 }) e w' → _) := fun e w' hR => opd_end H1.out hn1 HE.out hR q1 g1
      clear q1 g1 HE H1 ih hno h1d hn1 hk
      go_enter Tryz.func99, Tryz.ntmps99
      go_wp2_with (go_at_call 122; refine CA.mono ?_; rintro e w2 hR; obtain ⟨he, d8, e8, hl2, HX⟩ := HQ1.out e w2 hR; subst he; clear hR CA)
      first | go_end0 | refine bodyPost_ret (results_none rfl _ _ _) rfl ?_
      exact HX.out
    · have HQ1 : Hid (∀ e w', Rp (w.setCell ⟨b, 8, none⟩ (.int .i64 ((k : Int) + 1))) B b s pv (leaf s 1 st.now.v { st with nest := st.nest + 1 }) e w' → _) := fun e w' hR => opd_bad H1.out HE.out hR q1
      clear q1 HE H1 ih hno h1d hn1 hk
      go_enter Tryz.func99, Tryz.ntmps99
      go_wp2_with (go_at_call 122; refine CA.mono ?_; rintro e w2 hR; obtain ⟨he, HX⟩ := HQ1.out e w2 hR; subst he; clear hR CA)
      exact ⟨rfl, HX.out⟩
    · exact absurd (HE.out.trans (bind_outs q1)) hno
  by_cases k2 : st.now.kind = 2
  · have HE : Hid (opd s (n + 1) st = (leaf s 1 st.now.v { st with nest := st.nest + 1 }).bind fun st2 => .ok { st2 with nest := st2.nest - 1 }) := HE1.out.trans (by rw [if_pos (Or.inr k2)])
    have b1 : (st.now.kind == 1) = false := beq_eq_false_iff_ne.2 k1
    have b2 : (st.now.kind == 2) = true := beq_iff_eq.2 k2
    clear HE1 k1 k2
    have CA : Calls Tryz.prog 122 #[.pointer (some ⟨b, 0, none⟩), .int .i64 1, .agg #[.int .i64 st.now.v.1, .int .i64 st.now.v.2.1, .string (S st.now.v.2.2)]] (w.setCell ⟨b, 8, none⟩ (.int .i64 ((k : Int) + 1))) (Rp (w.setCell ⟨b, 8, none⟩ (.int .i64 ((k : Int) + 1))) B b s pv (leaf s 1 st.now.v { st with nest := st.nest + 1 })) := leaf_any H1.out.rm H1.out.gx hs h1d 1 st.now.v
    rcases q1 : leaf s 1 st.now.v { st with nest := st.nest + 1 } with st2 | ⟨er, ea⟩ | _
    · have g1 := leaf_gr h1d q1
      have HQ1 : Hid (∀ e w', Rp (w.setCell ⟨b, 8, none⟩ (.int .i64 ((k : Int) + 1))) B b s pv (leaf s 1 st.now.v { st with nest := st.nest + 1 }) e w' → _) := fun e w' hR => opd_end H1.out hn1 HE.out hR q1 g1
      clear q1 g1 HE H1 ih hno h1d hn1 hk
      go_enter Tryz.func99, Tryz.ntmps99
      go_wp2_with (go_at_call 122; refine CA.mono ?_; rintro e w2 hR; obtain ⟨he, d8, e8, hl2, HX⟩ := HQ1.out e w2 hR; subst he; clear hR CA)
      first | go_end0 | refine bodyPost_ret (results_none rfl _ _ _) rfl ?_
      exact HX.out
    · have HQ1 : Hid (∀ e w', Rp (w.setCell ⟨b, 8, none⟩ (.int .i64 ((k : Int) + 1))) B b s pv (leaf s 1 st.now.v { st with nest := st.nest + 1 }) e w' → _) := fun e w' hR => opd_bad H1.out HE.out hR q1
      clear q1 HE H1 ih hno h1d hn1 hk
      go_enter Tryz.func99, Tryz.ntmps99
      go_wp2_with (go_at_call 122; refine CA.mono ?_; rintro e w2 hR; obtain ⟨he, HX⟩ := HQ1.out e w2 hR; subst he; clear hR CA)
      exact ⟨rfl, HX.out⟩
    · exact absurd (HE.out.trans (bind_outs q1)) hno
  have b1 : (st.now.kind == 1) = false := beq_eq_false_iff_ne.2 k1
  have b2 : (st.now.kind == 2) = false := beq_eq_false_iff_ne.2 k2
  have k12 : ¬ (st.now.kind = 1 ∨ st.now.kind = 2) := fun e => e.elim k1 k2
  clear k1 k2
  by_cases k3 : st.now.kind = 3
  · have HE : Hid (opd s (n + 1) st = (aftW s n st.now.s { st with nest := st.nest + 1 }).bind fun st2 => .ok { st2 with nest := st2.nest - 1 }) := HE1.out.trans (by rw [if_neg k12, if_pos k3])
    have b3 : (st.now.kind == 3) = true := beq_iff_eq.2 k3
    clear HE1 k3 k12
    have CA : Calls Tryz.prog 123 #[.pointer (some ⟨b, 0, none⟩), .string (S st.now.s)] (w.setCell ⟨b, 8, none⟩ (.int .i64 ((k : Int) + 1))) (Rp (w.setCell ⟨b, 8, none⟩ (.int .i64 ((k : Int) + 1))) B b s pv (aftW s n st.now.s { st with nest := st.nest + 1 })) := ih.aftW st.now.s _ pv _ H1.out.rm H1.out.gx h1d (fun e => hno (HE.out.trans (bind_outs e)))
    rcases q1 : aftW s n st.now.s { st with nest := st.nest + 1 } with st2 | ⟨er, ea⟩ | _
    · have g1 := (gr_all s n).2.2.2.1 _ _ _ h1d q1
      have HQ1 : Hid (∀ e w', Rp (w.setCell ⟨b, 8, none⟩ (.int .i64 ((k : Int) + 1))) B b s pv (aftW s n st.now.s { st with nest := st.nest + 1 }) e w' → _) := fun e w' hR => opd_end H1.out hn1 HE.out hR q1 g1
      clear q1 g1 HE H1 ih hno h1d hn1 hk
      go_enter Tryz.func99, Tryz.ntmps99
      go_wp2_with (go_at_call 123; refine CA.mono ?_; rintro e w2 hR; obtain ⟨he, d8, e8, hl2, HX⟩ := HQ1.out e w2 hR; subst he; clear hR CA)
      first | go_end0 | refine bodyPost_ret (results_none rfl _ _ _) rfl ?_
      exact HX.out
    · have HQ1 : Hid (∀ e w', Rp (w.setCell ⟨b, 8, none⟩ (.int .i64 ((k : Int) + 1))) B b s pv (aftW s n st.now.s { st with nest := st.nest + 1 }) e w' → _) := fun e w' hR => opd_bad H1.out HE.out hR q1
      clear q1 HE H1 ih hno h1d hn1 hk
      go_enter Tryz.func99, Tryz.ntmps99
      go_wp2_with (go_at_call 123; refine CA.mono ?_; rintro e w2 hR; obtain ⟨he, HX⟩ := HQ1.out e w2 hR; subst he; clear hR CA)
      exact ⟨rfl, HX.out⟩
    · exact absurd (HE.out.trans (bind_outs q1)) hno
  have b3 : (st.now.kind == 3) = false := beq_eq_false_iff_ne.2 k3
  by_cases k4 : st.now.kind = 4
  · have HE : Hid (opd s (n + 1) st = (aftM s n st.now.s { st with nest := st.nest + 1 }).bind fun st2 => .ok { st2 with nest := st2.nest - 1 }) := HE1.out.trans (by rw [if_neg k12, if_neg k3, if_pos k4])
    have b4 : (st.now.kind == 4) = true := beq_iff_eq.2 k4
    clear HE1 k3 k4 k12
    have CA : Calls Tryz.prog 124 #[.pointer (some ⟨b, 0, none⟩), .string (S st.now.s)] (w.setCell ⟨b, 8, none⟩ (.int .i64 ((k : Int) + 1))) (Rp (w.setCell ⟨b, 8, none⟩ (.int .i64 ((k : Int) + 1))) B b s pv (aftM s n st.now.s { st with nest := st.nest + 1 })) := ih.aftM st.now.s _ pv _ H1.out.rm H1.out.gx h1d (fun e => hno (HE.out.trans (bind_outs e)))
    rcases q1 : aftM s n st.now.s { st with nest := st.nest + 1 } with st2 | ⟨er, ea⟩ | _
    · have g1 := (gr_all s n).2.2.2.2.1 _ _ _ h1d q1
      have HQ1 : Hid (∀ e w', Rp (w.setCell ⟨b, 8, none⟩ (.int .i64 ((k : Int) + 1))) B b s pv (aftM s n st.now.s { st with nest := st.nest + 1 }) e w' → _) := fun e w' hR => opd_end H1.out hn1 HE.out hR q1 g1
      clear q1 g1 HE H1 ih hno h1d hn1 hk
      go_enter Tryz.func99, Tryz.ntmps99
      go_wp2_with (go_at_call 124; refine CA.mono ?_; rintro e w2 hR; obtain ⟨he, d8, e8, hl2, HX⟩ := HQ1.out e w2 hR; subst he; clear hR CA)
      first | go_end0 | refine bodyPost_ret (results_none rfl _ _ _) rfl ?_
      exact HX.out
    · have HQ1 : Hid (∀ e w', Rp (w.setCell ⟨b, 8, none⟩ (.int .i64 ((k : Int) + 1))) B b s pv (aftM s n st.now.s { st with nest := st.nest + 1 }) e w' → _) := fun e w' hR => opd_bad H1.out HE.out hR q1
      clear q1 HE H1 ih hno h1d hn1 hk
      go_enter Tryz.func99, Tryz.ntmps99
      go_wp2_with (go_at_call 124; refine CA.mono ?_; rintro e w2 hR; obtain ⟨he, HX⟩ := HQ1.out e w2 hR; subst he; clear hR CA)
      exact ⟨rfl, HX.out⟩
    · exact absurd (HE.out.trans (bind_outs q1)) hno
  have b4 : (st.now.kind == 4) = false := beq_eq_false_iff_ne.2 k4
  have HE : Hid (opd s (n + 1) st = .no 10 st.now.at') := HE1.out.trans (by rw [if_neg k12, if_neg k3, if_neg k4]; rfl)
  have CF := refuse_any H1.out.rm
  have HLF : Hid (Lf w b pv (w.setCell ⟨b, 8, none⟩ (.int .i64 ((k : Int) + 1))) pv) := H1.out.lf
  clear HE1 k3 k4 k12 H1 ih hno h1d hn1 hk
  go_enter Tryz.func99, Tryz.ntmps99
  go_wp2_with (go_at_call 49; refine CF.mono ?_; rintro e w2 ⟨rfl, hw3⟩; rw [hw3]; clear hw3)
  rw [HE.out]
  exact ⟨rfl, rfl, HLF.out.ch⟩
end Go.Proofs.YtpbfdaijnndilaaGreatDoor.x10

/-
  Package expr's reader: operands behind operators.
-/
import Derived.Test.YtpbfdaijnndilaaGreatDoorGExprB
namespace Go.Proofs.YtpbfdaijnndilaaGreatDoor.x10
open Go.RowKit Go.Shelf Go.Sort
open Go.Lib hiding intOf

variable {s : List UInt8} {B b : Nat}
theorem twoH_lt (t : List UInt8) : twoH t < 19 := by
  unfold twoH
  split
  · rename_i i hi
    have := List.mem_of_find?_eq_some hi
    rw [List.mem_range] at this
    omega
  · omega
theorem lvl_le (k : Nat) (h : k < 19) : 0 ≤ lvl k ∧ lvl k ≤ 6 := by
  have key : ∀ i : Fin 19, 0 ≤ lvl i.1 ∧ lvl i.1 ≤ 6 := by decide
  exact key ⟨k, h⟩
theorem more_out {lv a : Int} {st : Rs} : more s 0 lv a st = .out := by rw [more]
theorem more_end {n : Nat} {lv a : Int} {st : Rs} (h : twoH st.now.s = 0 ∨ lvl (twoH st.now.s) < lv) : more s (n + 1) lv a st = .ok st := by rw [more]; exact if_pos h
theorem more_go {n : Nat} {lv a : Int} {st : Rs} (h : ¬ (twoH st.now.s = 0 ∨ lvl (twoH st.now.s) < lv)) : more s (n + 1) lv a st = (nxt s st).bind fun st1 => (opds s n (lvl (twoH st.now.s) + 1) st1).bind fun st2 => (putP ((twoH st.now.s : Nat), a, lasP st2, v0) st2).bind fun st3 => more s n lv (lasP st3) st3 := by rw [more]; exact if_neg h

set_option maxHeartbeats 2000000 in
set_option maxRecDepth 100000 in
theorem opds_step (hs : s.length ≤ 512) {n : Nat} (ih : ∀ m, m ≤ n → Al s B b m) (lv : Int) (st : Rs) (pv : Value) (w : World) (h : Rm w B b s st pv) (hg : Gx B w) (hd : Gd s st) (hno : opds s (n + 1) lv st ≠ .out) (_hlv : -10 ≤ lv ∧ lv ≤ 100) : Calls Tryz.prog 48 #[.pointer (some ⟨b, 0, none⟩), .int .i64 lv] w (Rp w B b s pv (opds s (n + 1) lv st)) := by
  have H0 : Hid (At w B b s pv w st pv) := ⟨h, Lf.refl _ _ _, hd, hg⟩
  have hbl := h.ob.lt
  have HE : Hid (opds s (n + 1) lv st = (opd s n st).bind fun st => more s n lv (lasP st) st) := by show _ = _; rw [opds]
  have CA := (ih n (Nat.le_refl _)).opd st pv w h hg hd (fun e => hno (HE.out.trans (bind_outs e)))
  obtain ⟨RES, hRES⟩ : ∃ R, opds s (n + 1) lv st = R := ⟨_, rfl⟩
  rw [hRES] at HE hno ⊢
  clear h hg hRES
  rcases q1 : opd s n st with st1 | ⟨er, ea⟩ | _
  · have g1 := (gr_all s n).2.2.1 _ _ hd q1
    have HE1 : Hid (RES = more s n lv (lasP st1) st1) := HE.out.trans (bind_eq q1)
    have HL : Hid (∀ w2 pv2, At w B b s pv w2 st1 pv2 → Calls Tryz.prog 100 #[.pointer (some ⟨b, 0, none⟩)] w2 fun e w' => e = .returned (.int .i64 (lasP st1)) ∧ w' = w2) := fun w2 pv2 k => last_any k.rm k.gd.p
    have HQ1 : Hid (∀ e w', Rp w B b s pv (opd s n st) e w' → _) := fun e w' hR => H0.out.ok hR q1 g1.1
    have HI : Hid (∀ m, m ≤ n → Al s B b m) := ih
    have HNO : Hid (RES ≠ .out) := hno
    clear ih q1 g1 HE H0 hd hno
    generalize lasP st1 = la at *
    go_enter Tryz.func48, Tryz.ntmps48
    go_wp2_with (first
      | (go_at_call 99; refine CA.mono ?_; rintro e w1 hR; obtain ⟨he, pv1, K1⟩ := HQ1.out e w1 hR; subst he; have CL := HL.out w1 pv1 K1.out; clear hR CA)
      | (go_at_call 100; refine CL.mono ?_; rintro e w3 ⟨rfl, hw3⟩; rw [hw3]; clear hw3 CL))
    go_loopw [4] (fun v4 wr => ∃ (k : Nat) (a : Int) (st2 : Rs) (pv2 : Value), k ≤ n ∧ v4 = .int .i64 a ∧ Hid (more s k lv a st2 = RES) ∧ Hid (At w B b s pv wr st2 pv2)) (fun _ wr => 200 - plen wr b)
    case atStart => exact ⟨n, la, st1, pv1, Nat.le_refl _, rfl, HE1.out.symm, K1⟩
    case round =>
      clear HL HQ1 K1 HE1
      obtain ⟨k, a, st2, pv2, hk, rfl, HM, HA⟩ := hrel
      cases k with
      | zero => exact absurd (HM.out.symm.trans more_out) HNO.out
      | succ m =>
        have hop := twoH_lt st2.now.s
        have CT := two_any HA.out.gx st2.now.s
        have c3 : wr.cell? ⟨b, 3, none⟩ = some (.string (S st2.now.s)) := HA.out.rm.ob.c 3
        have hbl2 := HA.out.rm.ob.lt
        have HGO := more_go (s := s) (n := m) (lv := lv) (a := a) (st := st2)
        have HEN := more_end (s := s) (n := m) (lv := lv) (a := a) (st := st2)
        obtain ⟨op, hop'⟩ : ∃ op, twoH st2.now.s = op := ⟨_, rfl⟩
        rw [hop'] at hop CT HGO HEN
        have hSG := (sg_cell HA.out.gx op hop).2
        have HSG : Hid (∀ w2 st3 pv3, At w B b s pv w2 st3 pv3 → w2.cell? ⟨0, op * 2 + 1, none⟩ = some (.int .i64 (lvl op))) := fun w2 st3 pv3 k => (sg_cell k.gx op hop).2
        have hL := lvl_le op hop
        obtain ⟨L, hL'⟩ : ∃ L, lvl op = L := ⟨_, rfl⟩
        rw [hL'] at hSG HSG HGO HEN hL
        clear hop' hL'
        have i1 : (0 : Int) ≤ (op : Int) := by omega
        have i2 : (op : Int) < 19 := by omega
        by_cases h0 : op = 0
        · have HX : Hid (Rp w B b s pv RES (.returned (.tuple #[])) wr) := HA.out.fin (HM.out.symm.trans (HEN (.inl h0)))
          have hb : ((op : Int) == 0) = true := by rw [h0]; rfl
          clear HGO HEN HM HA HI h0 HSG
          go_wp2_with (go_at_call 101; refine CT.mono ?_; rintro e w3 ⟨rfl, hw3⟩; rw [hw3]; clear hw3 CT)
          first | go_end0 | refine bodyPost_ret (results_none rfl _ _ _) rfl ?_
          exact HX.out
        have hb : ((op : Int) == 0) = false := by simp; omega
        by_cases hLv : L < lv
        · have HX : Hid (Rp w B b s pv RES (.returned (.tuple #[])) wr) := HA.out.fin (HM.out.symm.trans (HEN (.inr hLv)))
          clear HGO HEN HM HA HI h0 HSG
          go_wp2_with (go_at_call 101; refine CT.mono ?_; rintro e w3 ⟨rfl, hw3⟩; rw [hw3]; clear hw3 CT)
          first | go_end0 | refine bodyPost_ret (results_none rfl _ _ _) rfl ?_
          exact HX.out
        have hd2 := HA.out.gd
        have HG : Hid (RES = (nxt s st2).bind fun st3 => (opds s m (L + 1) st3).bind fun st4 => (putP ((op : Int), a, lasP st4, v0) st4).bind fun st5 => more s m lv (lasP st5) st5) := HM.out.symm.trans (HGO (fun e => e.elim h0 hLv))
        have CN := next_any HA.out.rm HA.out.gx hs hd2.b
        have hLw : IntKind.i64.wrap (L + 1) = L + 1 := by rw [IntKind.wrap_i64]; omega
        clear HGO HEN HM h0
        rcases q1 : nxt s st2 with st3 | ⟨er, ea⟩ | _
        · have g1 := nxt_gr hd2 q1
          have HG1 : Hid (RES = (opds s m (L + 1) st3).bind fun st4 => (putP ((op : Int), a, lasP st4, v0) st4).bind fun st5 => more s m lv (lasP st5) st5) := HG.out.trans (bind_eq q1)
          have HO : Hid (∀ w1 pv1, At w B b s pv w1 st3 pv1 → Calls Tryz.prog 48 #[.pointer (some ⟨b, 0, none⟩), .int .i64 (L + 1)] w1 (Rp w1 B b s pv1 (opds s m (L + 1) st3))) := fun w1 pv1 k => (HI.out m (by omega)).opds (L + 1) st3 pv1 w1 k.rm k.gx k.gd (fun e => HNO.out (HG1.out.trans (bind_outs e))) ⟨by omega, by omega⟩
          have HQ1 : Hid (∀ e w', Rp wr B b s pv2 (nxt s st2) e w' → _) := fun e w' hR => HA.out.ok hR q1 g1.1
          have hp2 := plen_at HA.out.rm
          have HHI : Hid (m + 1 ≤ n) := hk
          clear q1 HG HI HA hd2 hk
          rcases q2 : opds s m (L + 1) st3 with st4 | ⟨er, ea⟩ | _
          · have g2 := (gr_all s m).1 _ _ _ g1.1 q2
            have HG2 : Hid (RES = (putP ((op : Int), a, lasP st4, v0) st4).bind fun st5 => more s m lv (lasP st5) st5) := HG1.out.trans (bind_eq q2)
            have HL : Hid (∀ w2 pv2, At w B b s pv w2 st4 pv2 → Calls Tryz.prog 100 #[.pointer (some ⟨b, 0, none⟩)] w2 fun e w' => e = .returned (.int .i64 (lasP st4)) ∧ w' = w2) := fun w2 pv2 k => last_any k.rm k.gd.p
            have HM2 : Hid (∀ w2 pv2, At w B b s pv w2 st4 pv2 → Calls Tryz.prog 102 #[.pointer (some ⟨b, 0, none⟩), .agg #[.int .i64 (op : Int), .int .i64 a, .int .i64 (lasP st4), .int .i64 0, .int .i64 0, .string ⟨#[]⟩]] w2 (Rp w2 B b s pv2 (putP ((op : Int), a, lasP st4, v0) st4))) := fun w2 pv2 k => put_any k.rm k.gd.p ((op : Int), a, lasP st4, v0)
            have HQ2 : Hid (∀ w1 pv1 e w', At w B b s pv w1 st3 pv1 → Rp w1 B b s pv1 (opds s m (L + 1) st3) e w' → _) := fun w1 pv1 e w' k hR => k.ok hR q2 g2.1
            clear q2 HG1
            rcases q3 : putP ((op : Int), a, lasP st4, v0) st4 with st5 | ⟨er, ea⟩ | _
            · have g3 := put_gr g2.1 q3
              have HG3 : Hid (more s m lv (lasP st5) st5 = RES) := (HG2.out.trans (bind_eq q3)).symm
              have HL5 : Hid (∀ w2 pv2, At w B b s pv w2 st5 pv2 → Calls Tryz.prog 100 #[.pointer (some ⟨b, 0, none⟩)] w2 fun e w' => e = .returned (.int .i64 (lasP st5)) ∧ w' = w2) := fun w2 pv2 k => last_any k.rm k.gd.p
              have HQ3 : Hid (∀ w2 pv2 e w', At w B b s pv w2 st4 pv2 → Rp w2 B b s pv2 (putP ((op : Int), a, lasP st4, v0) st4) e w' → _) := fun w2 pv2 e w' k hR => k.ok hR q3 g3.1
              have HPL : Hid (∀ w7 pv7, At w B b s pv w7 st5 pv7 → 200 - plen w7 b < 200 - plen wr b) := fun w7 pv7 k => by
                rw [plen_at k.rm, hp2]
                have := g1.2.2; have := g2.2.2; have := g3.2.2; have := g3.1.p
                omega
              clear q3 HG2 g1 g2 g3 hp2
              generalize lasP st4 = la4 at *
              generalize lasP st5 = la5 at *
              go_wp2_with (first
                | (go_at_call 101; refine CT.mono ?_; rintro e w3 ⟨rfl, hw3⟩; rw [hw3]; clear hw3 CT)
                | (go_at_call 47; refine CN.mono ?_; rintro e w4 hR; obtain ⟨he, pv3, K3⟩ := HQ1.out e w4 hR; subst he; have hSG4 := HSG.out w4 _ pv3 K3.out; have CO := HO.out w4 pv3 K3.out; clear hR CN)
                | (go_at_call 48; refine CO.mono ?_; rintro e w5 hR; obtain ⟨he, pv4, K4⟩ := HQ2.out w4 pv3 e w5 K3.out hR; subst he; have CL := HL.out w5 pv4 K4.out; have CM := HM2.out w5 pv4 K4.out; clear hR CO)
                | (go_at_call 100; refine CL.mono ?_; rintro e w6 ⟨rfl, hw6⟩; rw [hw6]; clear hw6 CL)
                | (go_at_call 102; refine CM.mono ?_; rintro e w7 hR; obtain ⟨he, pv5, K5⟩ := HQ3.out w5 pv4 e w7 K4.out hR; subst he; have CL := HL5.out w7 pv5 K5.out; clear hR CM))
              go_roundw
              case rel => exact ⟨m, la5, st5, pv5, by have := HHI.out; omega, rfl, HG3, K5⟩
              case measure => exact HPL.out _ _ K5.out
            · have HQ3 : Hid (∀ w2 pv2 e w', At w B b s pv w2 st4 pv2 → Rp w2 B b s pv2 (putP ((op : Int), a, lasP st4, v0) st4) e w' → _) := fun w2 pv2 e w' k hR => k.no hR q3 (HG2.out.trans (bind_no q3))
              clear q3 HG2 g1 g2 hp2
              generalize lasP st4 = la4 at *
              go_wp2_with (first
                | (go_at_call 101; refine CT.mono ?_; rintro e w3 ⟨rfl, hw3⟩; rw [hw3]; clear hw3 CT)
                | (go_at_call 47; refine CN.mono ?_; rintro e w4 hR; obtain ⟨he, pv3, K3⟩ := HQ1.out e w4 hR; subst he; have hSG4 := HSG.out w4 _ pv3 K3.out; have CO := HO.out w4 pv3 K3.out; clear hR CN)
                | (go_at_call 48; refine CO.mono ?_; rintro e w5 hR; obtain ⟨he, pv4, K4⟩ := HQ2.out w4 pv3 e w5 K3.out hR; subst he; have CL := HL.out w5 pv4 K4.out; have CM := HM2.out w5 pv4 K4.out; clear hR CO)
                | (go_at_call 100; refine CL.mono ?_; rintro e w6 ⟨rfl, hw6⟩; rw [hw6]; clear hw6 CL)
                | (go_at_call 102; refine CM.mono ?_; rintro e w7 hR; obtain ⟨he, HX⟩ := HQ3.out w5 pv4 e w7 K4.out hR; subst he; clear hR CM))
              exact ⟨rfl, HX.out⟩
            · exact absurd q3 put_out
          · have HQ2 : Hid (∀ w1 pv1 e w', At w B b s pv w1 st3 pv1 → Rp w1 B b s pv1 (opds s m (L + 1) st3) e w' → _) := fun w1 pv1 e w' k hR => k.no hR q2 (HG1.out.trans (bind_no q2))
            clear q2 HG1 g1 hp2
            go_wp2_with (first
              | (go_at_call 101; refine CT.mono ?_; rintro e w3 ⟨rfl, hw3⟩; rw [hw3]; clear hw3 CT)
              | (go_at_call 47; refine CN.mono ?_; rintro e w4 hR; obtain ⟨he, pv3, K3⟩ := HQ1.out e w4 hR; subst he; have hSG4 := HSG.out w4 _ pv3 K3.out; have CO := HO.out w4 pv3 K3.out; clear hR CN)
              | (go_at_call 48; refine CO.mono ?_; rintro e w5 hR; obtain ⟨he, HX⟩ := HQ2.out w4 pv3 e w5 K3.out hR; subst he; clear hR CO))
            exact ⟨rfl, HX.out⟩
          · exact absurd (HG1.out.trans (bind_outs q2)) HNO.out
        · have HQ1 : Hid (∀ e w', Rp wr B b s pv2 (nxt s st2) e w' → _) := fun e w' hR => HA.out.no hR q1 (HG.out.trans (bind_no q1))
          clear q1 HG HI HA hd2 HSG
          go_wp2_with (first
            | (go_at_call 101; refine CT.mono ?_; rintro e w3 ⟨rfl, hw3⟩; rw [hw3]; clear hw3 CT)
            | (go_at_call 47; refine CN.mono ?_; rintro e w4 hR; obtain ⟨he, HX⟩ := HQ1.out e w4 hR; subst he; clear hR CN))
          exact ⟨rfl, HX.out⟩
        · exact absurd q1 nxt_out
  · have HQ1 : Hid (∀ e w', Rp w B b s pv (opd s n st) e w' → _) := fun e w' hR => H0.out.no hR q1 (HE.out.trans (bind_no q1))
    clear q1 HE ih hno H0 hd
    go_enter Tryz.func48, Tryz.ntmps48
    go_wp2_with (go_at_call 99; refine CA.mono ?_; rintro e w1 hR; obtain ⟨he, HX⟩ := HQ1.out e w1 hR; subst he; clear hR CA)
    exact ⟨rfl, HX.out⟩
  · exact absurd (HE.out.trans (bind_outs q1)) hno
end Go.Proofs.YtpbfdaijnndilaaGreatDoor.x10

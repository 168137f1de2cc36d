/-
  Package expr's reader: the whole text.
-/
import Derived.Test.YtpbfdaijnndilaaGreatDoorX10Ops
namespace Go.Proofs.YtpbfdaijnndilaaGreatDoor.x10
open Go.RowKit Go.Shelf Go.Sort
open Go.Lib hiding intOf

variable {s : List UInt8} {B b : Nat}
/-- the reader's calls, at whatever fuel -/
theorem rec_all (hs : s.length ≤ 512) (B b : Nat) : ∀ n m, m ≤ n → Al s B b m := by
  intro n
  induction n with
  | zero => intro m hm; obtain rfl : m = 0 := by omega
            exact Al.zero s B b
  | succ n ih =>
    intro m hm
    rcases Nat.lt_or_ge m (n + 1) with h | h
    · exact ih m (by omega)
    · obtain rfl : m = n + 1 := by omega
      have i := ih n (Nat.le_refl _)
      exact ⟨fun lv st pv w a b c d e => opds_step hs ih lv st pv w a b c d e, fun st pv w a b c d => opd_step hs i st pv w a b c d, fun wd st pv w a b c d => aftW_step hs i wd st pv w a b c d, fun wd st pv w a b c d => aftM_step hs i wd st pv w a b c d, fun st pv w a b c d => inBr_step hs i st pv w a b c d⟩
def st0 : Rs := ⟨⟨0, 0, [], v0⟩, 0, 0, []⟩
/-- how whole ends -/
def Wp (w : World) (B b : Nat) (pv : Value) (r : Ot (List P10)) (e : Ending) (w' : World) : Prop := match r with
  | .ok x => ∃ pv', e = .returned pv' ∧ w'.ownsRow B 68 6 pv' x.length (pcs x) ∧ Lf w b pv w' pv'
  | .no er a => e = .panicked (wrg er a) ∧ Ch (Fx b pv) w w'
  | .out => True
theorem At.wp {w w1 : World} {pv pv1 : Value} {st1 : Rs} (h : At w B b s pv w1 st1 pv1) {q : Ot (List P10)} (hq : q = .ok st1.parts) : Wp w B b pv q (.returned pv1) w1 := by
  rw [hq]
  exact ⟨pv1, rfl, h.rm.row, h.lf⟩
theorem At.wno {w w1 : World} {pv pv1 : Value} {st1 : Rs} (h : At w B b s pv w1 st1 pv1) {q : Ot (List P10)} {er ea : Int} (hq : q = .no er ea) : Wp w B b pv q (.panicked (wrg er ea)) w1 := by
  rw [hq]
  exact ⟨rfl, h.lf.ch⟩
theorem At.wbad {w w1 w' : World} {pv pv1 : Value} {st1 : Rs} {r : Ot Rs} {q : Ot (List P10)} {er ea : Int} {e : Ending} (h : At w B b s pv w1 st1 pv1) (hR : Rp w1 B b s pv1 r e w') (hr : r = .no er ea) (hq : q = .no er ea) : e = .panicked (wrg er ea) ∧ Hid (Wp w B b pv q (.panicked (wrg er ea)) w') := by
  have h1 := Rp.liftG h.lf hR
  obtain ⟨rfl, -⟩ := hR.bad hr
  rw [hr] at h1
  rw [hq]
  exact ⟨rfl, h1⟩

set_option maxHeartbeats 2000000 in
set_option maxRecDepth 100000 in
theorem whole_any (hs : s.length ≤ 512) (n : Nat) (pv : Value) (w : World) (h : Rm w B b s st0 pv) (hg : Gx B w) (hno : whol s n ≠ .out) : Calls Tryz.prog 23 #[.pointer (some ⟨b, 0, none⟩)] w (Wp w B b pv (whol s n)) := by
  have hd : Gd s st0 := ⟨Nat.zero_le _, Nat.zero_le _, Nat.zero_le _⟩
  have H0 : Hid (At w B b s pv w st0 pv) := ⟨h, Lf.refl _ _ _, hd, hg⟩
  have hbl := h.ob.lt
  have HE : Hid (whol s n = (nxt s st0).bind fun st => (opds s n 1 st).bind fun st => if st.now.kind = 0 then .ok st.parts else .no 10 st.now.at') := rfl
  have CA := next_any h hg hs hd.b
  have HI := rec_all hs B b n n (Nat.le_refl _)
  generalize whol s n = RES at *
  clear h hg
  rcases q1 : nxt s st0 with st1 | ⟨er, ea⟩ | _
  · have g1 := nxt_gr hd q1
    have HE1 : Hid (RES = (opds s n 1 st1).bind fun st => if st.now.kind = 0 then .ok st.parts else .no 10 st.now.at') := HE.out.trans (bind_eq q1)
    have HO : Hid (∀ w1 pv1, At w B b s pv w1 st1 pv1 → Calls Tryz.prog 48 #[.pointer (some ⟨b, 0, none⟩), .int .i64 1] w1 (Rp w1 B b s pv1 (opds s n 1 st1))) := fun w1 pv1 k => HI.opds 1 st1 pv1 w1 k.rm k.gx k.gd (fun e => hno (HE1.out.trans (bind_outs e))) ⟨by omega, by omega⟩
    have HQ1 : Hid (∀ e w', Rp w B b s pv (nxt s st0) e w' → _) := fun e w' hR => H0.out.ok hR q1 g1.1
    clear q1 HE HI
    rcases q2 : opds s n 1 st1 with st2 | ⟨er, ea⟩ | _
    · have g2 := (gr_all s n).1 _ _ _ g1.1 q2
      have HE2 : Hid (RES = if st2.now.kind = 0 then .ok st2.parts else .no 10 st2.now.at') := HE1.out.trans (bind_eq q2)
      have HQ2 : Hid (∀ w1 pv1 e w', At w B b s pv w1 st1 pv1 → Rp w1 B b s pv1 (opds s n 1 st1) e w' → e = .returned (.tuple #[]) ∧ ∃ pv2, w'.cell? ⟨b, 1, none⟩ = some (.int .i64 st2.now.kind) ∧ w'.cell? ⟨b, 9, none⟩ = some pv2 ∧ b < w'.heap.size ∧ (∃ pa pl pc, pv2 = .slice pa pl pc) ∧ Hid (At w B b s pv w' st2 pv2)) := fun w1 pv1 e w' k hR => by
        obtain ⟨rfl, pv2, K2⟩ := k.ok hR q2 g2.1
        obtain ⟨pa, pcap, hpv, -⟩ := row_slice K2.out.rm.row
        exact ⟨rfl, pv2, K2.out.rm.ob.c 1, K2.out.rm.ob.c 9, K2.out.rm.ob.lt, ⟨pa, _, pcap, hpv⟩, K2⟩
      clear q2 HE1 H0 hd g1 g2 hno
      by_cases k0 : st2.now.kind = 0
      · have HX : Hid (∀ w2 pv2, At w B b s pv w2 st2 pv2 → Wp w B b pv RES (.returned pv2) w2) := fun w2 pv2 k => k.wp (HE2.out.trans (if_pos k0))
        have hb : (st2.now.kind == 0) = true := beq_iff_eq.2 k0
        clear k0 HE2
        go_enter Tryz.func23, Tryz.ntmps23
        go_wp2_with (first
          | (go_at_call 47; refine CA.mono ?_; rintro e w1 hR; obtain ⟨he, pv1, K1⟩ := HQ1.out e w1 hR; subst he; have CO := HO.out w1 pv1 K1.out; clear hR CA)
          | (go_at_call 48; refine CO.mono ?_; rintro e w2 hR; obtain ⟨he, pv2, d1, d9, hl2, ⟨pa, pl, pc, hpv⟩, K2⟩ := HQ2.out w1 pv1 e w2 K1.out hR; subst he; subst hpv; clear hR CO))
        go_ret
        exact HX.out _ _ K2.out
      · have HX : Hid (∀ w2 pv2, At w B b s pv w2 st2 pv2 → Wp w B b pv RES (.panicked (wrg 10 st2.now.at')) w2) := fun w2 pv2 k => k.wno (HE2.out.trans (if_neg k0))
        have HRF : Hid (∀ w2 pv2, At w B b s pv w2 st2 pv2 → Calls Tryz.prog 49 #[.pointer (some ⟨b, 0, none⟩)] w2 fun e w' => e = .panicked (wrg 10 st2.now.at') ∧ w' = w2) := fun w2 pv2 k => refuse_any k.rm
        have hb : (st2.now.kind == 0) = false := beq_eq_false_iff_ne.2 k0
        clear k0 HE2
        go_enter Tryz.func23, Tryz.ntmps23
        go_wp2_with (first
          | (go_at_call 47; refine CA.mono ?_; rintro e w1 hR; obtain ⟨he, pv1, K1⟩ := HQ1.out e w1 hR; subst he; have CO := HO.out w1 pv1 K1.out; clear hR CA)
          | (go_at_call 48; refine CO.mono ?_; rintro e w2 hR; obtain ⟨he, pv2, d1, d9, hl2, ⟨pa, pl, pc, hpv⟩, K2⟩ := HQ2.out w1 pv1 e w2 K1.out hR; subst he; subst hpv; have CF := HRF.out w2 _ K2.out; clear hR CO)
          | (go_at_call 49; refine CF.mono ?_; rintro e w3 ⟨rfl, hw3⟩; rw [hw3]; clear hw3 CF))
        exact ⟨rfl, HX.out _ _ K2.out⟩
    · have HQ2 : Hid (∀ w1 pv1 e w', At w B b s pv w1 st1 pv1 → Rp w1 B b s pv1 (opds s n 1 st1) e w' → _) := fun w1 pv1 e w' k hR => k.wbad hR q2 (HE1.out.trans (bind_no q2))
      clear q2 HE1 H0 hd g1 hno
      go_enter Tryz.func23, Tryz.ntmps23
      go_wp2_with (first
        | (go_at_call 47; refine CA.mono ?_; rintro e w1 hR; obtain ⟨he, pv1, K1⟩ := HQ1.out e w1 hR; subst he; have CO := HO.out w1 pv1 K1.out; clear hR CA)
        | (go_at_call 48; refine CO.mono ?_; rintro e w2 hR; obtain ⟨he, HX⟩ := HQ2.out w1 pv1 e w2 K1.out hR; subst he; clear hR CO))
      exact ⟨rfl, HX.out⟩
    · exact absurd (HE1.out.trans (bind_outs q2)) hno
  · have HQ1 : Hid (∀ e w', Rp w B b s pv (nxt s st0) e w' → _) := fun e w' hR => H0.out.wbad hR q1 (HE.out.trans (bind_no q1))
    clear q1 HE HI H0 hd hno
    go_enter Tryz.func23, Tryz.ntmps23
    go_wp2_with (go_at_call 47; refine CA.mono ?_; rintro e w1 hR; obtain ⟨he, HX⟩ := HQ1.out e w1 hR; subst he; clear hR CA)
    exact ⟨rfl, HX.out⟩
  · exact absurd q1 nxt_out
end Go.Proofs.YtpbfdaijnndilaaGreatDoor.x10

/-
  Package expr's reader: operands.
-/
import Derived.Test.YtpdengbdnijcfaaGreatDoorX10Two
namespace Go.Proofs.YtpdengbdnijcfaaGreatDoor.x10
open Go.RowKit Go.Shelf Go.Sort
open Go.Lib hiding intOf

/-- what is known of a reader at a place in a call -/
structure At (w : World) (B b : Nat) (s : List UInt8) (pv : Value) (w1 : World) (st1 : Rs) (pv1 : Value) : Prop where
  rm : Rm w1 B b s st1 pv1
  lf : Lf w b pv w1 pv1
  gd : Gd s st1
  gx : Gx B w1
theorem At.step {w w1 w2 : World} {B b : Nat} {s : List UInt8} {pv pv1 pv2 : Value} {st1 st2 : Rs} (h : At w B b s pv w1 st1 pv1) (k : Rm w2 B b s st2 pv2) (l : Lf w1 b pv1 w2 pv2) (g : Gd s st2) : At w B b s pv w2 st2 pv2 :=
  ⟨k, h.lf.trans l, g, h.rm.gx2 h.gx l⟩
theorem At.same {w w1 w2 : World} {B b : Nat} {s : List UInt8} {pv pv1 : Value} {st1 : Rs} (h : At w B b s pv w1 st1 pv1) (hw : w2 = w1) : At w B b s pv w2 st1 pv1 := hw ▸ h
/-- a call's end, seen from further back -/
theorem At.ok {w w1 w' : World} {B b : Nat} {s : List UInt8} {pv pv1 : Value} {st1 st2 : Rs} {r : Ot Rs} {e : Ending} (h : At w B b s pv w1 st1 pv1) (hR : Rp w1 B b s pv1 r e w') (hr : r = .ok st2) (hg : Gd s st2) : e = .returned (.tuple #[]) ∧ ∃ pv2, Hid (At w B b s pv w' st2 pv2) := by
  obtain ⟨rfl, pv2, k1, k2⟩ := hR.good hr
  exact ⟨rfl, pv2, h.step k1 k2 hg⟩
theorem At.no {w w1 w' : World} {B b : Nat} {s : List UInt8} {pv pv1 : Value} {st1 : Rs} {r q : Ot Rs} {er ea : Int} {e : Ending} (h : At w B b s pv w1 st1 pv1) (hR : Rp w1 B b s pv1 r e w') (hr : r = .no er ea) (hq : q = .no er ea) : e = .panicked (wrg er ea) ∧ Hid (Rp w B b s pv q (.panicked (wrg er ea)) w') := by
  have h1 := Rp.liftG h.lf hR
  obtain ⟨rfl, -⟩ := hR.bad hr
  rw [hr] at h1
  rw [hq]
  exact ⟨rfl, h1⟩
theorem At.fin {w w1 : World} {B b : Nat} {s : List UInt8} {pv pv1 : Value} {st1 : Rs} {q : Ot Rs} (h : At w B b s pv w1 st1 pv1) (hq : q = .ok st1) : Rp w B b s pv q (.returned (.tuple #[])) w1 := by
  rw [hq]
  exact ⟨rfl, pv1, h.rm, h.lf⟩
def plen (w : World) (b : Nat) : Nat := match w.cell? ⟨b, 9, none⟩ with
  | some (.slice _ n _) => n
  | _ => 0
theorem plen_at {w : World} {B b : Nat} {s : List UInt8} {st : Rs} {pv : Value} (h : Rm w B b s st pv) : plen w b = st.parts.length := by
  obtain ⟨pa, pcap, rfl, -⟩ := row_slice h.row
  have c9 : w.cell? ⟨b, 9, none⟩ = some (.slice pa st.parts.length pcap) := h.ob.c 9
  unfold plen
  rw [c9]
/-- the contracts at a fuel -/
structure Al (s : List UInt8) (B b : Nat) (n : Nat) : Prop where
  opds : ∀ (lv : Int) (st : Rs) (pv : Value) (w : World), Rm w B b s st pv → Gx B w → Gd s st → x10.opds s n lv st ≠ .out → -10 ≤ lv ∧ lv ≤ 100 → Calls Tryz.prog 36 #[.pointer (some ⟨b, 0, none⟩), .int .i64 lv] w (Rp w B b s pv (x10.opds s n lv st))
  opd : ∀ (st : Rs) (pv : Value) (w : World), Rm w B b s st pv → Gx B w → Gd s st → x10.opd s n st ≠ .out → Calls Tryz.prog 82 #[.pointer (some ⟨b, 0, none⟩)] w (Rp w B b s pv (x10.opd s n st))
  aftW : ∀ (wd : List UInt8) (st : Rs) (pv : Value) (w : World), Rm w B b s st pv → Gx B w → Gd s st → x10.aftW s n wd st ≠ .out → Calls Tryz.prog 103 #[.pointer (some ⟨b, 0, none⟩), .string (S wd)] w (Rp w B b s pv (x10.aftW s n wd st))
  aftM : ∀ (wd : List UInt8) (st : Rs) (pv : Value) (w : World), Rm w B b s st pv → Gx B w → Gd s st → x10.aftM s n wd st ≠ .out → Calls Tryz.prog 104 #[.pointer (some ⟨b, 0, none⟩), .string (S wd)] w (Rp w B b s pv (x10.aftM s n wd st))
  inBr : ∀ (st : Rs) (pv : Value) (w : World), Rm w B b s st pv → Gx B w → Gd s st → x10.inBr s n st ≠ .out → Calls Tryz.prog 116 #[.pointer (some ⟨b, 0, none⟩)] w (Rp w B b s pv (x10.inBr s n st))
theorem Al.zero (s : List UInt8) (B b : Nat) : Al s B b 0 := ⟨fun _ _ _ _ _ _ _ h => absurd rfl h, fun _ _ _ _ _ _ h => absurd rfl h, fun _ _ _ _ _ _ _ h => absurd rfl h, fun _ _ _ _ _ _ _ h => absurd rfl h, fun _ _ _ _ _ _ h => absurd rfl h⟩
theorem bind_eq {α β : Type} {x : Ot α} {f : α → Ot β} {a : α} (h : x = .ok a) : x.bind f = f a := by rw [h]; rfl
theorem bind_no {α β : Type} {x : Ot α} {f : α → Ot β} {e a : Int} (h : x = .no e a) : x.bind f = .no e a := by rw [h]; rfl
theorem bind_outs {α β : Type} {x : Ot α} {f : α → Ot β} (h : x = .out) : x.bind f = .out := by rw [h]; rfl

variable {s : List UInt8} {B b : Nat}
set_option maxHeartbeats 1000000 in
set_option maxRecDepth 100000 in
theorem inBr_step (hs : s.length ≤ 512) {n : Nat} (ih : Al s B b n) (st : Rs) (pv : Value) (w : World) (h : Rm w B b s st pv) (hg : Gx B w) (hd : Gd s st) (hno : inBr s (n + 1) st ≠ .out) : Calls Tryz.prog 116 #[.pointer (some ⟨b, 0, none⟩)] w (Rp w B b s pv (inBr s (n + 1) st)) := by
  have H0 : Hid (At w B b s pv w st pv) := ⟨h, Lf.refl _ _ _, hd, hg⟩
  have hbl := h.ob.lt
  have CA := must_any h hg hs hd [40]
  have HE : Hid (inBr s (n + 1) st = (must s [40] st).bind fun st => (opds s n 1 st).bind fun st => must s [41] st) := by show _ = _; rw [inBr]
  clear h hg
  rcases q1 : must s [40] st with st1 | ⟨er, ea⟩ | _
  · have g1 := must_gr hd q1
    have HE1 : Hid (inBr s (n + 1) st = (opds s n 1 st1).bind fun st => must s [41] st) := HE.out.trans (bind_eq q1)
    rcases q2 : opds s n 1 st1 with st2 | ⟨er, ea⟩ | _
    · have g2 := (gr_all s n).1 _ _ _ g1.1 q2
      have HE2 : Hid (inBr s (n + 1) st = must s [41] st2) := HE1.out.trans (bind_eq q2)
      have HO : Hid (∀ w1 pv1, At w B b s pv w1 st1 pv1 → Calls Tryz.prog 36 #[.pointer (some ⟨b, 0, none⟩), .int .i64 1] w1 (Rp w1 B b s pv1 (opds s n 1 st1))) := fun w1 pv1 k => ih.opds 1 st1 pv1 w1 k.rm k.gx k.gd (by rw [q2]; simp) ⟨by omega, by omega⟩
      have HM : Hid (∀ w2 pv2, At w B b s pv w2 st2 pv2 → Calls Tryz.prog 128 #[.pointer (some ⟨b, 0, none⟩), .string ⟨#[41]⟩] w2 (Rp w2 B b s pv2 (must s [41] st2))) := fun w2 pv2 k => must_any k.rm k.gx hs k.gd [41]
      have HQ1 : Hid (∀ e w', Rp w B b s pv (must s [40] st) e w' → _) := fun e w' hR => H0.out.ok hR q1 g1.1
      have HQ2 : Hid (∀ w1 pv1 e w', At w B b s pv w1 st1 pv1 → Rp w1 B b s pv1 (opds s n 1 st1) e w' → _) := fun w1 pv1 e w' k hR => k.ok hR q2 g2.1
      clear q1 q2 HE HE1 ih hno
      rcases q3 : must s [41] st2 with st3 | ⟨er, ea⟩ | _
      · have g3 := must_gr g2.1 q3
        have HQ3 : Hid (∀ w2 pv2 e w', At w B b s pv w2 st2 pv2 → Rp w2 B b s pv2 (must s [41] st2) e w' → e = .returned (.tuple #[]) ∧ Hid (Rp w B b s pv (inBr s (n + 1) st) (.returned (.tuple #[])) w')) := fun w2 pv2 e w' k hR => by
          obtain ⟨rfl, pv3, k3⟩ := k.ok hR q3 g3.1
          exact ⟨rfl, k3.out.fin (HE2.out.trans q3)⟩
        clear q3 HE2 H0 hd g1 g2 g3
        go_enter Tryz.func116, Tryz.ntmps116
        go_wp2_with (first
          | (go_at_call_of 128 (Value.string ⟨#[40]⟩); refine CA.mono ?_; rintro e w1 hR; obtain ⟨he, pv1, K1⟩ := HQ1.out e w1 hR; subst he; have CO := HO.out w1 pv1 K1.out; clear hR CA)
          | (go_at_call 36; refine CO.mono ?_; rintro e w2 hR; obtain ⟨he, pv2, K2⟩ := HQ2.out w1 pv1 e w2 K1.out hR; subst he; have CM := HM.out w2 pv2 K2.out; clear hR CO)
          | (go_at_call 128; refine CM.mono ?_; rintro e w3 hR; obtain ⟨he, HX⟩ := HQ3.out w2 pv2 e w3 K2.out hR; subst he; clear hR CM))
        first | go_end0 | refine bodyPost_ret (results_none rfl _ _ _) rfl ?_
        exact HX.out
      · have HQ3 : Hid (∀ w2 pv2 e w', At w B b s pv w2 st2 pv2 → Rp w2 B b s pv2 (must s [41] st2) e w' → _) := fun w2 pv2 e w' k hR => k.no hR q3 (HE2.out.trans q3)
        clear q3 HE2 H0 hd g1 g2
        go_enter Tryz.func116, Tryz.ntmps116
        go_wp2_with (first
          | (go_at_call_of 128 (Value.string ⟨#[40]⟩); refine CA.mono ?_; rintro e w1 hR; obtain ⟨he, pv1, K1⟩ := HQ1.out e w1 hR; subst he; have CO := HO.out w1 pv1 K1.out; clear hR CA)
          | (go_at_call 36; refine CO.mono ?_; rintro e w2 hR; obtain ⟨he, pv2, K2⟩ := HQ2.out w1 pv1 e w2 K1.out hR; subst he; have CM := HM.out w2 pv2 K2.out; clear hR CO)
          | (go_at_call 128; refine CM.mono ?_; rintro e w3 hR; obtain ⟨he, HX⟩ := HQ3.out w2 pv2 e w3 K2.out hR; subst he; clear hR CM))
        exact ⟨rfl, HX.out⟩
      · exact absurd q3 (by unfold must; split; exact nxt_out; simp)
    · have HO : Hid (∀ w1 pv1, At w B b s pv w1 st1 pv1 → Calls Tryz.prog 36 #[.pointer (some ⟨b, 0, none⟩), .int .i64 1] w1 (Rp w1 B b s pv1 (opds s n 1 st1))) := fun w1 pv1 k => ih.opds 1 st1 pv1 w1 k.rm k.gx k.gd (by rw [q2]; simp) ⟨by omega, by omega⟩
      have HQ1 : Hid (∀ e w', Rp w B b s pv (must s [40] st) e w' → _) := fun e w' hR => H0.out.ok hR q1 g1.1
      have HQ2 : Hid (∀ w1 pv1 e w', At w B b s pv w1 st1 pv1 → Rp w1 B b s pv1 (opds s n 1 st1) e w' → _) := fun w1 pv1 e w' k hR => k.no hR q2 (HE1.out.trans (bind_no q2))
      clear q1 q2 HE HE1 ih hno H0 hd g1
      go_enter Tryz.func116, Tryz.ntmps116
      go_wp2_with (first
        | (go_at_call_of 128 (Value.string ⟨#[40]⟩); refine CA.mono ?_; rintro e w1 hR; obtain ⟨he, pv1, K1⟩ := HQ1.out e w1 hR; subst he; have CO := HO.out w1 pv1 K1.out; clear hR CA)
        | (go_at_call 36; refine CO.mono ?_; rintro e w2 hR; obtain ⟨he, HX⟩ := HQ2.out w1 pv1 e w2 K1.out hR; subst he; clear hR CO))
      exact ⟨rfl, HX.out⟩
    · exact absurd (HE1.out.trans (bind_outs q2)) hno
  · have HQ1 : Hid (∀ e w', Rp w B b s pv (must s [40] st) e w' → _) := fun e w' hR => H0.out.no hR q1 (HE.out.trans (bind_no q1))
    clear q1 HE ih hno H0 hd
    go_enter Tryz.func116, Tryz.ntmps116
    go_wp2_with (go_at_call 128; refine CA.mono ?_; rintro e w1 hR; obtain ⟨he, HX⟩ := HQ1.out e w1 hR; subst he; clear hR CA)
    exact ⟨rfl, HX.out⟩
  · exact absurd q1 (by unfold must; split; exact nxt_out; simp)
end Go.Proofs.YtpdengbdnijcfaaGreatDoor.x10

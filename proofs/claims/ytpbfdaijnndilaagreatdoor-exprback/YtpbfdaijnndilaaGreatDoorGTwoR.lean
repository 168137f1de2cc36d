/-
  Package expr: operators of two; recursion.
-/
import Derived.Test.YtpbfdaijnndilaaGreatDoorGLeaf
namespace Go.Proofs.YtpbfdaijnndilaaGreatDoor.x10
open Go.RowKit Go.Shelf Go.Sort
open Go.Lib hiding intOf

set_option maxHeartbeats 1000000 in
set_option maxRecDepth 100000 in
theorem must_any {w : World} {B b : Nat} {s : List UInt8} {st : Rs} {pv : Value} (h : Rm w B b s st pv) (hg : Gx B w) (hs : s.length ≤ 512) (hd : Gd s st) (m : List UInt8) : Calls Tryz.prog 157 #[.pointer (some ⟨b, 0, none⟩), .string (S m)] w (Rp w B b s pv (must s m st)) := by
  have hbl := h.ob.lt
  have c3 : w.cell? ⟨b, 3, none⟩ = some (.string (S st.now.s)) := h.ob.c 3
  have CN := next_any h hg hs hd.b
  have CF := refuse_any h
  by_cases hm : st.now.s = m
  · have HEQ : Hid (must s m st = nxt s st) := if_pos hm
    have hne : ((S st.now.s).toList == (S m).toList) = true := by rw [hm]; simp
    clear h hg hd
    generalize st.now.s = ns at *
    subst hm
    rcases hq : nxt s st with st1 | ⟨er, ea⟩ | _
    · have HQ : Hid (∀ e w', Rp w B b s pv (nxt s st) e w' → e = .returned (.tuple #[]) ∧ Hid (Rp w B b s pv (must s ns st) (.returned (.tuple #[])) w')) := fun e w' hR => by
        have h1 := hR
        obtain ⟨rfl, -⟩ := hR.good hq
        rw [HEQ.out]
        exact ⟨rfl, h1⟩
      clear hq HEQ
      go_enter Tryz.func157, Tryz.ntmps157
      go_wp2_with (go_at_call 47; refine CN.mono ?_; rintro e w2 hR; obtain ⟨he, HX⟩ := HQ.out e w2 hR; subst he; clear hR CN)
      first | go_end0 | refine bodyPost_ret (results_none rfl _ _ _) rfl ?_
      exact HX.out
    · have HQ : Hid (∀ e w', Rp w B b s pv (nxt s st) e w' → e = .panicked (wrg er ea) ∧ Hid (Rp w B b s pv (must s ns st) (.panicked (wrg er ea)) w')) := fun e w' hR => by
        have h1 := hR
        obtain ⟨rfl, -⟩ := hR.bad hq
        rw [HEQ.out]
        exact ⟨rfl, h1⟩
      clear hq HEQ
      go_enter Tryz.func157, Tryz.ntmps157
      go_wp2_with (go_at_call 47; refine CN.mono ?_; rintro e w2 hR; obtain ⟨he, HX⟩ := HQ.out e w2 hR; subst he; clear hR CN)
      exact ⟨rfl, HX.out⟩
    · exact absurd hq nxt_out
  · have HEQ : Hid (must s m st = .no 10 st.now.at') := if_neg hm
    have hne : ((S st.now.s).toList == (S m).toList) = false := by rw [S_toList, S_toList, beq_eq_false_iff_ne]; exact hm
    clear h hg hd CN hm
    go_enter Tryz.func157, Tryz.ntmps157
    go_wp2_with (go_at_call 49; refine CF.mono ?_; rintro e w2 ⟨rfl, hw2⟩; rw [hw2]; clear hw2)
    rw [HEQ.out]
    exact ⟨rfl, rfl, Ch.refl _ _⟩

theorem sgs_txt (k : Nat) (h : k < 19) : sgsV[k * 2]? = some (.string (S (sgs[k]?.getD ([], 0)).1)) ∧ sgsV[k * 2 + 1]? = some (.int .i64 (lvl k)) := by
  have key : ∀ k : Fin 19, sgsV[k.val * 2]? = some (.string (S (sgs[k.val]?.getD ([], 0)).1)) ∧ sgsV[k.val * 2 + 1]? = some (.int .i64 (lvl k.val)) := by
    intro k
    match k with
    | ⟨0, _⟩ => exact ⟨rfl, rfl⟩
    | ⟨1, _⟩ => exact ⟨rfl, rfl⟩
    | ⟨2, _⟩ => exact ⟨rfl, rfl⟩
    | ⟨3, _⟩ => exact ⟨rfl, rfl⟩
    | ⟨4, _⟩ => exact ⟨rfl, rfl⟩
    | ⟨5, _⟩ => exact ⟨rfl, rfl⟩
    | ⟨6, _⟩ => exact ⟨rfl, rfl⟩
    | ⟨7, _⟩ => exact ⟨rfl, rfl⟩
    | ⟨8, _⟩ => exact ⟨rfl, rfl⟩
    | ⟨9, _⟩ => exact ⟨rfl, rfl⟩
    | ⟨10, _⟩ => exact ⟨rfl, rfl⟩
    | ⟨11, _⟩ => exact ⟨rfl, rfl⟩
    | ⟨12, _⟩ => exact ⟨rfl, rfl⟩
    | ⟨13, _⟩ => exact ⟨rfl, rfl⟩
    | ⟨14, _⟩ => exact ⟨rfl, rfl⟩
    | ⟨15, _⟩ => exact ⟨rfl, rfl⟩
    | ⟨16, _⟩ => exact ⟨rfl, rfl⟩
    | ⟨17, _⟩ => exact ⟨rfl, rfl⟩
    | ⟨18, _⟩ => exact ⟨rfl, rfl⟩
    | ⟨n + 19, h⟩ => exact absurd h (by omega)
  exact key ⟨k, h⟩
theorem sg_cell {B : Nat} {w : World} (hg : Gx B w) (k : Nat) (h : k < 19) : w.cell? ⟨0, k * 2, none⟩ = some (.string (S (sgs[k]?.getD ([], 0)).1)) ∧ w.cell? ⟨0, k * 2 + 1, none⟩ = some (.int .i64 (lvl k)) := by
  have hv := (hg w (Below.refl _ _)).1
  have h1 := fun off => World.var?_cell (g := 0) (P := Tryz.prog) (by kernel_rfl) hv off
  obtain ⟨q1, q2⟩ := sgs_txt k h
  exact ⟨(h1 _).trans q1, (h1 _).trans q2⟩

set_option maxHeartbeats 1000000 in
set_option maxRecDepth 100000 in
theorem two_any {B : Nat} {w : World} (hg : Gx B w) (t : List UInt8) : Calls Tryz.prog 101 #[.string (S t)] w fun e w' => e = .returned (.int .i64 (twoH t : Int)) ∧ w' = w := by
  have HG : Hid (∀ k, k < 19 → _) := fun k h => sg_cell hg k h
  clear hg
  go_enter Tryz.func101, Tryz.ntmps101
  go_wp2
  go_loopw [3] (fun v3 wr => ∃ i : Nat, v3 = .int .i64 ((6 + i : Nat) : Int) ∧ i ≤ 13 ∧ wr = w ∧ Hid (∀ j (hj : j < (List.range 13).length), j < i → ((sgs[6 + (List.range 13)[j]]?.getD ([], 0)).1 == t) = false)) (fun v3 _ => 19 - (intOf v3).toNat)
  case atStart => exact ⟨0, rfl, Nat.zero_le _, rfl, fun j _ hj => by omega⟩
  case round =>
    obtain ⟨i, rfl, hi, rfl, HI⟩ := hrel
    obtain ⟨k, hk⟩ : ∃ k, 6 + i = k := ⟨_, rfl⟩
    rw [hk]
    by_cases hi13 : i < 13
    · have hk18 : (k : Int) ≤ 18 := by omega
      have hk0 : (0 : Int) ≤ (k : Int) := by omega
      have hk19 : (k : Int) < 19 := by omega
      have hkn : k < 19 := by omega
      obtain ⟨q1, -⟩ := HG.out k hkn
      obtain ⟨u, hu⟩ : ∃ u, (sgs[k]?.getD ([], 0)).1 = u := ⟨_, rfl⟩
      rw [hu] at q1
      have hir : i < (List.range 13).length := by simpa using hi13
      have HFS := find_some (p := fun i => (sgs[6 + i]?.getD ([], 0)).1 == t) hir HI.out
      simp only [List.getElem_range] at HFS
      rw [hk, hu] at HFS
      cases q : u == t with
      | true =>
        have HE : Hid (twoH t = k) := by
          show _ = _
          unfold twoH
          rw [HFS q]
          exact hk
        have q' : ((S u).toList == (S t).toList) = true := by rw [S_toList, S_toList]; exact q
        clear HFS q hu
        go_wp2
        go_ret
        rw [HE.out]
        exact ⟨rfl, rfl⟩
      | false =>
        have HN : Hid (∀ j (hj : j < (List.range 13).length), j < i + 1 → ((sgs[6 + (List.range 13)[j]]?.getD ([], 0)).1 == t) = false) := fun j hj hji => by
          rcases Nat.lt_succ_iff_lt_or_eq.1 hji with h1 | rfl
          · exact HI.out j hj h1
          · simp only [List.getElem_range]
            rw [hk, hu]
            exact q
        have q' : ((S u).toList == (S t).toList) = false := by rw [S_toList, S_toList]; exact q
        clear HFS q hu
        go_wp2
        go_roundw
        case rel => exact ⟨i + 1, by rw [show 6 + (i + 1) = k + 1 by omega]; simp, by omega, by first | rfl | trivial, HN⟩
        case measure => simp [intOf]; omega
    · have hk18 : ¬ (k : Int) ≤ 18 := by omega
      have HE : Hid (twoH t = 0) := by
        show _ = _
        unfold twoH
        rw [find_none (i := i) (by simp; omega) HI.out]
      go_wp2
      go_ret
      rw [HE.out]
      exact ⟨rfl, rfl⟩
end Go.Proofs.YtpbfdaijnndilaaGreatDoor.x10
namespace Go.Proofs.YtpbfdaijnndilaaGreatDoor.x10
open Go.RowKit Go.Shelf Go.Sort
open Go.Lib hiding intOf

/-- what is known of a reader at a place in a call -/
structure At (w : World) (B b : Nat) (s : List UInt8) (pv : Value) (w1 : World) (st1 : Rs) (pv1 : Value) : Prop where
  rm : Rm w1 B b s st1 pv1
  lf : Lf w b pv w1 pv1
  gd : Gd s st1
  gx : Gx B w1
theorem At.step {w w1 w2 : World} {B b : Nat} {s : List UInt8} {pv pv1 pv2 : Value} {st1 st2 : Rs} (h : At w B b s pv w1 st1 pv1) (k : Rm w2 B b s st2 pv2) (l : Lf w1 b pv1 w2 pv2) (g : Gd s st2) : At w B b s pv w2 st2 pv2 :=
  ⟨k, h.lf.trans l, g, h.rm.gx2 h.gx l⟩
theorem At.same {w w1 w2 : World} {B b : Nat} {s : List UInt8} {pv pv1 : Value} {st1 : Rs} (h : At w B b s pv w1 st1 pv1) (hw : w2 = w1) : At w B b s pv w2 st1 pv1 := hw ▸ h
/-- a call's end, seen from further back -/
theorem At.ok {w w1 w' : World} {B b : Nat} {s : List UInt8} {pv pv1 : Value} {st1 st2 : Rs} {r : Ot Rs} {e : Ending} (h : At w B b s pv w1 st1 pv1) (hR : Rp w1 B b s pv1 r e w') (hr : r = .ok st2) (hg : Gd s st2) : e = .returned (.tuple #[]) ∧ ∃ pv2, Hid (At w B b s pv w' st2 pv2) := by
  obtain ⟨rfl, pv2, k1, k2⟩ := hR.good hr
  exact ⟨rfl, pv2, h.step k1 k2 hg⟩
theorem At.no {w w1 w' : World} {B b : Nat} {s : List UInt8} {pv pv1 : Value} {st1 : Rs} {r q : Ot Rs} {er ea : Int} {e : Ending} (h : At w B b s pv w1 st1 pv1) (hR : Rp w1 B b s pv1 r e w') (hr : r = .no er ea) (hq : q = .no er ea) : e = .panicked (wrg er ea) ∧ Hid (Rp w B b s pv q (.panicked (wrg er ea)) w') := by
  have h1 := Rp.liftG h.lf hR
  obtain ⟨rfl, -⟩ := hR.bad hr
  rw [hr] at h1
  rw [hq]
  exact ⟨rfl, h1⟩
theorem At.fin {w w1 : World} {B b : Nat} {s : List UInt8} {pv pv1 : Value} {st1 : Rs} {q : Ot Rs} (h : At w B b s pv w1 st1 pv1) (hq : q = .ok st1) : Rp w B b s pv q (.returned (.tuple #[])) w1 := by
  rw [hq]
  exact ⟨rfl, pv1, h.rm, h.lf⟩
def plen (w : World) (b : Nat) : Nat := match w.cell? ⟨b, 9, none⟩ with
  | some (.slice _ n _) => n
  | _ => 0
theorem plen_at {w : World} {B b : Nat} {s : List UInt8} {st : Rs} {pv : Value} (h : Rm w B b s st pv) : plen w b = st.parts.length := by
  obtain ⟨pa, pcap, rfl, -⟩ := row_slice h.row
  have c9 : w.cell? ⟨b, 9, none⟩ = some (.slice pa st.parts.length pcap) := h.ob.c 9
  unfold plen
  rw [c9]
/-- the contracts at a fuel -/
structure Al (s : List UInt8) (B b : Nat) (n : Nat) : Prop where
  opds : ∀ (lv : Int) (st : Rs) (pv : Value) (w : World), Rm w B b s st pv → Gx B w → Gd s st → x10.opds s n lv st ≠ .out → -10 ≤ lv ∧ lv ≤ 100 → Calls Tryz.prog 48 #[.pointer (some ⟨b, 0, none⟩), .int .i64 lv] w (Rp w B b s pv (x10.opds s n lv st))
  opd : ∀ (st : Rs) (pv : Value) (w : World), Rm w B b s st pv → Gx B w → Gd s st → x10.opd s n st ≠ .out → Calls Tryz.prog 99 #[.pointer (some ⟨b, 0, none⟩)] w (Rp w B b s pv (x10.opd s n st))
  aftW : ∀ (wd : List UInt8) (st : Rs) (pv : Value) (w : World), Rm w B b s st pv → Gx B w → Gd s st → x10.aftW s n wd st ≠ .out → Calls Tryz.prog 123 #[.pointer (some ⟨b, 0, none⟩), .string (S wd)] w (Rp w B b s pv (x10.aftW s n wd st))
  aftM : ∀ (wd : List UInt8) (st : Rs) (pv : Value) (w : World), Rm w B b s st pv → Gx B w → Gd s st → x10.aftM s n wd st ≠ .out → Calls Tryz.prog 124 #[.pointer (some ⟨b, 0, none⟩), .string (S wd)] w (Rp w B b s pv (x10.aftM s n wd st))
  inBr : ∀ (st : Rs) (pv : Value) (w : World), Rm w B b s st pv → Gx B w → Gd s st → x10.inBr s n st ≠ .out → Calls Tryz.prog 142 #[.pointer (some ⟨b, 0, none⟩)] w (Rp w B b s pv (x10.inBr s n st))
theorem Al.zero (s : List UInt8) (B b : Nat) : Al s B b 0 := ⟨fun _ _ _ _ _ _ _ h => absurd rfl h, fun _ _ _ _ _ _ h => absurd rfl h, fun _ _ _ _ _ _ _ h => absurd rfl h, fun _ _ _ _ _ _ _ h => absurd rfl h, fun _ _ _ _ _ _ h => absurd rfl h⟩
theorem bind_eq {α β : Type} {x : Ot α} {f : α → Ot β} {a : α} (h : x = .ok a) : x.bind f = f a := by rw [h]; rfl
theorem bind_no {α β : Type} {x : Ot α} {f : α → Ot β} {e a : Int} (h : x = .no e a) : x.bind f = .no e a := by rw [h]; rfl
theorem bind_outs {α β : Type} {x : Ot α} {f : α → Ot β} (h : x = .out) : x.bind f = .out := by rw [h]; rfl

variable {s : List UInt8} {B b : Nat}
set_option maxHeartbeats 1000000 in
set_option maxRecDepth 100000 in
theorem inBr_step (hs : s.length ≤ 512) {n : Nat} (ih : Al s B b n) (st : Rs) (pv : Value) (w : World) (h : Rm w B b s st pv) (hg : Gx B w) (hd : Gd s st) (hno : inBr s (n + 1) st ≠ .out) : Calls Tryz.prog 142 #[.pointer (some ⟨b, 0, none⟩)] w (Rp w B b s pv (inBr s (n + 1) st)) := by
  have H0 : Hid (At w B b s pv w st pv) := ⟨h, Lf.refl _ _ _, hd, hg⟩
  have hbl := h.ob.lt
  have CA := must_any h hg hs hd [40]
  have HE : Hid (inBr s (n + 1) st = (must s [40] st).bind fun st => (opds s n 1 st).bind fun st => must s [41] st) := by show _ = _; rw [inBr]
  clear h hg
  rcases q1 : must s [40] st with st1 | ⟨er, ea⟩ | _
  · have g1 := must_gr hd q1
    have HE1 : Hid (inBr s (n + 1) st = (opds s n 1 st1).bind fun st => must s [41] st) := HE.out.trans (bind_eq q1)
    rcases q2 : opds s n 1 st1 with st2 | ⟨er, ea⟩ | _
    · have g2 := (gr_all s n).1 _ _ _ g1.1 q2
      have HE2 : Hid (inBr s (n + 1) st = must s [41] st2) := HE1.out.trans (bind_eq q2)
      have HO : Hid (∀ w1 pv1, At w B b s pv w1 st1 pv1 → Calls Tryz.prog 48 #[.pointer (some ⟨b, 0, none⟩), .int .i64 1] w1 (Rp w1 B b s pv1 (opds s n 1 st1))) := fun w1 pv1 k => ih.opds 1 st1 pv1 w1 k.rm k.gx k.gd (by rw [q2]; simp) ⟨by omega, by omega⟩
      have HM : Hid (∀ w2 pv2, At w B b s pv w2 st2 pv2 → Calls Tryz.prog 157 #[.pointer (some ⟨b, 0, none⟩), .string ⟨#[41]⟩] w2 (Rp w2 B b s pv2 (must s [41] st2))) := fun w2 pv2 k => must_any k.rm k.gx hs k.gd [41]
      have HQ1 : Hid (∀ e w', Rp w B b s pv (must s [40] st) e w' → _) := fun e w' hR => H0.out.ok hR q1 g1.1
      have HQ2 : Hid (∀ w1 pv1 e w', At w B b s pv w1 st1 pv1 → Rp w1 B b s pv1 (opds s n 1 st1) e w' → _) := fun w1 pv1 e w' k hR => k.ok hR q2 g2.1
      clear q1 q2 HE HE1 ih hno
      rcases q3 : must s [41] st2 with st3 | ⟨er, ea⟩ | _
      · have g3 := must_gr g2.1 q3
        have HQ3 : Hid (∀ w2 pv2 e w', At w B b s pv w2 st2 pv2 → Rp w2 B b s pv2 (must s [41] st2) e w' → e = .returned (.tuple #[]) ∧ Hid (Rp w B b s pv (inBr s (n + 1) st) (.returned (.tuple #[])) w')) := fun w2 pv2 e w' k hR => by
          obtain ⟨rfl, pv3, k3⟩ := k.ok hR q3 g3.1
          exact ⟨rfl, k3.out.fin (HE2.out.trans q3)⟩
        clear q3 HE2 H0 hd g1 g2 g3
        go_enter Tryz.func142, Tryz.ntmps142
        go_wp2_with (first
          | (go_at_call_of 157 (Value.string ⟨#[40]⟩); refine CA.mono ?_; rintro e w1 hR; obtain ⟨he, pv1, K1⟩ := HQ1.out e w1 hR; subst he; have CO := HO.out w1 pv1 K1.out; clear hR CA)
          | (go_at_call 48; refine CO.mono ?_; rintro e w2 hR; obtain ⟨he, pv2, K2⟩ := HQ2.out w1 pv1 e w2 K1.out hR; subst he; have CM := HM.out w2 pv2 K2.out; clear hR CO)
          | (go_at_call 157; refine CM.mono ?_; rintro e w3 hR; obtain ⟨he, HX⟩ := HQ3.out w2 pv2 e w3 K2.out hR; subst he; clear hR CM))
        first | go_end0 | refine bodyPost_ret (results_none rfl _ _ _) rfl ?_
        exact HX.out
      · have HQ3 : Hid (∀ w2 pv2 e w', At w B b s pv w2 st2 pv2 → Rp w2 B b s pv2 (must s [41] st2) e w' → _) := fun w2 pv2 e w' k hR => k.no hR q3 (HE2.out.trans q3)
        clear q3 HE2 H0 hd g1 g2
        go_enter Tryz.func142, Tryz.ntmps142
        go_wp2_with (first
          | (go_at_call_of 157 (Value.string ⟨#[40]⟩); refine CA.mono ?_; rintro e w1 hR; obtain ⟨he, pv1, K1⟩ := HQ1.out e w1 hR; subst he; have CO := HO.out w1 pv1 K1.out; clear hR CA)
          | (go_at_call 48; refine CO.mono ?_; rintro e w2 hR; obtain ⟨he, pv2, K2⟩ := HQ2.out w1 pv1 e w2 K1.out hR; subst he; have CM := HM.out w2 pv2 K2.out; clear hR CO)
          | (go_at_call 157; refine CM.mono ?_; rintro e w3 hR; obtain ⟨he, HX⟩ := HQ3.out w2 pv2 e w3 K2.out hR; subst he; clear hR CM))
        exact ⟨rfl, HX.out⟩
      · exact absurd q3 (by unfold must; split; exact nxt_out; simp)
    · have HO : Hid (∀ w1 pv1, At w B b s pv w1 st1 pv1 → Calls Tryz.prog 48 #[.pointer (some ⟨b, 0, none⟩), .int .i64 1] w1 (Rp w1 B b s pv1 (opds s n 1 st1))) := fun w1 pv1 k => ih.opds 1 st1 pv1 w1 k.rm k.gx k.gd (by rw [q2]; simp) ⟨by omega, by omega⟩
      have HQ1 : Hid (∀ e w', Rp w B b s pv (must s [40] st) e w' → _) := fun e w' hR => H0.out.ok hR q1 g1.1
      have HQ2 : Hid (∀ w1 pv1 e w', At w B b s pv w1 st1 pv1 → Rp w1 B b s pv1 (opds s n 1 st1) e w' → _) := fun w1 pv1 e w' k hR => k.no hR q2 (HE1.out.trans (bind_no q2))
      clear q1 q2 HE HE1 ih hno H0 hd g1
      go_enter Tryz.func142, Tryz.ntmps142
      go_wp2_with (first
        | (go_at_call_of 157 (Value.string ⟨#[40]⟩); refine CA.mono ?_; rintro e w1 hR; obtain ⟨he, pv1, K1⟩ := HQ1.out e w1 hR; subst he; have CO := HO.out w1 pv1 K1.out; clear hR CA)
        | (go_at_call 48; refine CO.mono ?_; rintro e w2 hR; obtain ⟨he, HX⟩ := HQ2.out w1 pv1 e w2 K1.out hR; subst he; clear hR CO))
      exact ⟨rfl, HX.out⟩
    · exact absurd (HE1.out.trans (bind_outs q2)) hno
  · have HQ1 : Hid (∀ e w', Rp w B b s pv (must s [40] st) e w' → _) := fun e w' hR => H0.out.no hR q1 (HE.out.trans (bind_no q1))
    clear q1 HE ih hno H0 hd
    go_enter Tryz.func142, Tryz.ntmps142
    go_wp2_with (go_at_call 157; refine CA.mono ?_; rintro e w1 hR; obtain ⟨he, HX⟩ := HQ1.out e w1 hR; subst he; clear hR CA)
    exact ⟨rfl, HX.out⟩
  · exact absurd q1 (by unfold must; split; exact nxt_out; simp)
end Go.Proofs.YtpbfdaijnndilaaGreatDoor.x10

/-
  From the empty state on all lists rise, whatever is folded; what an instance had is gone when it has ended. For every input; the input reads as it did.
-/
import Derived.Test.YtgklemopmiabcaaGreatF13Lp
import Derived.Test.YtgklemopmiabcaaGreatGRis
import Derived.Test.YtgklemopmiabcaaGreatF13Arg
namespace Go.Proofs.YtgklemopmiabcaaGreat.foldRises
open Go.Proofs.YtgklemopmiabcaaGreat.f13
open Go.ChangeShapes Go.WideShapes Go.ChangeAt Go.WideMaps Go.WideElems Go.RowKit Go.Shelf Go.Sort
open Go.Lib hiding intOf

theorem fl_rs {l : List Rc} : ∀ i, i ≤ l.length → Rs (fl s0 1 l i)
  | 0, _ => rs_s0
  | i + 1, hi => by
    rw [fl_step (by omega)]
    exact (fl_rs i (by omega)).apl
theorem lp_up {w W1 wr wr' : World} {sb off i : Nat} {v : Value} {l : List Rc} {a t : St} (h : Lp w W1 sb v l a off i wr t) (hb : Below wr.heap.size wr wr') : Lp w W1 sb v l a off i wr' t := ⟨h.box.up hb, h.sv.up hb, h.is, h.ch.trans (Ch.of_below hb), bel_of h.bel hb (Nat.le_refl _)⟩
set_option maxHeartbeats 16000000 in
set_option maxRecDepth 100000 in
theorem walk {w : World} {v : Value} {l : List Rc} (hl : Rr 13 Rc.cs w v l) (hr : ∀ x ∈ l, Rr 4 Vr.c w x.vv x.v ∧ x.ok) (hz : l.length * 144 ≤ 140737488351232) (hvn : ∀ x ∈ l, x.v.length * 48 ≤ 140737488351232) :
    Calls Tryz.prog 6 #[v] w fun e w' => e = .returned (.bool true) ∧ Below w.heap.size w w' := by
  have HL : Hid (Rr 13 Rc.cs w v l) := hl
  have HR : Hid (∀ x ∈ l, Rr 4 Vr.c w x.vv x.v ∧ x.ok) := hr
  have HV : Hid (∀ x ∈ l, x.v.length * 48 ≤ 211106232528000) := fun x hx => Nat.le_trans (hvn x hx) (by omega)
  have HZ : Hid (Sn l.length s0) := sn_s0 hz
  obtain ⟨a, cap, hva, -⟩ := id hl
  rw [hva]
  have HVA : Hid (v = .slice a l.length cap) := hva
  have hn : l.length ≤ 4611686018427387904 := by omega
  clear hl hr hvn hz hva
  go_enter Tryz.func6, Tryz.ntmps6
  go_wp2_with (go_at_call 9; refine (shown_any _).mono ?_; rintro e w1 ⟨rfl, b1⟩; (have B1 : Hid (Below w.heap.size w w1) := b1); (have hw1 := b1.size); clear b1)
  have HP0 : Hid (∃ t, Lp w (w1.alloc (.cells #[.int .u64 0, .int .u64 0, .int .u64 0, .slice none 0 0, .slice none 0 0, .slice none 0 0, .slice none 0 0, .slice none 0 0, .slice none 0 0, .slice none 0 0, .slice none 0 0, .slice none 0 0] 33)) w1.heap.size v l s0 1 0 (w1.alloc (.cells #[.int .u64 0, .int .u64 0, .int .u64 0, .slice none 0 0, .slice none 0 0, .slice none 0 0, .slice none 0 0, .slice none 0 0, .slice none 0 0, .slice none 0 0, .slice none 0 0, .slice none 0 0] 33)) t) := by
    have hb0 : Below w.heap.size w (w1.alloc (.cells #[.int .u64 0, .int .u64 0, .int .u64 0, .slice none 0 0, .slice none 0 0, .slice none 0 0, .slice none 0 0, .slice none 0 0, .slice none 0 0, .slice none 0 0, .slice none 0 0, .slice none 0 0] 33)) := B1.out.trans ((Below.refl _ w1).alloc hw1 _)
    exact ⟨s0, heap_alloc_new w1 _, s0_sv _, rfl, Ch.refl _ _, hb0⟩
  generalize (w1.alloc (.cells #[.int .u64 0, .int .u64 0, .int .u64 0, .slice none 0 0, .slice none 0 0, .slice none 0 0, .slice none 0 0, .slice none 0 0, .slice none 0 0, .slice none 0 0, .slice none 0 0, .slice none 0 0] 33)) = W1 at *
  go_loopw [5] (fun v5 wr => ∃ i : Nat, v5 = .int .i64 (i : Int) ∧ i ≤ l.length ∧ Hid (∃ t, Lp w W1 w1.heap.size v l s0 1 i wr t)) (fun v5 _ => l.length - (intOf v5).toNat)
  case atStart => exact ⟨0, rfl, Nat.zero_le _, HP0.out⟩
  case round =>
    obtain ⟨i, rfl, hi, HW⟩ := hrel
    by_cases hil : i < l.length
    · have hil' : (i : Int) < (l.length : Int) := by omega
      have hi0 : (0 : Int) ≤ (i : Int) := by omega
      have hcv : IntKind.u64.wrap (i : Int) = (i : Int) := by rw [IntKind.wrap_u64]; omega
      have hcv2 : IntKind.u64.wrap ((i : Int) + 1) = (i : Int) + 1 := by rw [IntKind.wrap_u64]; omega
      obtain ⟨t, hL⟩ := HW.out
      have CA : Hid (∀ W, Below wr.heap.size wr W → Calls Tryz.prog 11 #[.agg t.c.toArray, .int .u64 ((i : Int) + 1), .agg l[i].cs.toArray] W (Apd W (fl s0 1 l (i + 1)))) := fun W hW => hL.call hil HZ.out kr_s0 HR.out HV.out W hW
      obtain ⟨b, off, cap', hv, hb, hc⟩ := rc_cells HL.out hil
      obtain ⟨rfl, rfl⟩ : a = some ⟨b, off, none⟩ ∧ cap = cap' := by rw [HVA.out] at hv; injection hv with e1 _ e2; exact ⟨e1, e2⟩
      obtain ⟨ra, rp, hra, -⟩ := (HR.out _ (List.getElem_mem hil)).1
      have HC : Hid (∀ W, Below w.heap.size w W → W.cell? ⟨b, off + i * 13 + 0, none⟩ = some (.int .i64 l[i].cl) ∧ W.cell? ⟨b, off + i * 13 + 1, none⟩ = some (.int .i64 l[i].kd) ∧ W.cell? ⟨b, off + i * 13 + 2, none⟩ = some (.int .u64 (l[i].fr : Int)) ∧ W.cell? ⟨b, off + i * 13 + 3, none⟩ = some (.int .i64 l[i].tm) ∧ W.cell? ⟨b, off + i * 13 + 4, none⟩ = some (.int .u64 (l[i].k1 : Int)) ∧ W.cell? ⟨b, off + i * 13 + 5, none⟩ = some (.int .u64 (l[i].k2 : Int)) ∧ W.cell? ⟨b, off + i * 13 + 6, none⟩ = some (.int .u64 (l[i].k3 : Int)) ∧ W.cell? ⟨b, off + i * 13 + 7, none⟩ = some (.int .i64 l[i].n) ∧ W.cell? ⟨b, off + i * 13 + 8, none⟩ = some (.int .i64 l[i].m) ∧ W.cell? ⟨b, off + i * 13 + 9, none⟩ = some (.string (S l[i].a)) ∧ W.cell? ⟨b, off + i * 13 + 10, none⟩ = some (.string (S l[i].b)) ∧ W.cell? ⟨b, off + i * 13 + 11, none⟩ = some (.string (S l[i].c)) ∧ W.cell? ⟨b, off + i * 13 + 12, none⟩ = some (l[i].vv)) := hc
      have hgn : Hid (l[i].cl = 2 → (l[i].kd = 15 ∨ l[i].kd = 16) → ∀ x ∈ (fl s0 1 l (i + 1)).tokens, ¬ x.inst = l[i].k1) := fun c k => by rw [fl_step hil]; exact apl_gone c k
      rw [hra] at HC
      have hrc : l[i].cs = [.int .i64 l[i].cl, .int .i64 l[i].kd, .int .u64 (l[i].fr : Int), .int .i64 l[i].tm, .int .u64 (l[i].k1 : Int), .int .u64 (l[i].k2 : Int), .int .u64 (l[i].k3 : Int), .int .i64 l[i].n, .int .i64 l[i].m, .string (S l[i].a), .string (S l[i].b), .string (S l[i].c), .slice ra l[i].v.length rp] := by unfold Rc.cs; rw [hra]
      rw [hrc] at CA
      clear hv hc hra hrc
      generalize hr0 : l[i].cl = r0 at *
      generalize hr1 : l[i].kd = r1 at *
      generalize hr4 : l[i].k1 = r4 at *
      generalize l[i].fr = r2 at *
      generalize l[i].tm = r3 at *
      generalize l[i].k2 = r5 at *
      generalize l[i].k3 = r6 at *
      generalize l[i].n = r7 at *
      generalize l[i].m = r8 at *
      generalize l[i].a = r9 at *
      generalize l[i].b = r10 at *
      generalize l[i].c = r11 at *
      generalize l[i].v.length = rn at *
      obtain ⟨c0, c1, c2, c3, c4, c5, c6, c7, c8, c9, c10, c11, c12⟩ := HC.out wr hL.bel
      simp only [Nat.add_zero] at c0
      obtain ⟨⟨taDe, tnDe, tcDe, thDe⟩, ⟨taIn, tnIn, tcIn, thIn⟩, ⟨taTk, tnTk, tcTk, thTk⟩, ⟨taJb, tnJb, tcJb, thJb⟩, ⟨taTm, tnTm, tcTm, thTm⟩, ⟨taSb, tnSb, tcSb, thSb⟩, ⟨taKp, tnKp, tcKp, thKp⟩, ⟨taLs, tnLs, tcLs, thLs⟩, ⟨taMs, tnMs, tcMs, thMs⟩⟩ := St.cut hL.sv
      obtain ⟨hx, hy⟩ := hL.box.cells
      have HL1 : Hid (Lp w W1 w1.heap.size v l s0 1 i wr t) := hL
      have hsb : w1.heap.size < wr.heap.size := hL.box.lt
      clear hL HW
      obtain ⟨tp, td, tm, tvDe, tlDe, tvIn, tlIn, tvTk, tlTk, tvJb, tlJb, tvTm, tlTm, tvSb, tlSb, tvKp, tlKp, tvLs, tlLs, tvMs, tlMs⟩ := t
      simp only at thDe thIn thTk thJb thTm thSb thKp thLs thMs
      subst thDe thIn thTk thJb thTm thSb thKp thLs thMs
      simp only [St.c] at CA hx
      have x0 := hx 0 _ rfl
      have x1 := hx 1 _ rfl
      have x2 := hx 2 _ rfl
      have x3 := hx 3 _ rfl
      have x4 := hx 4 _ rfl
      have x5 := hx 5 _ rfl
      have x6 := hx 6 _ rfl
      have x7 := hx 7 _ rfl
      have x8 := hx 8 _ rfl
      have x9 := hx 9 _ rfl
      have x10 := hx 10 _ rfl
      have x11 := hx 11 _ rfl
      clear hx hy hr0 hr1 hr4
      go_wp2
      go_region_with (go_at_call 11; refine (CA.out _ (by first | exact Below.refl _ _ | exact (Below.refl _ _).drew)).mono ?_; rintro e w2 ⟨t2, rfl, hO, he, hb2⟩; (have HX : Hid (Own wr.heap.size w2 t2.rows ∧ t2.e = fl s0 1 l (i + 1) ∧ Below wr.heap.size wr w2) := ⟨hO, he, ⟨hb2.os, hb2.tape, hb2.output, hb2.size, hb2.block⟩⟩); obtain ⟨⟨uaDe, unDe, ucDe, uhDe⟩, ⟨uaIn, unIn, ucIn, uhIn⟩, ⟨uaTk, unTk, ucTk, uhTk⟩, ⟨uaJb, unJb, ucJb, uhJb⟩, ⟨uaTm, unTm, ucTm, uhTm⟩, ⟨uaSb, unSb, ucSb, uhSb⟩, ⟨uaKp, unKp, ucKp, uhKp⟩, ⟨uaLs, unLs, ucLs, uhLs⟩, ⟨uaMs, unMs, ucMs, uhMs⟩⟩ := St.slices hO; obtain ⟨hx2, hy2⟩ := (HL1.out.box.up HX.out.2.2).cells; obtain ⟨up, ud, um, uvDe, ulDe, uvIn, ulIn, uvTk, ulTk, uvJb, ulJb, uvTm, ulTm, uvSb, ulSb, uvKp, ulKp, uvLs, ulLs, uvMs, ulMs⟩ := t2; simp only at uhDe uhIn uhTk uhJb uhTm uhSb uhKp uhLs uhMs; subst uhDe uhIn uhTk uhJb uhTm uhSb uhKp uhLs uhMs; simp only [St.c] at hx2 ⊢; (have z0 := hx2 0 _ rfl); (have g0 := hy2 0); (have z1 := hx2 1 _ rfl); (have g1 := hy2 1); (have z2 := hx2 2 _ rfl); (have g2 := hy2 2); (have z3 := hx2 3 _ rfl); (have g3 := hy2 3); (have z4 := hx2 4 _ rfl); (have g4 := hy2 4); (have z5 := hx2 5 _ rfl); (have g5 := hy2 5); (have z6 := hx2 6 _ rfl); (have g6 := hy2 6); (have z7 := hx2 7 _ rfl); (have g7 := hy2 7); (have z8 := hx2 8 _ rfl); (have g8 := hy2 8); (have z9 := hx2 9 _ rfl); (have g9 := hy2 9); (have z10 := hx2 10 _ rfl); (have g10 := hy2 10); (have z11 := hx2 11 _ rfl); (have g11 := hy2 11); clear hO he hb2 hx2 hy2 CA x0 x1 x2 x3 x4 x5 x6 x7 x8 x9 x10 x11)
      all_goals
        have HL3 : Hid (Lp w W1 w1.heap.size v l s0 1 (i + 1) ((((((((((((w2.setCell ⟨w1.heap.size, 0, none⟩ (.int .u64 (up : Int))).setCell ⟨w1.heap.size, 1, none⟩ (.int .u64 (ud : Int))).setCell ⟨w1.heap.size, 2, none⟩ (.int .u64 (um : Int))).setCell ⟨w1.heap.size, 3, none⟩ (.slice uaDe unDe ucDe)).setCell ⟨w1.heap.size, 4, none⟩ (.slice uaIn unIn ucIn)).setCell ⟨w1.heap.size, 5, none⟩ (.slice uaTk unTk ucTk)).setCell ⟨w1.heap.size, 6, none⟩ (.slice uaJb unJb ucJb)).setCell ⟨w1.heap.size, 7, none⟩ (.slice uaTm unTm ucTm)).setCell ⟨w1.heap.size, 8, none⟩ (.slice uaSb unSb ucSb)).setCell ⟨w1.heap.size, 9, none⟩ (.slice uaKp unKp ucKp)).setCell ⟨w1.heap.size, 10, none⟩ (.slice uaLs unLs ucLs)).setCell ⟨w1.heap.size, 11, none⟩ (.slice uaMs unMs ucMs)) ⟨up, ud, um, .slice uaDe unDe ucDe, ulDe, .slice uaIn unIn ucIn, ulIn, .slice uaTk unTk ucTk, ulTk, .slice uaJb unJb ucJb, ulJb, .slice uaTm unTm ucTm, ulTm, .slice uaSb unSb ucSb, ulSb, .slice uaKp unKp ucKp, ulKp, .slice uaLs unLs ucLs, ulLs, .slice uaMs unMs ucMs, ulMs⟩) := by
          have h := HL1.out.next hw1 HX.out.1 HX.out.2.1 HX.out.2.2
          unfold set12 at h
          exact h
        have hpos : up = i + 1 := by
          have := congrArg St.pos HX.out.2.1
          rw [fl_step hil, apl_pos] at this
          exact this
        have hsn := fl_sn (off := 1) HZ.out HV.out (i + 1) (by omega)
        rw [← HX.out.2.1] at hsn
        have hsz := Sz.of_e hsn.sz
        have hrs : Rs ⟨up, ud, um, .slice uaDe unDe ucDe, ulDe, .slice uaIn unIn ucIn, ulIn, .slice uaTk unTk ucTk, ulTk, .slice uaJb unJb ucJb, ulJb, .slice uaTm unTm ucTm, ulTm, .slice uaSb unSb ucSb, ulSb, .slice uaKp unKp ucKp, ulKp, .slice uaLs unLs ucLs, ulLs, .slice uaMs unMs ucMs, ulMs⟩ := Rs.of_e (by rw [HX.out.2.1]; exact fl_rs (i + 1) (by omega))
        have HGN : Hid (r0 = 2 → (r1 = 15 ∨ r1 = 16) → ∀ x ∈ ulTk, ¬ x.inst = r4) := by
          intro c k x hx
          refine hgn.out c k x ?_
          rw [← HX.out.2.1]
          exact hx
        clear z0 z1 z2 z3 z4 z5 z6 z7 z8 z9 z10 z11 g0 g1 g2 g3 g4 g5 g6 g7 g8 g9 g10 g11 c0 c1 c2 c3 c4 c5 c6 c7 c8 c9 c10 c11 c12 hsn HL1 HX hgn
        generalize ((((((((((((w2.setCell ⟨w1.heap.size, 0, none⟩ (.int .u64 (up : Int))).setCell ⟨w1.heap.size, 1, none⟩ (.int .u64 (ud : Int))).setCell ⟨w1.heap.size, 2, none⟩ (.int .u64 (um : Int))).setCell ⟨w1.heap.size, 3, none⟩ (.slice uaDe unDe ucDe)).setCell ⟨w1.heap.size, 4, none⟩ (.slice uaIn unIn ucIn)).setCell ⟨w1.heap.size, 5, none⟩ (.slice uaTk unTk ucTk)).setCell ⟨w1.heap.size, 6, none⟩ (.slice uaJb unJb ucJb)).setCell ⟨w1.heap.size, 7, none⟩ (.slice uaTm unTm ucTm)).setCell ⟨w1.heap.size, 8, none⟩ (.slice uaSb unSb ucSb)).setCell ⟨w1.heap.size, 9, none⟩ (.slice uaKp unKp ucKp)).setCell ⟨w1.heap.size, 10, none⟩ (.slice uaLs unLs ucLs)).setCell ⟨w1.heap.size, 11, none⟩ (.slice uaMs unMs ucMs)) = W3 at *
        have CR := rises_any HL3.out.sv hsz hrs
        simp only [St.c] at CR
        obtain ⟨hx3, -⟩ := HL3.out.box.cells
        simp only [St.c] at hx3
        have x0 := hx3 0 _ rfl
        have x1 := hx3 1 _ rfl
        have x2 := hx3 2 _ rfl
        have x3 := hx3 3 _ rfl
        have x4 := hx3 4 _ rfl
        have x5 := hx3 5 _ rfl
        have x6 := hx3 6 _ rfl
        have x7 := hx3 7 _ rfl
        have x8 := hx3 8 _ rfl
        have x9 := hx3 9 _ rfl
        have x10 := hx3 10 _ rfl
        have x11 := hx3 11 _ rfl
        have HTk : Hid (∀ W4, Below W3.heap.size W3 W4 → ∀ k, k < unTk → ∃ b' off' inst : Nat, uaTk = some ⟨b', off', none⟩ ∧ (∀ W, Below W4.heap.size W4 W → W.cell? ⟨b', off' + k * 6 + 1, none⟩ = some (.int .u64 (inst : Int))) ∧ (r0 = 2 → (r1 = 15 ∨ r1 = 16) → ¬ inst = r4)) := by
          intro W4 hW4 k hk
          have h1 := (HL3.out.sv.up hW4).rTk
          have hlen : unTk = ulTk.length := by obtain ⟨_, _, e, -⟩ := h1; injection e
          have hk' : k < ulTk.length := by omega
          obtain ⟨b', off', _, e, -, -, hcc⟩ := h1.at hk'
          injection e with e
          exact ⟨b', off', ulTk[k].inst, e, fun W hW => hcc W hW k hk' 1 _ rfl, fun c kk => HGN.out c kk _ (List.getElem_mem hk')⟩
        have hnT : unTk ≤ 4611686018427387904 := by
          have hlen : unTk = ulTk.length := by obtain ⟨_, _, e, -⟩ := HL3.out.sv.rTk; injection e
          have := hsz.nTk
          simp only at this
          omega
        subst hpos
        clear hsz hrs HGN hx3
        by_cases k0 : r0 = 2
        · by_cases k15 : r1 = 15
          · as_aux_lemma =>
              have HK : Hid (r0 = 2 ∧ (r1 = 15 ∨ r1 = 16)) := ⟨k0, .inl k15⟩
              go_wp2_with (go_at_call 20; refine CR.mono ?_; rintro e w4 ⟨rfl, b4⟩; obtain ⟨hx4, -⟩ := (lp_up HL3.out b4).box.cells; simp only [St.c] at hx4; (have v0 := hx4 0 _ rfl); (have v5 := hx4 5 _ rfl); obtain ⟨c0, c1, -, -, c4, -⟩ := HC.out w4 (lp_up HL3.out b4).bel; simp only [Nat.add_zero] at c0; (have HL4 : Hid _ := lp_up HL3.out b4); (have HT4 : Hid _ := HTk.out w4 b4); clear b4 CR hx4 HTk x0 x1 x2 x3 x4 x5 x6 x7 x8 x9 x10 x11)
              have HB4 : Hid (∀ W, Below w4.heap.size w4 W → W.cell? ⟨w1.heap.size, 5, none⟩ = some (.slice uaTk unTk ucTk) ∧ W.cell? ⟨b, off + i * 13 + 4, none⟩ = some (.int .u64 (r4 : Int)) ∧ ∃ t, Lp w W1 w1.heap.size v l s0 1 (i + 1) W t) := fun W hW => by
                obtain ⟨hx4, -⟩ := (lp_up HL4.out hW).box.cells
                simp only [St.c] at hx4
                obtain ⟨-, -, -, -, d4, -⟩ := HC.out W (lp_up HL4.out hW).bel
                exact ⟨hx4 5 _ rfl, d4, _, lp_up HL4.out hW⟩
              clear c0 c1 c4 v0 v5 HL3 HL4 HC HR HL HP0 HZ HV
              generalize wr = wo at *
              go_loopw [8] (fun v8 wr => ∃ k : Nat, v8 = .int .i64 (k : Int) ∧ k ≤ unTk ∧ Hid (Below w4.heap.size w4 wr)) (fun v8 _ => unTk - (intOf v8).toNat)
              case atStart => exact ⟨0, rfl, Nat.zero_le _, Below.refl _ _⟩
              case round =>
                obtain ⟨k, rfl, hk, HWk⟩ := hrel
                obtain ⟨d5, d4, HLE⟩ := HB4.out wr HWk.out
                have HLF : Hid _ := HLE
                clear HLE
                by_cases hkl : k < unTk
                · have hkl' : (k : Int) < (unTk : Int) := by omega
                  have hk0 : (0 : Int) ≤ (k : Int) := by omega
                  obtain ⟨b', off', inst, rfl, hci, hne⟩ := HT4.out k hkl
                  have e1 := hci wr HWk.out
                  have hne1 := hne HK.out.1 HK.out.2
                  have hne2 : ¬ (inst : Int) = (r4 : Int) := by omega
                  clear hci hne HLF
                  go_wp2
                  go_quiet (fail)
                  go_wp2
                  go_roundw
                  case rel => exact ⟨k + 1, by simp, by omega, bdN HWk.out _⟩
                  case measure => simp [intOf]; omega
                · have hkl' : ¬ (k : Int) < (unTk : Int) := by omega
                  go_wp2
                  go_roundw
                  case rel => exact ⟨i + 1, by simp, by omega, HLF.out⟩
                  case measure => simp [intOf]; omega
          · by_cases k16 : r1 = 16
            · as_aux_lemma =>
                have HK : Hid (r0 = 2 ∧ (r1 = 15 ∨ r1 = 16)) := ⟨k0, .inr k16⟩
                go_wp2_with (go_at_call 20; refine CR.mono ?_; rintro e w4 ⟨rfl, b4⟩; obtain ⟨hx4, -⟩ := (lp_up HL3.out b4).box.cells; simp only [St.c] at hx4; (have v0 := hx4 0 _ rfl); (have v5 := hx4 5 _ rfl); obtain ⟨c0, c1, -, -, c4, -⟩ := HC.out w4 (lp_up HL3.out b4).bel; simp only [Nat.add_zero] at c0; (have HL4 : Hid _ := lp_up HL3.out b4); (have HT4 : Hid _ := HTk.out w4 b4); clear b4 CR hx4 HTk x0 x1 x2 x3 x4 x5 x6 x7 x8 x9 x10 x11)
                have HB4 : Hid (∀ W, Below w4.heap.size w4 W → W.cell? ⟨w1.heap.size, 5, none⟩ = some (.slice uaTk unTk ucTk) ∧ W.cell? ⟨b, off + i * 13 + 4, none⟩ = some (.int .u64 (r4 : Int)) ∧ ∃ t, Lp w W1 w1.heap.size v l s0 1 (i + 1) W t) := fun W hW => by
                  obtain ⟨hx4, -⟩ := (lp_up HL4.out hW).box.cells
                  simp only [St.c] at hx4
                  obtain ⟨-, -, -, -, d4, -⟩ := HC.out W (lp_up HL4.out hW).bel
                  exact ⟨hx4 5 _ rfl, d4, _, lp_up HL4.out hW⟩
                clear c0 c1 c4 v0 v5 HL3 HL4 HC HR HL HP0 HZ HV
                generalize wr = wo at *
                go_loopw [8] (fun v8 wr => ∃ k : Nat, v8 = .int .i64 (k : Int) ∧ k ≤ unTk ∧ Hid (Below w4.heap.size w4 wr)) (fun v8 _ => unTk - (intOf v8).toNat)
                case atStart => exact ⟨0, rfl, Nat.zero_le _, Below.refl _ _⟩
                case round =>
                  obtain ⟨k, rfl, hk, HWk⟩ := hrel
                  obtain ⟨d5, d4, HLE⟩ := HB4.out wr HWk.out
                  have HLF : Hid _ := HLE
                  clear HLE
                  by_cases hkl : k < unTk
                  · have hkl' : (k : Int) < (unTk : Int) := by omega
                    have hk0 : (0 : Int) ≤ (k : Int) := by omega
                    obtain ⟨b', off', inst, rfl, hci, hne⟩ := HT4.out k hkl
                    have e1 := hci wr HWk.out
                    have hne1 := hne HK.out.1 HK.out.2
                    have hne2 : ¬ (inst : Int) = (r4 : Int) := by omega
                    clear hci hne HLF
                    go_wp2
                    go_quiet (fail)
                    go_wp2
                    go_roundw
                    case rel => exact ⟨k + 1, by simp, by omega, bdN HWk.out _⟩
                    case measure => simp [intOf]; omega
                  · have hkl' : ¬ (k : Int) < (unTk : Int) := by omega
                    go_wp2
                    go_roundw
                    case rel => exact ⟨i + 1, by simp, by omega, HLF.out⟩
                    case measure => simp [intOf]; omega
            · as_aux_lemma =>
                have b15 : (r1 == 15) = false := by simp [k15]
                have b16 : (r1 == 16) = false := by simp [k16]
                go_wp2_with (go_at_call 20; refine CR.mono ?_; rintro e w4 ⟨rfl, b4⟩; obtain ⟨hx4, -⟩ := (lp_up HL3.out b4).box.cells; simp only [St.c] at hx4; (have v0 := hx4 0 _ rfl); (have v5 := hx4 5 _ rfl); obtain ⟨c0, c1, -, -, c4, -⟩ := HC.out w4 (lp_up HL3.out b4).bel; simp only [Nat.add_zero] at c0; (have HL4 : Hid _ := lp_up HL3.out b4); (have HT4 : Hid _ := HTk.out w4 b4); clear b4 CR hx4 HTk x0 x1 x2 x3 x4 x5 x6 x7 x8 x9 x10 x11)
                have HB4 : Hid (∀ W, Below w4.heap.size w4 W → W.cell? ⟨w1.heap.size, 5, none⟩ = some (.slice uaTk unTk ucTk) ∧ W.cell? ⟨b, off + i * 13 + 4, none⟩ = some (.int .u64 (r4 : Int)) ∧ ∃ t, Lp w W1 w1.heap.size v l s0 1 (i + 1) W t) := fun W hW => by
                  obtain ⟨hx4, -⟩ := (lp_up HL4.out hW).box.cells
                  simp only [St.c] at hx4
                  obtain ⟨-, -, -, -, d4, -⟩ := HC.out W (lp_up HL4.out hW).bel
                  exact ⟨hx4 5 _ rfl, d4, _, lp_up HL4.out hW⟩
                clear c0 c1 c4 v0 v5 HL3 HL4 HC HR HL HP0 HZ HV
                generalize wr = wo at *
                go_loopw [8] (fun v8 wr => ∃ k : Nat, v8 = .int .i64 (k : Int) ∧ k ≤ unTk ∧ Hid (Below w4.heap.size w4 wr)) (fun v8 _ => unTk - (intOf v8).toNat)
                case atStart => exact ⟨0, rfl, Nat.zero_le _, Below.refl _ _⟩
                case round =>
                  obtain ⟨k, rfl, hk, HWk⟩ := hrel
                  obtain ⟨d5, d4, HLE⟩ := HB4.out wr HWk.out
                  have HLF : Hid _ := HLE
                  clear HLE
                  by_cases hkl : k < unTk
                  · have hkl' : (k : Int) < (unTk : Int) := by omega
                    go_wp2
                    go_roundw
                    case rel => exact ⟨i + 1, by simp, by omega, HLF.out⟩
                    case measure => simp [intOf]; omega
                  · have hkl' : ¬ (k : Int) < (unTk : Int) := by omega
                    go_wp2
                    go_roundw
                    case rel => exact ⟨i + 1, by simp, by omega, HLF.out⟩
                    case measure => simp [intOf]; omega
        · as_aux_lemma =>
            go_wp2_with (go_at_call 20; refine CR.mono ?_; rintro e w4 ⟨rfl, b4⟩; obtain ⟨hx4, -⟩ := (lp_up HL3.out b4).box.cells; simp only [St.c] at hx4; (have v0 := hx4 0 _ rfl); (have v5 := hx4 5 _ rfl); obtain ⟨c0, c1, -, -, c4, -⟩ := HC.out w4 (lp_up HL3.out b4).bel; simp only [Nat.add_zero] at c0; (have HL4 : Hid _ := lp_up HL3.out b4); (have HT4 : Hid _ := HTk.out w4 b4); clear b4 CR hx4 HTk x0 x1 x2 x3 x4 x5 x6 x7 x8 x9 x10 x11)
            have HB4 : Hid (∀ W, Below w4.heap.size w4 W → W.cell? ⟨w1.heap.size, 5, none⟩ = some (.slice uaTk unTk ucTk) ∧ W.cell? ⟨b, off + i * 13 + 4, none⟩ = some (.int .u64 (r4 : Int)) ∧ ∃ t, Lp w W1 w1.heap.size v l s0 1 (i + 1) W t) := fun W hW => by
              obtain ⟨hx4, -⟩ := (lp_up HL4.out hW).box.cells
              simp only [St.c] at hx4
              obtain ⟨-, -, -, -, d4, -⟩ := HC.out W (lp_up HL4.out hW).bel
              exact ⟨hx4 5 _ rfl, d4, _, lp_up HL4.out hW⟩
            clear c0 c1 c4 v0 v5 HL3 HL4 HC HR HL HP0 HZ HV
            generalize wr = wo at *
            go_loopw [8] (fun v8 wr => ∃ k : Nat, v8 = .int .i64 (k : Int) ∧ k ≤ unTk ∧ Hid (Below w4.heap.size w4 wr)) (fun v8 _ => unTk - (intOf v8).toNat)
            case atStart => exact ⟨0, rfl, Nat.zero_le _, Below.refl _ _⟩
            case round =>
              obtain ⟨k, rfl, hk, HWk⟩ := hrel
              obtain ⟨d5, d4, HLE⟩ := HB4.out wr HWk.out
              have HLF : Hid _ := HLE
              clear HLE
              by_cases hkl : k < unTk
              · have hkl' : (k : Int) < (unTk : Int) := by omega
                go_wp2
                go_roundw
                case rel => exact ⟨i + 1, by simp, by omega, HLF.out⟩
                case measure => simp [intOf]; omega
              · have hkl' : ¬ (k : Int) < (unTk : Int) := by omega
                go_wp2
                go_roundw
                case rel => exact ⟨i + 1, by simp, by omega, HLF.out⟩
                case measure => simp [intOf]; omega
    · have hil' : ¬ (i : Int) < (l.length : Int) := by omega
      have HE : Hid (Below w.heap.size w wr) := by obtain ⟨t, hL⟩ := HW.out; exact hL.bel
      clear HW
      go_wp2
      go_ret
      exact ⟨rfl, HE.out⟩

set_option maxRecDepth 100000 in
theorem lifted (os : Os) (started : os.Started) (H : Type) (enc : TypeId × Value → H) :
    ReturnsInHanded {} Tryz.checked os 6 .any (Rows.foldRisesSpec.pre6 enc Tryz.prog Tryz.f6 Rows.foldRisesRow.domain false) (Rows.foldRisesSpec.post enc Tryz.prog Tryz.f6 false true false false) := by
  refine returnsInHanded_of_change_sized (C := Tryz.checked) own13 started (by kernel_rfl) Tryz.func6
    (ChangeSpec.witness6 (enc := enc) (C := Tryz.checked) false ⟨#[], #[.slice none 0 0], []⟩ 8 (by kernel_rfl) (by kernel_rfl) (by kernel_rfl) (by kernel_rfl)) ?_
  intro W base args ds gs before hval0 hW hcnd hsz0 _
  have hval : ∀ (j : Nat) t v, Tryz.f6.params[j]? = some t → args[j]? = some v → Value.okWide Tryz.prog W .any base t v := hval0
  have hsz : (DataW.weightsEach Tryz.prog (Tryz.f6.params.toList ++ Rows.foldRisesSpec.plain.varTypes Tryz.prog) (ds ++ gs)).all (· ≤ reachBytes) = true := hsz0
  have hW' := hW
  obtain ⟨p, q, hA0, hV, rfl, hfz, hnd⟩ := hW
  have hA : DataW.TrodAll enc Tryz.prog W 0 (fun _ => true) true Tryz.f6.params.toList args.toList ds p := hA0
  rw [Tryz.params6] at hA hval hsz
  obtain ⟨v0, vs0, d0, ds0, p0, q0, hargs, rfl, rfl, h0, r0⟩ := trodAll_cons hA
  obtain ⟨rfl, rfl, rfl⟩ := trodAll_nil r0
  obtain rfl : args = #[v0] := by cases args; simp_all
  obtain ⟨rfl, rfl⟩ := trodVars_none hV
  have k0 := h0
  have lt0 : ∀ x ∈ p0, x.block < W.heap.size := by obtain ⟨m, hm⟩ := k0; exact DataW.trod_lt m _ _ _ hm
  obtain ⟨l, hl, hr, hzz⟩ := openRcs (okWide_slice Tryz.underlying34 (hval 0 34 v0 rfl rfl)) h0
  have hz := hzz (sized_at hsz (i := 0) (t := 34) (d := d0) rfl rfl)
  clear hA0 hval0
  have hwk := walk hl hr hz.1 hz.2
  refine hwk.mono fun e W' ⟨he, bel⟩ => ?_
  subst he
  exact ⟨_, rfl, _, _, _, [], _, [], hW', trodAll_mk1 (shut_bool Tryz.underlying4 _), (trodAll_cons_mk (Below.trod laidOut13 (by kernel_rfl) (of_decide_eq_true (by kernel_rfl)) k0 bel lt0) trodAll_mk0), rfl, bel.frame _, fun h => by cases h⟩

theorem proved : Rows.FoldRisesSaid :=
  OpenClaim.holds_of_wide 6 Tryz.f6 rfl rfl rfl rfl rfl rfl rfl ⟨rfl, rfl, rfl, rfl, rfl⟩ rfl rfl rfl rfl rfl (by kernel_rfl) Tryz.func6 (by kernel_rfl)
    (of_decide_eq_true (by kernel_rfl)) (by unfold Func.isWrapper; first | (rw [if_pos (by decide +kernel)]; kernel_rfl) | (rw [if_neg (by decide +kernel)]; exact ⟨rfl, rfl⟩))
    (fun os started H enc _ => lifted os started H enc)
end Go.Proofs.YtgklemopmiabcaaGreat.foldRises

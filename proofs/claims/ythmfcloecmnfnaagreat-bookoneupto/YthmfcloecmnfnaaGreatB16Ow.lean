/-
  BookOne's walk.
-/
import Derived.Test.YthmfcloecmnfnaaGreatB16Shn
import Derived.Test.YthmfcloecmnfnaaGreatGOnp
import Derived.Test.YthmfcloecmnfnaaGreatGBad
import Derived.Test.YthmfcloecmnfnaaGreatF13Dtk
import Derived.Test.YthmfcloecmnfnaaGreatB16Acr
import Derived.Deep.RegionHeld3
namespace Go.Proofs.YthmfcloecmnfnaaGreat.f13
open Go.RowKit Go.Shelf Go.Sort
open Go.Lib hiding intOf
open Go.Proofs.YthmfcloecmnfnaaGreat
/-- what stands in the loop: the work, as it went on -/
structure On (B g : Nat) (w1 wr : World) (k : Wo) (i : Nat) : Prop where
  wk : Wk B wr g k
  sz : Sz k.s
  el : k.el.length ≤ 33 * i
  bel : Below B w1 wr
theorem _root_.Go.RowKit.Below.cell' {w w' : World} (h : Below w.heap.size w w') {p : Addr} {v : Value} (hc : w.cell? p = some v) : w'.cell? p = some v := (h.cell (p := p) (World.block_lt_of_cell? _ _ hc)).trans hc
theorem S_list (l : List UInt8) : (S l).toList = l := by simp [S]
theorem below_setRow {N g : Nat} {w w' : World} {cs : Array Value} (h : Below N w w') (hg : N ≤ g) : Below N w (w'.setRow g cs) :=
  ⟨h.os, h.tape, h.output, by rw [setRow_size]; exact h.size, fun k hk => (setRow_other _ _ _ _ (by omega)).trans (h.block k hk)⟩
theorem jb_one (y0 y1 : Nat) (y2 : ByteArray) (y3 : Int) (y4 : ByteArray) (y6 : Int) : (#[.int .u64 (y0 : Int), .int .u64 (y1 : Int), .string y2, .int .i64 y3, .string y4, .int .i64 y6] : Array Value).all (·.oneCell') = true := by simp [Value.oneCell']
theorem Own.old {B : Nat} {w w' : World} {L : List Rw} {X : Nat → Prop} (h : Own B w L) (hc : Ch X w w') (hX : ∀ b, X b → b < B) : Own B w' L := ⟨fun r hr => (h.own r hr).ch hc (fun b hb e => by have := ((h.own r hr).lt b hb).1; have := hX b e; omega), h.apart⟩
set_option maxHeartbeats 8000000 in
set_option maxRecDepth 100000 in
theorem one_main {w : World} {s : St} (hs : Sv w s) (hz : Sz s) {v : Value} {l : List Ax} (hl : Rr 7 Ax.c w v l) (hn : l.length ≤ 1048576) (hst : ∀ x ∈ l, x.s.length ≤ 1048576 ∧ x.t.length ≤ 1048576) :
    Calls Tryz.prog 4 #[.agg s.c.toArray, v] w fun e w' => e = .returned (.bool true) ∧ Below w.heap.size w w' := by
  have HS : Hid (Sv w s ∧ Sz s) := ⟨hs, hz⟩
  have HL : Hid (Rr 7 Ax.c w v l ∧ ∀ x ∈ l, x.s.length ≤ 1048576 ∧ x.t.length ≤ 1048576) := ⟨hl, hst⟩
  have hsl := Sv.slices hs
  obtain ⟨va, vcap, rfl, -⟩ := hl
  clear hs hz hst
  obtain ⟨⟨saDe, snDe, scDe, shDe⟩, ⟨saIn, snIn, scIn, shIn⟩, ⟨saTk, snTk, scTk, shTk⟩, ⟨saJb, snJb, scJb, shJb⟩, ⟨saTm, snTm, scTm, shTm⟩, ⟨saSb, snSb, scSb, shSb⟩, ⟨saKp, snKp, scKp, shKp⟩, ⟨saLs, snLs, scLs, shLs⟩, ⟨saMs, snMs, scMs, shMs⟩⟩ := hsl
  obtain ⟨spos, sdone, smade, svDe, slDe, svIn, slIn, svTk, slTk, svJb, slJb, svTm, slTm, svSb, slSb, svKp, slKp, svLs, slLs, svMs, slMs⟩ := s
  simp only at shDe shIn shTk shJb shTm shSb shKp shLs shMs
  subst shDe shIn shTk shJb shTm shSb shKp shLs shMs
  simp only [St.c]
  go_enter Tryz.func4, Tryz.ntmps4
  go_wp2_with (go_at_call 6; refine (shown_any _).mono ?_; rintro e w1 ⟨rfl, hb1⟩; (have hob1 : w1.heap[w.heap.size]? = some (.cells #[.int .u64 (spos : Int), .int .u64 (sdone : Int), .int .u64 (smade : Int), .slice saDe snDe scDe, .slice saIn snIn scIn, .slice saTk snTk scTk, .slice saJb snJb scJb, .slice saTm snTm scTm, .slice saSb snSb scSb, .slice saKp snKp scKp, .slice saLs snLs scLs, .slice saMs snMs scMs] 33 (0, 0)) := (hb1.block _ (by simp)).trans (heap_alloc_new w _)); (have HB1 : Hid (Below w.heap.size w w1 ∧ w.heap.size < w1.heap.size ∧ w1.heap[w.heap.size]? = some (.cells #[.int .u64 (spos : Int), .int .u64 (sdone : Int), .int .u64 (smade : Int), .slice saDe snDe scDe, .slice saIn snIn scIn, .slice saTk snTk scTk, .slice saJb snJb scJb, .slice saTm snTm scTm, .slice saSb snSb scSb, .slice saKp snKp scKp, .slice saLs snLs scLs, .slice saMs snMs scMs] 33 (0, 0))) := ⟨((Below.refl _ w).alloc (Nat.le_refl _) _).trans (hb1.mono (by simp)), by have := hb1.size; rw [World.size_alloc] at this; omega, hob1⟩); (have x0 : w1.cell? ⟨w.heap.size, 0, none⟩ = some (.int .u64 (spos : Int)) := by simp [World.cell?, hob1]); (have x1 : w1.cell? ⟨w.heap.size, 1, none⟩ = some (.int .u64 (sdone : Int)) := by simp [World.cell?, hob1]); (have x2 : w1.cell? ⟨w.heap.size, 2, none⟩ = some (.int .u64 (smade : Int)) := by simp [World.cell?, hob1]); (have x3 : w1.cell? ⟨w.heap.size, 3, none⟩ = some (.slice saDe snDe scDe) := by simp [World.cell?, hob1]); (have x4 : w1.cell? ⟨w.heap.size, 4, none⟩ = some (.slice saIn snIn scIn) := by simp [World.cell?, hob1]); (have x5 : w1.cell? ⟨w.heap.size, 5, none⟩ = some (.slice saTk snTk scTk) := by simp [World.cell?, hob1]); (have x6 : w1.cell? ⟨w.heap.size, 6, none⟩ = some (.slice saJb snJb scJb) := by simp [World.cell?, hob1]); (have x7 : w1.cell? ⟨w.heap.size, 7, none⟩ = some (.slice saTm snTm scTm) := by simp [World.cell?, hob1]); (have x8 : w1.cell? ⟨w.heap.size, 8, none⟩ = some (.slice saSb snSb scSb) := by simp [World.cell?, hob1]); (have x9 : w1.cell? ⟨w.heap.size, 9, none⟩ = some (.slice saKp snKp scKp) := by simp [World.cell?, hob1]); (have x10 : w1.cell? ⟨w.heap.size, 10, none⟩ = some (.slice saLs snLs scLs) := by simp [World.cell?, hob1]); (have x11 : w1.cell? ⟨w.heap.size, 11, none⟩ = some (.slice saMs snMs scMs) := by simp [World.cell?, hob1]); (have CB := Begin_any (HS.out.1.up HB1.out.1) HS.out.2 1 1 50); simp only [St.c] at CB; clear hb1 hob1)
  go_wp2_with (go_at_call 12; refine (CB).mono ?_; rintro e w2 ⟨g, t2, rfl, hE, hW, hb⟩; (have HO0 : Hid (On w1.heap.size g w1 w2 ⟨t2, 1, 1, 50, .slice none 0 0, []⟩ 0) := ⟨hW, Sz.of_e' (hE ▸ HS.out.2.to_e'), Nat.zero_le _, hb⟩); clear hE hW hb CB x0 x1 x2 x3 x4 x5 x6 x7 x8 x9 x10 x11; skip)
  go_loopw [7] (fun v7 wr => ∃ (i : Nat) (k : Wo), v7 = .int .i64 (i : Int) ∧ i ≤ l.length ∧ Hid (On w1.heap.size g w1 wr k i)) (fun v7 _ => l.length - (intOf v7).toNat)
  case atStart => exact ⟨0, _, rfl, Nat.zero_le _, HO0⟩
  case round =>
    obtain ⟨i, k, rfl, hi, HR⟩ := hrel
    by_cases hlt : i < l.length
    · obtain ⟨ab, ao, ac, hv, -, hab, hcell⟩ := HL.out.1.at hlt
      cases hv
      obtain ⟨x, hx⟩ : ∃ x, l[i] = x := ⟨_, rfl⟩
      have HX : Hid (x.s.length ≤ 1048576 ∧ x.t.length ≤ 1048576) := hx ▸ HL.out.2 _ (List.getElem_mem hlt)
      have HC : Hid (∀ W, Below w.heap.size w W → W.cell? ⟨ab, ao + i * 7 + 1, none⟩ = some (.string (S x.s)) ∧ W.cell? ⟨ab, ao + i * 7 + 2, none⟩ = some (.string (S x.t)) ∧ W.cell? ⟨ab, ao + i * 7 + 3, none⟩ = some (.int .i64 x.n) ∧ W.cell? ⟨ab, ao + i * 7 + 4, none⟩ = some (.int .i64 x.m)) := fun W hW => by
        have h := hcell W hW i hlt
        rw [hx] at h
        exact ⟨h 1 _ rfl, h 2 _ rfl, h 3 _ rfl, h 4 _ rfl⟩
      have HBw : Hid (Below w.heap.size w wr) := HB1.out.1.trans (HR.out.bel.mono HB1.out.1.size)
      have CS := State_any HR.out.wk HR.out.sz
      have i1 : (0 : Int) ≤ (i : Int) := by omega
      have i2 : (i : Int) < (l.length : Int) := by omega
      clear hcell hx
      go_upto_region 9 with (go_at_call 13; refine CS.mono ?_; rintro e w5 ⟨t5, rfl, hO, hE, hb⟩; (have H5 : Hid (Own wr.heap.size w5 t5.rows ∧ t5.e = k.s.e ∧ Below wr.heap.size wr w5) := ⟨hO, hE, hb⟩); obtain ⟨⟨taDe, tnDe, tcDe, thDe⟩, ⟨taIn, tnIn, tcIn, thIn⟩, ⟨taTk, tnTk, tcTk, thTk⟩, ⟨taJb, tnJb, tcJb, thJb⟩, ⟨taTm, tnTm, tcTm, thTm⟩, ⟨taSb, tnSb, tcSb, thSb⟩, ⟨taKp, tnKp, tcKp, thKp⟩, ⟨taLs, tnLs, tcLs, thLs⟩, ⟨taMs, tnMs, tcMs, thMs⟩⟩ := St.slices hO; obtain ⟨tpos, tdone, tmade, tvDe, tlDe, tvIn, tlIn, tvTk, tlTk, tvJb, tlJb, tvTm, tlTm, tvSb, tlSb, tvKp, tlKp, tvLs, tlLs, tvMs, tlMs⟩ := t5; simp only at thDe thIn thTk thJb thTm thSb thKp thLs thMs; subst thDe thIn thTk thJb thTm thSb thKp thLs thMs; simp only [St.c]; clear hO hE hb CS)
      obtain ⟨W6, hW6⟩ : ∃ W6, w5.alloc (.cells #[.int .u64 (tpos : Int), .int .u64 (tdone : Int), .int .u64 (tmade : Int), .slice taDe tnDe tcDe, .slice taIn tnIn tcIn, .slice taTk tnTk tcTk, .slice taJb tnJb tcJb, .slice taTm tnTm tcTm, .slice taSb tnSb tcSb, .slice taKp tnKp tcKp, .slice taLs tnLs tcLs, .slice taMs tnMs tcMs] 33) = W6 := ⟨_, rfl⟩
      have H6 : Hid (Below wr.heap.size wr W6 ∧ w5.heap.size < W6.heap.size) := by
        rw [← hW6]
        exact ⟨H5.out.2.2.alloc H5.out.2.2.size _, by rw [World.size_alloc]; exact Nat.lt_succ_self _⟩
      have HT : Hid (∀ W, Below W6.heap.size W6 W → W.heap[w5.heap.size]? = some (.cells #[.int .u64 (tpos : Int), .int .u64 (tdone : Int), .int .u64 (tmade : Int), .slice taDe tnDe tcDe, .slice taIn tnIn tcIn, .slice taTk tnTk tcTk, .slice taJb tnJb tcJb, .slice taTm tnTm tcTm, .slice taSb tnSb tcSb, .slice taKp tnKp tcKp, .slice taLs tnLs tcLs, .slice taMs tnMs tcMs] 33 (0, 0)) ∧ Sv W (⟨tpos, tdone, tmade, .slice taDe tnDe tcDe, tlDe, .slice taIn tnIn tcIn, tlIn, .slice taTk tnTk tcTk, tlTk, .slice taJb tnJb tcJb, tlJb, .slice taTm tnTm tcTm, tlTm, .slice taSb tnSb tcSb, tlSb, .slice taKp tnKp tcKp, tlKp, .slice taLs tnLs tcLs, tlLs, .slice taMs tnMs tcMs, tlMs⟩ : St)) := fun W hW => by
        have h5 : Below w5.heap.size w5 W6 := by rw [← hW6]; exact (Below.refl _ w5).alloc (Nat.le_refl _) _
        exact ⟨(hW.block _ H6.out.2).trans (by rw [← hW6]; exact heap_alloc_new w5 _), Own.sv ((H5.out.1.up h5).up hW)⟩
      have HO6 : Hid (Own wr.heap.size W6 (⟨tpos, tdone, tmade, .slice taDe tnDe tcDe, tlDe, .slice taIn tnIn tcIn, tlIn, .slice taTk tnTk tcTk, tlTk, .slice taJb tnJb tcJb, tlJb, .slice taTm tnTm tcTm, tlTm, .slice taSb tnSb tcSb, tlSb, .slice taKp tnKp tcKp, tlKp, .slice taLs tnLs tcLs, tlLs, .slice taMs tnMs tcMs, tlMs⟩ : St).rows ∧ wr.heap.size ≤ w5.heap.size ∧ g < wr.heap.size ∧ (∀ b, k.ev.ownBlock = some b → b < wr.heap.size)) := ⟨H5.out.1.up (by rw [← hW6]; exact (Below.refl _ w5).alloc (Nat.le_refl _) _), H5.out.2.2.size, HR.out.wk.lt.2, fun b hb => (HR.out.wk.has_lt (Wo.has_ev hb)).2⟩
      have HJ : Hid (tlJb = k.s.jobs) := St.jobs_e H5.out.2.1
      have HB6 : Hid (Below w.heap.size w W6) := HBw.out.trans (H6.out.1.mono HBw.out.size)
      obtain ⟨c1, c2, c3, c4⟩ := HC.out W6 HB6.out
      have HB16 : Hid (w1.heap.size ≤ W6.heap.size) := Nat.le_trans HR.out.bel.size H6.out.1.size
      have B17 : Hid (∀ W, Below w1.heap.size W6 W → Below w1.heap.size w1 W) := fun W hW => (HR.out.bel.trans (H6.out.1.mono HR.out.bel.size)).trans hW
      have HE : Hid (k.el.length ≤ 33 * i ∧ i < 1048576) := ⟨HR.out.el, by omega⟩
      rw [hW6]
      clear hW6 H5
      by_cases hmay : mayA x.s x.t x.n x.m
      · obtain ⟨m1, m2, m3, m4⟩ := hmay
        obtain ⟨M, hM⟩ : ∃ M, (rdyT x.s k.s.jobs k.s.jobs.length).take x.n.toNat = M := ⟨_, rfl⟩
        have HM : Hid ((rdyT x.s k.s.jobs k.s.jobs.length).take x.n.toNat = M ∧ M.length ≤ 32 ∧ (M.length : Int) ≤ x.n) := ⟨hM, by rw [← hM, List.length_take]; omega, by rw [← hM, List.length_take]; omega⟩
        have CA : Hid (∀ W, Below W6.heap.size W6 W → _) := fun W hW => act_yes (kind := x.s) (wk := x.t) (mo := x.n) (wt := x.m) ((HR.out.wk.up H6.out.1).up hW) (Nat.le_trans HR.out.bel.size (Nat.le_trans H6.out.1.size hW.size)) HR.out.sz (by have := HE.out; omega) m1 m2 m3.1 m3.2 m4.1 m4.2
        rw [hM] at CA
        clear hM
        go_region_held3 (fun W => W.cell? ⟨ab, ao + i * 7 + 1, none⟩ = some (.string (S x.s)) ∧ W.cell? ⟨ab, ao + i * 7 + 2, none⟩ = some (.string (S x.t)) ∧ W.cell? ⟨ab, ao + i * 7 + 3, none⟩ = some (.int .i64 x.n) ∧ W.cell? ⟨ab, ao + i * 7 + 4, none⟩ = some (.int .i64 x.m))
          (first | go_keep | exact HC.out _ HB6.out | exact HC.out _ HB6.out.drew | exact HC.out _ HB7.out | exact HC.out _ HB7.out.drew)
          ((go_at_call 14; refine (CA.out _ (Below.refl _ _).drew).mono ?_; rintro e w7 ⟨av, k', rfl, h1, h2, h3, h4, -⟩; obtain ⟨la, lc, rfl, -⟩ := row_slice h4; (have h67 : Below w1.heap.size W6 w7 := ((Below.refl _ W6).drew.mono HB16.out).trans (h1.bel ((HR.out.wk.up H6.out.1).up (Below.refl _ W6).drew) HB16.out)); (have HB7 : Hid (Below w.heap.size w w7) := HB6.out.trans (h67.mono HB1.out.1.size)); (have HA : Hid (Wk w1.heap.size w7 g k' ∧ Sz k'.s ∧ ActP k x.t (IntKind.i64.wrap (k.nw + x.m)) M k' ∧ Below w1.heap.size w1 w7 ∧ w7.ownsRow W6.heap.size 46 6 (.slice la M.length lc) M.length ((M.map (fun y => actJ x.t (IntKind.i64.wrap (k.nw + x.m)) y.1)).flatMap Jb.c)) := ⟨h1.wk, h2, h3, B17.out _ h67, h4⟩); (have HO7 : Hid (w7.heap[w5.heap.size]? = some (.cells #[.int .u64 (tpos : Int), .int .u64 (tdone : Int), .int .u64 (tmade : Int), .slice taDe tnDe tcDe, .slice taIn tnIn tcIn, .slice taTk tnTk tcTk, .slice taJb tnJb tcJb, .slice taTm tnTm tcTm, .slice taSb tnSb tcSb, .slice taKp tnKp tcKp, .slice taLs tnLs tcLs, .slice taMs tnMs tcMs] 33 (0, 0)) ∧ Own wr.heap.size w7 (⟨tpos, tdone, tmade, .slice taDe tnDe tcDe, tlDe, .slice taIn tnIn tcIn, tlIn, .slice taTk tnTk tcTk, tlTk, .slice taJb tnJb tcJb, tlJb, .slice taTm tnTm tcTm, tlTm, .slice taSb tnSb tcSb, tlSb, .slice taKp tnKp tcKp, tlKp, .slice taLs tnLs tcLs, tlLs, .slice taMs tnMs tcMs, tlMs⟩ : St).rows) := ⟨(h1.ch.block _ (show w5.heap.size < W6.drew.heap.size from H6.out.2) (fun e => by have h5 := HO6.out.2.1; have h6 := HO6.out.2.2.1; rcases e with e | e; omega; have := HO6.out.2.2.2 _ e; omega)).trans ((HT.out _ (Below.refl _ W6).drew).1), (HO6.out.1.up (Below.refl _ W6).drew).old h1.ch (fun b e => by rcases e with e | e; (have := HO6.out.2.2.1; omega); exact HO6.out.2.2.2 _ e)⟩); clear h1 h2 h3 h4 h67))
        all_goals
          have HEL : Hid (k'.el.length ≤ 33 * (i + 1)) := by
            have h1 := congrArg List.length HA.out.2.2.1.el
            have h2 := HE.out.1
            have h3 := HM.out.2.1
            show k'.el.length ≤ _
            by_cases hM0 : M.length = 0
            · rw [if_pos hM0] at h1
              simp at h1
              omega
            · rw [if_neg hM0] at h1
              simp at h1
              omega
          have HT7 : Hid (∀ W, Below w7.heap.size w7 W → (W.cell? ⟨w5.heap.size, 0, none⟩ = some (.int .u64 (tpos : Int)) ∧ W.cell? ⟨w5.heap.size, 1, none⟩ = some (.int .u64 (tdone : Int)) ∧ W.cell? ⟨w5.heap.size, 2, none⟩ = some (.int .u64 (tmade : Int)) ∧ W.cell? ⟨w5.heap.size, 3, none⟩ = some (.slice taDe tnDe tcDe) ∧ W.cell? ⟨w5.heap.size, 4, none⟩ = some (.slice taIn tnIn tcIn) ∧ W.cell? ⟨w5.heap.size, 5, none⟩ = some (.slice taTk tnTk tcTk) ∧ W.cell? ⟨w5.heap.size, 6, none⟩ = some (.slice taJb tnJb tcJb) ∧ W.cell? ⟨w5.heap.size, 7, none⟩ = some (.slice taTm tnTm tcTm) ∧ W.cell? ⟨w5.heap.size, 8, none⟩ = some (.slice taSb tnSb tcSb) ∧ W.cell? ⟨w5.heap.size, 9, none⟩ = some (.slice taKp tnKp tcKp) ∧ W.cell? ⟨w5.heap.size, 10, none⟩ = some (.slice taLs tnLs tcLs) ∧ W.cell? ⟨w5.heap.size, 11, none⟩ = some (.slice taMs tnMs tcMs)) ∧ Sv W (⟨tpos, tdone, tmade, .slice taDe tnDe tcDe, tlDe, .slice taIn tnIn tcIn, tlIn, .slice taTk tnTk tcTk, tlTk, .slice taJb tnJb tcJb, tlJb, .slice taTm tnTm tcTm, tlTm, .slice taSb tnSb tcSb, tlSb, .slice taKp tnKp tcKp, tlKp, .slice taLs tnLs tcLs, tlLs, .slice taMs tnMs tcMs, tlMs⟩ : St)) := fun W hW => by
            have h := (hW.block _ (Array.getElem?_eq_some_iff.1 HO7.out.1).1).trans HO7.out.1
            exact ⟨⟨by simp [World.cell?, h], by simp [World.cell?, h], by simp [World.cell?, h], by simp [World.cell?, h], by simp [World.cell?, h], by simp [World.cell?, h], by simp [World.cell?, h], by simp [World.cell?, h], by simp [World.cell?, h], by simp [World.cell?, h], by simp [World.cell?, h], by simp [World.cell?, h]⟩, Own.sv (HO7.out.2.up hW)⟩
          have MG : Hid (∀ j, j < M.length → ∃ g1, la = some ⟨g1, 0, none⟩) := fun j h => by
            rcases HA.out.2.2.2.2.2 with ⟨e, h0⟩ | ⟨g, cap', cur, e, -⟩
            · omega
            · cases e; exact ⟨g, rfl⟩
          have HX7 : Hid (∀ j, (h : j < M.length) → ∀ g1, la = some ⟨g1, 0, none⟩ → ∀ W, Below w7.heap.size w7 W → W.cell? ⟨g1, j * 6, none⟩ = some (.int .u64 (M[j].1.key : Int))) := fun j h g1 e W hW => by
            subst e
            refine (hW.cell (p := ⟨g1, j * 6, none⟩) (HA.out.2.2.2.2.lt g1 rfl).2).trans (row_cell HA.out.2.2.2.2 ?_)
            have := fm_get Jb.k (M.map (fun y => actJ x.t (IntKind.i64.wrap (k.nw + x.m)) y.1)) j 0 (by decide)
            rw [Nat.add_zero] at this
            rw [this, List.getElem?_map, List.getElem?_eq_getElem h]
            rfl
          have HY : Hid (∀ j, (h : j < M.length) → ∃ y : Jb, fstJb (fun z => z.kk == M[j].1.key) tlJb = (y, true) ∧ (y.wkr = [] ∨ decide (cntJ M[j].1.key tlJb tlJb.length = 1) = false)) := fun j h => by
            rw [HJ.out]
            refine rdy_first (kind := x.s) ?_
            have h2 : M[j] ∈ (rdyT x.s k.s.jobs k.s.jobs.length).take x.n.toNat := by rw [HM.out.1]; exact List.getElem_mem h
            exact List.mem_of_mem_take h2
          have HNJ : Hid (tlJb.length ≤ 4611686018427387904) := by
            have := HR.out.sz.nJb
            rw [← HJ.out] at this
            show tlJb.length ≤ _
            omega
          have hml : M.length ≤ 32 := HM.out.2.1
          have hmn : ¬ x.n < (M.length : Int) := by have := HM.out.2.2; omega
          clear c1 c2 c3 c4 m1 m2 m3 m4
          go_wp2_with fail
          generalize wr = wo at *
          go_loopw [11] (fun v11 wr => ∃ j : Nat, v11 = .int .i64 (j : Int) ∧ j ≤ M.length ∧ Hid (Below w7.heap.size w7 wr)) (fun v11 _ => M.length - (intOf v11).toNat)
          case atStart => exact ⟨0, rfl, Nat.zero_le _, Below.refl _ _⟩
          case round =>
            obtain ⟨j, rfl, hj, HQ⟩ := hrel
            by_cases hjl : j < M.length
            · obtain ⟨g1, rfl⟩ := MG.out j hjl
              obtain ⟨y, hy, hyw⟩ := HY.out j hjl
              have HF : Hid (∀ W, Below w7.heap.size w7 W → (W.cell? ⟨w5.heap.size, 0, none⟩ = some (.int .u64 (tpos : Int)) ∧ W.cell? ⟨w5.heap.size, 1, none⟩ = some (.int .u64 (tdone : Int)) ∧ W.cell? ⟨w5.heap.size, 2, none⟩ = some (.int .u64 (tmade : Int)) ∧ W.cell? ⟨w5.heap.size, 3, none⟩ = some (.slice taDe tnDe tcDe) ∧ W.cell? ⟨w5.heap.size, 4, none⟩ = some (.slice taIn tnIn tcIn) ∧ W.cell? ⟨w5.heap.size, 5, none⟩ = some (.slice taTk tnTk tcTk) ∧ W.cell? ⟨w5.heap.size, 6, none⟩ = some (.slice taJb tnJb tcJb) ∧ W.cell? ⟨w5.heap.size, 7, none⟩ = some (.slice taTm tnTm tcTm) ∧ W.cell? ⟨w5.heap.size, 8, none⟩ = some (.slice taSb tnSb tcSb) ∧ W.cell? ⟨w5.heap.size, 9, none⟩ = some (.slice taKp tnKp tcKp) ∧ W.cell? ⟨w5.heap.size, 10, none⟩ = some (.slice taLs tnLs tcLs) ∧ W.cell? ⟨w5.heap.size, 11, none⟩ = some (.slice taMs tnMs tcMs)) ∧ W.cell? ⟨g1, j * 6, none⟩ = some (.int .u64 (M[j].1.key : Int))) := fun W hW => ⟨(HT7.out W hW).1, HX7.out j hjl g1 rfl W hW⟩
              have CJ : Hid (∀ W, Below w7.heap.size w7 W → _) := fun W hW => dJob_any (w := W) M[j].1.key (HT7.out W hW).2 HNJ.out
              have CO : Hid (∀ W, Below w7.heap.size w7 W → _) := fun W hW => one_any (w := W) M[j].1.key (HT7.out W hW).2 HNJ.out
              simp only [hy] at CJ
              obtain ⟨y0, y1, y2, y3, y4, y6⟩ := y
              simp only [St.c, Jb.c] at CJ CO
              simp only at hyw
              clear hy
              generalize M[j].1.key = key at *
              have i3 : (0 : Int) ≤ (j : Int) := by omega
              have i4 : (j : Int) < (M.length : Int) := by omega
              go_upto_region 13 with fail
              refine wp_region_held_drew (S := (fun W => Below w7.heap.size w7 W)) (by kernel_rfl) (by (first | exact HQ.out | exact HQ.out.drew | exact HQ.out.drew.drew | exact (HQ.out.alloc HQ.out.size _) | exact (HQ.out.alloc HQ.out.size _).drew | exact (HQ.out.drew.alloc HQ.out.size _) | exact (HQ.out.drew.alloc HQ.out.size _).drew | exact (HQ.out.alloc HQ.out.size _).drew.drew | exact (HQ.out.drew.drew.alloc HQ.out.size _) | exact H8.out | exact H8.out.drew | exact H8.out.drew.drew | exact (H8.out.alloc H8.out.size _) | exact (H8.out.alloc H8.out.size _).drew | exact (H8.out.drew.alloc H8.out.size _) | exact (H8.out.drew.alloc H8.out.size _).drew | exact (H8.out.alloc H8.out.size _).drew.drew | exact (H8.out.drew.drew.alloc H8.out.size _) | exact below_setRow H8.out HQ.out.size | exact (below_setRow H8.out HQ.out.size).drew | go_keep)) (fun hHeld => ?_)
              refine wpAnyH_take (i := 0) (v := ?_) rfl (by kernel_rfl) (by kernel_rfl) (by kernel_rfl) (fun _ _ _ h => h) (Or.inl ⟨by kernel_rfl, ?_⟩) (by assumption) ?_
              rotate_left 1
              · intro W hSW; obtain ⟨⟨f0, f1, f2, f3, f4, f5, f6, f7, f8, f9, f10, f11⟩, -⟩ := HF.out W hSW; clear hSW; go_simp; try with_reducible rfl
              refine wpAnyH_take (i := 1) (v := ?_) rfl (by kernel_rfl) (by kernel_rfl) (by kernel_rfl) (fun _ _ _ h => h) (Or.inl ⟨by kernel_rfl, ?_⟩) (by assumption) ?_
              rotate_left 1
              · intro W hSW; clear hSW; go_simp; try with_reducible rfl
              refine wpAnyH_take (i := 2) (v := ?_) rfl (by kernel_rfl) (by kernel_rfl) (by kernel_rfl) (fun _ _ _ h => h) (Or.inl ⟨by kernel_rfl, ?_⟩) (by assumption) ?_
              rotate_left 1
              · intro W hSW; clear hSW; go_simp; try with_reducible rfl
              refine wpAnyH_take (i := 3) (v := ?_) rfl (by kernel_rfl) (by kernel_rfl) (by kernel_rfl) (fun _ _ _ h => h) (Or.inl ⟨by kernel_rfl, ?_⟩) (by assumption) ?_
              rotate_left 1
              · intro W hSW; clear hSW; go_simp; try with_reducible rfl
              refine wpAnyH_take (i := 4) (v := ?_) rfl (by kernel_rfl) (by kernel_rfl) (by kernel_rfl) (fun _ _ _ h => h) (Or.inl ⟨by kernel_rfl, ?_⟩) (by assumption) ?_
              rotate_left 1
              · intro W hSW; clear hSW; go_simp; try with_reducible rfl
              refine wpAnyH_take (i := 5) (v := ?_) rfl (by kernel_rfl) (by kernel_rfl) (by kernel_rfl) (fun _ _ _ h => h) (Or.inl ⟨by kernel_rfl, ?_⟩) (by assumption) ?_
              rotate_left 1
              · intro W hSW; obtain ⟨-, fk⟩ := HF.out W hSW; clear hSW; go_simp; try with_reducible rfl
              refine wpAnyH_ready (rs := [6, 10]) (by kernel_rfl) (by simp) ?_
              refine AllReadyH.cons rfl (fun K hK => ?_) ?_
              · go_simp
                (go_at_call 15; refine (CJ.out _ (by (first | exact HQ.out | exact HQ.out.drew | exact HQ.out.drew.drew | exact (HQ.out.alloc HQ.out.size _) | exact (HQ.out.alloc HQ.out.size _).drew | exact (HQ.out.drew.alloc HQ.out.size _) | exact (HQ.out.drew.alloc HQ.out.size _).drew | exact (HQ.out.alloc HQ.out.size _).drew.drew | exact (HQ.out.drew.drew.alloc HQ.out.size _)))).mono ?_; rintro e w8 ⟨rfl, hb8⟩; (have H8 : Hid (Below w7.heap.size w7 w8) := bel_of (by (first | exact HQ.out | exact HQ.out.drew | exact HQ.out.drew.drew | exact (HQ.out.alloc HQ.out.size _) | exact (HQ.out.alloc HQ.out.size _).drew | exact (HQ.out.drew.alloc HQ.out.size _) | exact (HQ.out.drew.alloc HQ.out.size _).drew | exact (HQ.out.alloc HQ.out.size _).drew.drew | exact (HQ.out.drew.drew.alloc HQ.out.size _))) hb8 (Nat.le_refl _)); clear hb8)
                go_wp2_with fail
                refine hK.out _ _ (by (first | exact HQ.out | exact HQ.out.drew | exact HQ.out.drew.drew | exact (HQ.out.alloc HQ.out.size _) | exact (HQ.out.alloc HQ.out.size _).drew | exact (HQ.out.drew.alloc HQ.out.size _) | exact (HQ.out.drew.alloc HQ.out.size _).drew | exact (HQ.out.alloc HQ.out.size _).drew.drew | exact (HQ.out.drew.drew.alloc HQ.out.size _) | exact H8.out | exact H8.out.drew | exact H8.out.drew.drew | exact (H8.out.alloc H8.out.size _) | exact (H8.out.alloc H8.out.size _).drew | exact (H8.out.drew.alloc H8.out.size _) | exact (H8.out.drew.alloc H8.out.size _).drew | exact (H8.out.alloc H8.out.size _).drew.drew | exact (H8.out.drew.drew.alloc H8.out.size _) | exact below_setRow H8.out HQ.out.size | exact (below_setRow H8.out HQ.out.size).drew | go_keep)) (fun hHeld => ?_)
                clear hK K
                refine wpAnyH_take (i := 7) (v := ?_) rfl (by kernel_rfl) (by kernel_rfl) (by kernel_rfl) (fun _ _ _ h => h) (Or.inl ⟨by kernel_rfl, ?_⟩) (by assumption) ?_
                rotate_left 1
                · intro W hSW; clear hSW; go_simp; try with_reducible rfl
                refine wpAnyH_take (i := 8) (v := ?_) rfl (by kernel_rfl) (by kernel_rfl) (by kernel_rfl) (fun _ _ _ h => h) (Or.inl ⟨by kernel_rfl, ?_⟩) (by assumption) ?_
                rotate_left 1
                · intro W hSW; clear hSW; go_simp; try with_reducible rfl
                refine wpAnyH_take (i := 9) (v := ?_) rfl (by kernel_rfl) (by kernel_rfl) (by kernel_rfl) (fun _ _ _ h => h) (Or.inl ⟨by kernel_rfl, ?_⟩) (by assumption) ?_
                rotate_left 1
                · intro W hSW; clear hSW; go_simp; try with_reducible rfl
                refine wpAnyH_ready (rs := [10]) (by kernel_rfl) (by simp) ?_
                refine AllReadyH.cons rfl (fun K hK => ?_) AllReadyH.nil
                go_simp
                refine hK.out _ _ (by (first | exact HQ.out | exact HQ.out.drew | exact HQ.out.drew.drew | exact (HQ.out.alloc HQ.out.size _) | exact (HQ.out.alloc HQ.out.size _).drew | exact (HQ.out.drew.alloc HQ.out.size _) | exact (HQ.out.drew.alloc HQ.out.size _).drew | exact (HQ.out.alloc HQ.out.size _).drew.drew | exact (HQ.out.drew.drew.alloc HQ.out.size _) | exact H8.out | exact H8.out.drew | exact H8.out.drew.drew | exact (H8.out.alloc H8.out.size _) | exact (H8.out.alloc H8.out.size _).drew | exact (H8.out.drew.alloc H8.out.size _) | exact (H8.out.drew.alloc H8.out.size _).drew | exact (H8.out.alloc H8.out.size _).drew.drew | exact (H8.out.drew.drew.alloc H8.out.size _) | exact below_setRow H8.out HQ.out.size | exact (below_setRow H8.out HQ.out.size).drew | go_keep)) (fun hHeld => ?_)
                clear hK K
                refine wpAnyH_ready (rs := [11]) (by kernel_rfl) (by simp) ?_
                refine AllReadyH.cons rfl (fun K hK => ?_) AllReadyH.nil
                go_simp
                refine hK.out _ _ (by (first | exact HQ.out | exact HQ.out.drew | exact HQ.out.drew.drew | exact (HQ.out.alloc HQ.out.size _) | exact (HQ.out.alloc HQ.out.size _).drew | exact (HQ.out.drew.alloc HQ.out.size _) | exact (HQ.out.drew.alloc HQ.out.size _).drew | exact (HQ.out.alloc HQ.out.size _).drew.drew | exact (HQ.out.drew.drew.alloc HQ.out.size _) | exact H8.out | exact H8.out.drew | exact H8.out.drew.drew | exact (H8.out.alloc H8.out.size _) | exact (H8.out.alloc H8.out.size _).drew | exact (H8.out.drew.alloc H8.out.size _) | exact (H8.out.drew.alloc H8.out.size _).drew | exact (H8.out.alloc H8.out.size _).drew.drew | exact (H8.out.drew.drew.alloc H8.out.size _) | exact below_setRow H8.out HQ.out.size | exact (below_setRow H8.out HQ.out.size).drew | go_keep)) (fun hHeld => ?_)
                clear hK K
                refine wpAnyH_take (i := 12) (v := ?_) rfl (by kernel_rfl) (by kernel_rfl) (by kernel_rfl) (fun _ _ _ h => h) (Or.inl ⟨by kernel_rfl, ?_⟩) (by assumption) ?_
                rotate_left 1
                · intro W hSW; clear hSW; go_simp; try with_reducible rfl
                refine wpAnyH_done (by kernel_rfl) ?_ _
                obtain ⟨W9, hW9⟩ : ∃ W9, w8.alloc (.cells #[.int .u64 (y0 : Int), .int .u64 (y1 : Int), .string (S y2), .int .i64 y3, .string (S y4), .int .i64 y6] 46) = W9 := ⟨_, rfl⟩
                rw [hW9]
                have x4 : W9.cell? ⟨w8.heap.size, 4, none⟩ = some (.string (S y4)) := by rw [← hW9]; exact World.cell?_alloc_new _ _ _ 4
                have HW9 : Hid (Below w7.heap.size w7 W9) := by rw [← hW9]; exact H8.out.alloc H8.out.size _
                clear hW9
                go_simp
                have HS9 : Hid (Below W9.heap.size W9 W9) := Below.refl _ _
                by_cases h0 : y4 = []
                · subst h0
                  have x4 : W9.cell? ⟨w8.heap.size, 4, none⟩ = some (.string ⟨#[]⟩) := x4
                  clear CJ CO hyw
                  go_wp2_with fail
                  refine wp_region_held_drew (S := (fun W => Below W9.heap.size W9 W)) (by kernel_rfl) (by (first | exact HS9.out | exact HS9.out.drew | exact HS9.out.drew.drew | exact (HS9.out.alloc HS9.out.size _) | exact (HS9.out.alloc HS9.out.size _).drew | exact (HS9.out.drew.alloc HS9.out.size _) | exact (HS9.out.drew.alloc HS9.out.size _).drew | exact (HS9.out.alloc HS9.out.size _).drew.drew | exact (HS9.out.drew.drew.alloc HS9.out.size _) | go_keep)) (fun hHeld => ?_)
                  refine wpAnyH_take (i := 0) (v := ?_) rfl (by kernel_rfl) (by kernel_rfl) (by kernel_rfl) (fun _ _ _ h => h) (Or.inl ⟨by kernel_rfl, ?_⟩) (by assumption) ?_
                  rotate_left 1
                  · intro W hSW; clear hSW; go_simp; try with_reducible rfl
                  refine wpAnyH_take (i := 1) (v := ?_) rfl (by kernel_rfl) (by kernel_rfl) (by kernel_rfl) (fun _ _ _ h => h) (Or.inl ⟨by kernel_rfl, ?_⟩) (by assumption) ?_
                  rotate_left 1
                  · intro W hSW; clear hSW; go_simp; try with_reducible rfl
                  refine wpAnyH_take (i := 2) (v := ?_) rfl (by kernel_rfl) (by kernel_rfl) (by kernel_rfl) (fun _ _ _ h => h) (Or.inl ⟨by kernel_rfl, ?_⟩) (by assumption) ?_
                  rotate_left 1
                  · intro W hSW; clear hSW; go_simp; try with_reducible rfl
                  refine wpAnyH_take (i := 3) (v := ?_) rfl (by kernel_rfl) (by kernel_rfl) (by kernel_rfl) (fun _ _ _ h => h) (Or.inl ⟨by kernel_rfl, ?_⟩) (by assumption) ?_
                  rotate_left 1
                  · intro W hSW; clear hSW; go_simp; try with_reducible rfl
                  refine wpAnyH_take (i := 4) (v := ?_) rfl (by kernel_rfl) (by kernel_rfl) (by kernel_rfl) (fun _ _ _ h => h) (Or.inl ⟨by kernel_rfl, ?_⟩) (by assumption) ?_
                  rotate_left 1
                  · intro W hSW; clear hSW; go_simp; try with_reducible rfl
                  refine wpAnyH_take (i := 5) (v := ?_) rfl (by kernel_rfl) (by kernel_rfl) (by kernel_rfl) (fun _ _ _ h => h) (Or.inl ⟨by kernel_rfl, ?_⟩) (by assumption) ?_
                  rotate_left 1
                  · intro W hSW; clear hSW; go_simp; try with_reducible rfl
                  refine wpAnyH_take (i := 6) (v := ?_) rfl (by kernel_rfl) (by kernel_rfl) (by kernel_rfl) (fun _ _ _ h => h) (Or.inl ⟨by kernel_rfl, ?_⟩) (by assumption) ?_
                  rotate_left 1
                  · intro W hSW; clear hSW; go_simp; try with_reducible rfl
                  refine wpAnyH_take (i := 7) (v := ?_) rfl (by kernel_rfl) (by kernel_rfl) (by kernel_rfl) (fun _ _ _ h => h) (Or.inl ⟨by kernel_rfl, ?_⟩) (by assumption) ?_
                  rotate_left 1
                  · intro W hSW; clear hSW; go_simp; try with_reducible rfl
                  refine wpAnyH_take (i := 8) (v := ?_) rfl (by kernel_rfl) (by kernel_rfl) (by kernel_rfl) (fun _ _ _ h => h) (Or.inl ⟨by kernel_rfl, ?_⟩) (by assumption) ?_
                  rotate_left 1
                  · intro W hSW; have fw := hSW.cell' x4; clear hSW; go_simp; try with_reducible rfl
                  refine wpAnyH_take (i := 9) (v := ?_) rfl (by kernel_rfl) (by kernel_rfl) (by kernel_rfl) (fun _ _ _ h => h) (Or.inl ⟨by kernel_rfl, ?_⟩) (by assumption) ?_
                  rotate_left 1
                  · intro W hSW; clear hSW; go_simp; try with_reducible rfl
                  refine wpAnyH_take (i := 10) (v := ?_) rfl (by kernel_rfl) (by kernel_rfl) (by kernel_rfl) (fun _ _ _ h => h) (Or.inl ⟨by kernel_rfl, ?_⟩) (by assumption) ?_
                  rotate_left 1
                  · intro W hSW; clear hSW; go_simp; try with_reducible rfl
                  refine wpAnyH_take (i := 11) (v := undef) rfl (by kernel_rfl) (by kernel_rfl) (by kernel_rfl) (fun _ _ _ h => h) (Or.inr ⟨by kernel_rfl, by kernel_rfl⟩) (by assumption) ?_
                  refine wpAnyH_take (i := 12) (v := undef) rfl (by kernel_rfl) (by kernel_rfl) (by kernel_rfl) (fun _ _ _ h => h) (Or.inr ⟨by kernel_rfl, by kernel_rfl⟩) (by assumption) ?_
                  refine wpAnyH_take (i := 13) (v := undef) rfl (by kernel_rfl) (by kernel_rfl) (by kernel_rfl) (fun _ _ _ h => h) (Or.inr ⟨by kernel_rfl, by kernel_rfl⟩) (by assumption) ?_
                  refine wpAnyH_take (i := 14) (v := undef) rfl (by kernel_rfl) (by kernel_rfl) (by kernel_rfl) (fun _ _ _ h => h) (Or.inr ⟨by kernel_rfl, by kernel_rfl⟩) (by assumption) ?_
                  refine wpAnyH_take (i := 15) (v := undef) rfl (by kernel_rfl) (by kernel_rfl) (by kernel_rfl) (fun _ _ _ h => h) (Or.inr ⟨by kernel_rfl, by kernel_rfl⟩) (by assumption) ?_
                  refine wpAnyH_take (i := 16) (v := undef) rfl (by kernel_rfl) (by kernel_rfl) (by kernel_rfl) (fun _ _ _ h => h) (Or.inr ⟨by kernel_rfl, by kernel_rfl⟩) (by assumption) ?_
                  refine wpAnyH_take (i := 17) (v := undef) rfl (by kernel_rfl) (by kernel_rfl) (by kernel_rfl) (fun _ _ _ h => h) (Or.inr ⟨by kernel_rfl, by kernel_rfl⟩) (by assumption) ?_
                  refine wpAnyH_take (i := 18) (v := ?_) rfl (by kernel_rfl) (by kernel_rfl) (by kernel_rfl) (fun _ _ _ h => h) (Or.inl ⟨by kernel_rfl, ?_⟩) (by assumption) ?_
                  rotate_left 1
                  · intro W hSW; clear hSW; go_simp; try with_reducible rfl
                  refine wpAnyH_take (i := 19) (v := ?_) rfl (by kernel_rfl) (by kernel_rfl) (by kernel_rfl) (fun _ _ _ h => h) (Or.inl ⟨by kernel_rfl, ?_⟩) (by assumption) ?_
                  rotate_left 1
                  · intro W hSW; clear hSW; go_simp; try with_reducible rfl
                  refine wpAnyH_done (by kernel_rfl) ?_ _
                  go_simp
                  go_wp2
                  go_roundw
                  case rel => exact ⟨j + 1, by simp, hjl, (by first | exact HW9.out | exact HW9.out.drew | exact bel_of HW9.out H10.out (Nat.le_refl _) | exact (bel_of HW9.out H10.out (Nat.le_refl _)).drew)⟩
                  case measure => simp [intOf]; omega
                · have hcnt := hyw.resolve_left h0
                  rw [hcnt] at CO
                  have hne : ((S y4).toList == []) = false := by rw [S_list]; exact beq_eq_false_iff_ne.2 h0
                  clear CJ hcnt hyw
                  go_wp2_with fail
                  refine wp_region_held_drew (S := (fun W => Below W9.heap.size W9 W)) (by kernel_rfl) (by (first | exact HS9.out | exact HS9.out.drew | exact HS9.out.drew.drew | exact (HS9.out.alloc HS9.out.size _) | exact (HS9.out.alloc HS9.out.size _).drew | exact (HS9.out.drew.alloc HS9.out.size _) | exact (HS9.out.drew.alloc HS9.out.size _).drew | exact (HS9.out.alloc HS9.out.size _).drew.drew | exact (HS9.out.drew.drew.alloc HS9.out.size _) | exact H10.out | exact H10.out.drew | exact H10.out.drew.drew | exact (H10.out.alloc H10.out.size _) | exact (H10.out.alloc H10.out.size _).drew | exact (H10.out.drew.alloc H10.out.size _) | exact (H10.out.drew.alloc H10.out.size _).drew | exact (H10.out.alloc H10.out.size _).drew.drew | exact (H10.out.drew.drew.alloc H10.out.size _) | go_keep)) (fun hHeld => ?_)
                  refine wpAnyH_take (i := 0) (v := ?_) rfl (by kernel_rfl) (by kernel_rfl) (by kernel_rfl) (fun _ _ _ h => h) (Or.inl ⟨by kernel_rfl, ?_⟩) (by assumption) ?_
                  rotate_left 1
                  · intro W hSW; clear hSW; go_simp; try with_reducible rfl
                  refine wpAnyH_take (i := 1) (v := ?_) rfl (by kernel_rfl) (by kernel_rfl) (by kernel_rfl) (fun _ _ _ h => h) (Or.inl ⟨by kernel_rfl, ?_⟩) (by assumption) ?_
                  rotate_left 1
                  · intro W hSW; clear hSW; go_simp; try with_reducible rfl
                  refine wpAnyH_take (i := 2) (v := ?_) rfl (by kernel_rfl) (by kernel_rfl) (by kernel_rfl) (fun _ _ _ h => h) (Or.inl ⟨by kernel_rfl, ?_⟩) (by assumption) ?_
                  rotate_left 1
                  · intro W hSW; clear hSW; go_simp; try with_reducible rfl
                  refine wpAnyH_take (i := 3) (v := ?_) rfl (by kernel_rfl) (by kernel_rfl) (by kernel_rfl) (fun _ _ _ h => h) (Or.inl ⟨by kernel_rfl, ?_⟩) (by assumption) ?_
                  rotate_left 1
                  · intro W hSW; clear hSW; go_simp; try with_reducible rfl
                  refine wpAnyH_take (i := 4) (v := ?_) rfl (by kernel_rfl) (by kernel_rfl) (by kernel_rfl) (fun _ _ _ h => h) (Or.inl ⟨by kernel_rfl, ?_⟩) (by assumption) ?_
                  rotate_left 1
                  · intro W hSW; clear hSW; go_simp; try with_reducible rfl
                  refine wpAnyH_take (i := 5) (v := ?_) rfl (by kernel_rfl) (by kernel_rfl) (by kernel_rfl) (fun _ _ _ h => h) (Or.inl ⟨by kernel_rfl, ?_⟩) (by assumption) ?_
                  rotate_left 1
                  · intro W hSW; clear hSW; go_simp; try with_reducible rfl
                  refine wpAnyH_take (i := 6) (v := ?_) rfl (by kernel_rfl) (by kernel_rfl) (by kernel_rfl) (fun _ _ _ h => h) (Or.inl ⟨by kernel_rfl, ?_⟩) (by assumption) ?_
                  rotate_left 1
                  · intro W hSW; clear hSW; go_simp; try with_reducible rfl
                  refine wpAnyH_take (i := 7) (v := ?_) rfl (by kernel_rfl) (by kernel_rfl) (by kernel_rfl) (fun _ _ _ h => h) (Or.inl ⟨by kernel_rfl, ?_⟩) (by assumption) ?_
                  rotate_left 1
                  · intro W hSW; clear hSW; go_simp; try with_reducible rfl
                  refine wpAnyH_take (i := 8) (v := ?_) rfl (by kernel_rfl) (by kernel_rfl) (by kernel_rfl) (fun _ _ _ h => h) (Or.inl ⟨by kernel_rfl, ?_⟩) (by assumption) ?_
                  rotate_left 1
                  · intro W hSW; have fw := hSW.cell' x4; clear hSW; go_simp; try with_reducible rfl
                  refine wpAnyH_take (i := 9) (v := ?_) rfl (by kernel_rfl) (by kernel_rfl) (by kernel_rfl) (fun _ _ _ h => h) (Or.inl ⟨by kernel_rfl, ?_⟩) (by assumption) ?_
                  rotate_left 1
                  · intro W hSW; clear hSW; go_simp; try with_reducible rfl
                  refine wpAnyH_take (i := 10) (v := ?_) rfl (by kernel_rfl) (by kernel_rfl) (by kernel_rfl) (fun _ _ _ h => h) (Or.inl ⟨by kernel_rfl, ?_⟩) (by assumption) ?_
                  rotate_left 1
                  · intro W hSW; clear hSW; go_simp; try with_reducible rfl
                  refine wpAnyH_take (i := 11) (v := ?_) rfl (by kernel_rfl) (by kernel_rfl) (by kernel_rfl) (fun _ _ _ h => h) (Or.inl ⟨by kernel_rfl, ?_⟩) (by assumption) ?_
                  rotate_left 1
                  · intro W hSW; obtain ⟨⟨f0, f1, f2, f3, f4, f5, f6, f7, f8, f9, f10, f11⟩, -⟩ := HF.out W (bel_of HW9.out hSW (Nat.le_refl _)); clear hSW; go_simp; try with_reducible rfl
                  refine wpAnyH_take (i := 12) (v := ?_) rfl (by kernel_rfl) (by kernel_rfl) (by kernel_rfl) (fun _ _ _ h => h) (Or.inl ⟨by kernel_rfl, ?_⟩) (by assumption) ?_
                  rotate_left 1
                  · intro W hSW; clear hSW; go_simp; try with_reducible rfl
                  refine wpAnyH_take (i := 13) (v := ?_) rfl (by kernel_rfl) (by kernel_rfl) (by kernel_rfl) (fun _ _ _ h => h) (Or.inl ⟨by kernel_rfl, ?_⟩) (by assumption) ?_
                  rotate_left 1
                  · intro W hSW; clear hSW; go_simp; try with_reducible rfl
                  refine wpAnyH_take (i := 14) (v := ?_) rfl (by kernel_rfl) (by kernel_rfl) (by kernel_rfl) (fun _ _ _ h => h) (Or.inl ⟨by kernel_rfl, ?_⟩) (by assumption) ?_
                  rotate_left 1
                  · intro W hSW; clear hSW; go_simp; try with_reducible rfl
                  refine wpAnyH_take (i := 15) (v := ?_) rfl (by kernel_rfl) (by kernel_rfl) (by kernel_rfl) (fun _ _ _ h => h) (Or.inl ⟨by kernel_rfl, ?_⟩) (by assumption) ?_
                  rotate_left 1
                  · intro W hSW; clear hSW; go_simp; try with_reducible rfl
                  refine wpAnyH_take (i := 16) (v := ?_) rfl (by kernel_rfl) (by kernel_rfl) (by kernel_rfl) (fun _ _ _ h => h) (Or.inl ⟨by kernel_rfl, ?_⟩) (by assumption) ?_
                  rotate_left 1
                  · intro W hSW; obtain ⟨-, fk⟩ := HF.out W (bel_of HW9.out hSW (Nat.le_refl _)); clear hSW; go_simp; try with_reducible rfl
                  refine wpAnyH_ready (rs := [17]) (by kernel_rfl) (by simp) ?_
                  refine AllReadyH.cons rfl (fun K hK => ?_) AllReadyH.nil
                  go_simp
                  (go_at_call 16; refine (CO.out _ (bel_of HW9.out (by first | exact Below.refl _ _ | exact (Below.refl _ _).drew) (Nat.le_refl _))).mono ?_; rintro e w10 ⟨rfl, hb10⟩; (have H10 : Hid (Below W9.heap.size W9 w10) := bel_of (by first | exact Below.refl _ _ | exact (Below.refl _ _).drew) hb10 (Nat.le_refl _)); clear hb10)
                  go_wp2_with fail
                  refine hK.out _ _ (by (first | exact HS9.out | exact HS9.out.drew | exact HS9.out.drew.drew | exact (HS9.out.alloc HS9.out.size _) | exact (HS9.out.alloc HS9.out.size _).drew | exact (HS9.out.drew.alloc HS9.out.size _) | exact (HS9.out.drew.alloc HS9.out.size _).drew | exact (HS9.out.alloc HS9.out.size _).drew.drew | exact (HS9.out.drew.drew.alloc HS9.out.size _) | exact H10.out | exact H10.out.drew | exact H10.out.drew.drew | exact (H10.out.alloc H10.out.size _) | exact (H10.out.alloc H10.out.size _).drew | exact (H10.out.drew.alloc H10.out.size _) | exact (H10.out.drew.alloc H10.out.size _).drew | exact (H10.out.alloc H10.out.size _).drew.drew | exact (H10.out.drew.drew.alloc H10.out.size _) | go_keep)) (fun hHeld => ?_)
                  clear hK K
                  refine wpAnyH_take (i := 18) (v := ?_) rfl (by kernel_rfl) (by kernel_rfl) (by kernel_rfl) (fun _ _ _ h => h) (Or.inl ⟨by kernel_rfl, ?_⟩) (by assumption) ?_
                  rotate_left 1
                  · intro W hSW; clear hSW; go_simp; try with_reducible rfl
                  refine wpAnyH_take (i := 19) (v := ?_) rfl (by kernel_rfl) (by kernel_rfl) (by kernel_rfl) (fun _ _ _ h => h) (Or.inl ⟨by kernel_rfl, ?_⟩) (by assumption) ?_
                  rotate_left 1
                  · intro W hSW; clear hSW; go_simp; try with_reducible rfl
                  refine wpAnyH_done (by kernel_rfl) ?_ _
                  go_simp
                  go_wp2
                  go_roundw
                  case rel => exact ⟨j + 1, by simp, hjl, (by first | exact HW9.out | exact HW9.out.drew | exact bel_of HW9.out H10.out (Nat.le_refl _) | exact (bel_of HW9.out H10.out (Nat.le_refl _)).drew)⟩
                  case measure => simp [intOf]; omega
              refine AllReadyH.cons rfl (fun K hK => ?_) AllReadyH.nil
              go_simp
              refine hK.out _ _ (by (first | exact HQ.out | exact HQ.out.drew | exact HQ.out.drew.drew | exact (HQ.out.alloc HQ.out.size _) | exact (HQ.out.alloc HQ.out.size _).drew | exact (HQ.out.drew.alloc HQ.out.size _) | exact (HQ.out.drew.alloc HQ.out.size _).drew | exact (HQ.out.alloc HQ.out.size _).drew.drew | exact (HQ.out.drew.drew.alloc HQ.out.size _) | exact H8.out | exact H8.out.drew | exact H8.out.drew.drew | exact (H8.out.alloc H8.out.size _) | exact (H8.out.alloc H8.out.size _).drew | exact (H8.out.drew.alloc H8.out.size _) | exact (H8.out.drew.alloc H8.out.size _).drew | exact (H8.out.alloc H8.out.size _).drew.drew | exact (H8.out.drew.drew.alloc H8.out.size _) | exact below_setRow H8.out HQ.out.size | exact (below_setRow H8.out HQ.out.size).drew | go_keep)) (fun hHeld => ?_)
              clear hK K
              refine wpAnyH_ready (rs := [6]) (by kernel_rfl) (by simp) ?_
              refine AllReadyH.cons rfl (fun K hK => ?_) AllReadyH.nil
              go_simp
              (go_at_call 15; refine (CJ.out _ (by (first | exact HQ.out | exact HQ.out.drew | exact HQ.out.drew.drew | exact (HQ.out.alloc HQ.out.size _) | exact (HQ.out.alloc HQ.out.size _).drew | exact (HQ.out.drew.alloc HQ.out.size _) | exact (HQ.out.drew.alloc HQ.out.size _).drew | exact (HQ.out.alloc HQ.out.size _).drew.drew | exact (HQ.out.drew.drew.alloc HQ.out.size _)))).mono ?_; rintro e w8 ⟨rfl, hb8⟩; (have H8 : Hid (Below w7.heap.size w7 w8) := bel_of (by (first | exact HQ.out | exact HQ.out.drew | exact HQ.out.drew.drew | exact (HQ.out.alloc HQ.out.size _) | exact (HQ.out.alloc HQ.out.size _).drew | exact (HQ.out.drew.alloc HQ.out.size _) | exact (HQ.out.drew.alloc HQ.out.size _).drew | exact (HQ.out.alloc HQ.out.size _).drew.drew | exact (HQ.out.drew.drew.alloc HQ.out.size _))) hb8 (Nat.le_refl _)); (have hz8 : w8.heap[wr.heap.size]? = some (.cells #[.int .u64 0, .int .u64 0, .string ⟨#[]⟩, .int .i64 0, .string ⟨#[]⟩, .int .i64 0] 46 (0, 0)) := (hb8.block wr.heap.size (by simp)).trans (by first | exact heap_alloc_new wr _ | exact heap_alloc_new wr.drew _)); (have HZ8 : Hid (w8.heap[wr.heap.size]? = some (.cells #[.int .u64 0, .int .u64 0, .string ⟨#[]⟩, .int .i64 0, .string ⟨#[]⟩, .int .i64 0] 46 (0, 0))) := hz8); clear hz8; clear hb8)
              go_wp2_with fail
              refine hK.out _ _ (by (first | exact HQ.out | exact HQ.out.drew | exact HQ.out.drew.drew | exact (HQ.out.alloc HQ.out.size _) | exact (HQ.out.alloc HQ.out.size _).drew | exact (HQ.out.drew.alloc HQ.out.size _) | exact (HQ.out.drew.alloc HQ.out.size _).drew | exact (HQ.out.alloc HQ.out.size _).drew.drew | exact (HQ.out.drew.drew.alloc HQ.out.size _) | exact H8.out | exact H8.out.drew | exact H8.out.drew.drew | exact (H8.out.alloc H8.out.size _) | exact (H8.out.alloc H8.out.size _).drew | exact (H8.out.drew.alloc H8.out.size _) | exact (H8.out.drew.alloc H8.out.size _).drew | exact (H8.out.alloc H8.out.size _).drew.drew | exact (H8.out.drew.drew.alloc H8.out.size _) | exact below_setRow H8.out HQ.out.size | exact (below_setRow H8.out HQ.out.size).drew | go_keep)) (fun hHeld => ?_)
              clear hK K
              refine wpAnyH_take (i := 7) (v := ?_) rfl (by kernel_rfl) (by kernel_rfl) (by kernel_rfl) (fun _ _ _ h => h) (Or.inl ⟨by kernel_rfl, ?_⟩) (by assumption) ?_
              rotate_left 1
              · intro W hSW; clear hSW; go_simp; try with_reducible rfl
              refine wpAnyH_take (i := 8) (v := ?_) rfl (by kernel_rfl) (by kernel_rfl) (by kernel_rfl) (fun _ _ _ h => h) (Or.inl ⟨by kernel_rfl, ?_⟩) (by assumption) ?_
              rotate_left 1
              · intro W hSW; clear hSW; go_simp; try with_reducible rfl
              refine wpAnyH_take (i := 9) (v := ?_) rfl (by kernel_rfl) (by kernel_rfl) (by kernel_rfl) (fun _ _ _ h => h) (Or.inl ⟨by kernel_rfl, ?_⟩) (by assumption) ?_
              rotate_left 1
              · intro W hSW; clear hSW; go_simp; try with_reducible rfl
              refine wpAnyH_ready (rs := [11]) (by kernel_rfl) (by simp) ?_
              refine AllReadyH.cons rfl (fun K hK => ?_) AllReadyH.nil
              (rw [if_pos (by rfl)]; refine wp_store_row 46 _ _ rfl wr.heap.size #[.int .u64 (y0 : Int), .int .u64 (y1 : Int), .string (S y2), .int .i64 y3, .string (S y4), .int .i64 y6] (by simp [Act.eval, Act.put]) (by simp [Act.eval, Act.put]) 46 #[.int .u64 0, .int .u64 0, .string ⟨#[]⟩, .int .i64 0, .string ⟨#[]⟩, .int .i64 0] HZ8.out (by kernel_rfl) rfl (jb_one _ _ _ _ _ _) ?_)
              refine hK.out _ _ (by (first | exact HQ.out | exact HQ.out.drew | exact HQ.out.drew.drew | exact (HQ.out.alloc HQ.out.size _) | exact (HQ.out.alloc HQ.out.size _).drew | exact (HQ.out.drew.alloc HQ.out.size _) | exact (HQ.out.drew.alloc HQ.out.size _).drew | exact (HQ.out.alloc HQ.out.size _).drew.drew | exact (HQ.out.drew.drew.alloc HQ.out.size _) | exact H8.out | exact H8.out.drew | exact H8.out.drew.drew | exact (H8.out.alloc H8.out.size _) | exact (H8.out.alloc H8.out.size _).drew | exact (H8.out.drew.alloc H8.out.size _) | exact (H8.out.drew.alloc H8.out.size _).drew | exact (H8.out.alloc H8.out.size _).drew.drew | exact (H8.out.drew.drew.alloc H8.out.size _) | exact below_setRow H8.out HQ.out.size | exact (below_setRow H8.out HQ.out.size).drew | go_keep)) (fun hHeld => ?_)
              clear hK K
              refine wpAnyH_take (i := 12) (v := ?_) rfl (by kernel_rfl) (by kernel_rfl) (by kernel_rfl) (fun _ _ _ h => h) (Or.inl ⟨by kernel_rfl, ?_⟩) (by assumption) ?_
              rotate_left 1
              · intro W hSW; clear hSW; go_simp; try with_reducible rfl
              refine wpAnyH_done (by kernel_rfl) ?_ _
              obtain ⟨W9, hW9⟩ : ∃ W9, w8.setRow wr.heap.size #[.int .u64 (y0 : Int), .int .u64 (y1 : Int), .string (S y2), .int .i64 y3, .string (S y4), .int .i64 y6] = W9 := ⟨_, rfl⟩
              rw [hW9]
              have x4 : W9.cell? ⟨wr.heap.size, 4, none⟩ = some (.string (S y4)) := by rw [← hW9]; exact cell_setRow_same _ _ 4 _ _ _ _ HZ8.out
              have HW9 : Hid (Below w7.heap.size w7 W9) := by rw [← hW9]; exact below_setRow H8.out HQ.out.size
              clear hW9
              go_simp
              have HS9 : Hid (Below W9.heap.size W9 W9) := Below.refl _ _
              by_cases h0 : y4 = []
              · subst h0
                have x4 : W9.cell? ⟨wr.heap.size, 4, none⟩ = some (.string ⟨#[]⟩) := x4
                clear CJ CO hyw
                go_wp2_with fail
                refine wp_region_held_drew (S := (fun W => Below W9.heap.size W9 W)) (by kernel_rfl) (by (first | exact HS9.out | exact HS9.out.drew | exact HS9.out.drew.drew | exact (HS9.out.alloc HS9.out.size _) | exact (HS9.out.alloc HS9.out.size _).drew | exact (HS9.out.drew.alloc HS9.out.size _) | exact (HS9.out.drew.alloc HS9.out.size _).drew | exact (HS9.out.alloc HS9.out.size _).drew.drew | exact (HS9.out.drew.drew.alloc HS9.out.size _) | go_keep)) (fun hHeld => ?_)
                refine wpAnyH_take (i := 0) (v := ?_) rfl (by kernel_rfl) (by kernel_rfl) (by kernel_rfl) (fun _ _ _ h => h) (Or.inl ⟨by kernel_rfl, ?_⟩) (by assumption) ?_
                rotate_left 1
                · intro W hSW; clear hSW; go_simp; try with_reducible rfl
                refine wpAnyH_take (i := 1) (v := ?_) rfl (by kernel_rfl) (by kernel_rfl) (by kernel_rfl) (fun _ _ _ h => h) (Or.inl ⟨by kernel_rfl, ?_⟩) (by assumption) ?_
                rotate_left 1
                · intro W hSW; clear hSW; go_simp; try with_reducible rfl
                refine wpAnyH_take (i := 2) (v := ?_) rfl (by kernel_rfl) (by kernel_rfl) (by kernel_rfl) (fun _ _ _ h => h) (Or.inl ⟨by kernel_rfl, ?_⟩) (by assumption) ?_
                rotate_left 1
                · intro W hSW; clear hSW; go_simp; try with_reducible rfl
                refine wpAnyH_take (i := 3) (v := ?_) rfl (by kernel_rfl) (by kernel_rfl) (by kernel_rfl) (fun _ _ _ h => h) (Or.inl ⟨by kernel_rfl, ?_⟩) (by assumption) ?_
                rotate_left 1
                · intro W hSW; clear hSW; go_simp; try with_reducible rfl
                refine wpAnyH_take (i := 4) (v := ?_) rfl (by kernel_rfl) (by kernel_rfl) (by kernel_rfl) (fun _ _ _ h => h) (Or.inl ⟨by kernel_rfl, ?_⟩) (by assumption) ?_
                rotate_left 1
                · intro W hSW; clear hSW; go_simp; try with_reducible rfl
                refine wpAnyH_take (i := 5) (v := ?_) rfl (by kernel_rfl) (by kernel_rfl) (by kernel_rfl) (fun _ _ _ h => h) (Or.inl ⟨by kernel_rfl, ?_⟩) (by assumption) ?_
                rotate_left 1
                · intro W hSW; clear hSW; go_simp; try with_reducible rfl
                refine wpAnyH_take (i := 6) (v := ?_) rfl (by kernel_rfl) (by kernel_rfl) (by kernel_rfl) (fun _ _ _ h => h) (Or.inl ⟨by kernel_rfl, ?_⟩) (by assumption) ?_
                rotate_left 1
                · intro W hSW; clear hSW; go_simp; try with_reducible rfl
                refine wpAnyH_take (i := 7) (v := ?_) rfl (by kernel_rfl) (by kernel_rfl) (by kernel_rfl) (fun _ _ _ h => h) (Or.inl ⟨by kernel_rfl, ?_⟩) (by assumption) ?_
                rotate_left 1
                · intro W hSW; clear hSW; go_simp; try with_reducible rfl
                refine wpAnyH_take (i := 8) (v := ?_) rfl (by kernel_rfl) (by kernel_rfl) (by kernel_rfl) (fun _ _ _ h => h) (Or.inl ⟨by kernel_rfl, ?_⟩) (by assumption) ?_
                rotate_left 1
                · intro W hSW; have fw := hSW.cell' x4; clear hSW; go_simp; try with_reducible rfl
                refine wpAnyH_take (i := 9) (v := ?_) rfl (by kernel_rfl) (by kernel_rfl) (by kernel_rfl) (fun _ _ _ h => h) (Or.inl ⟨by kernel_rfl, ?_⟩) (by assumption) ?_
                rotate_left 1
                · intro W hSW; clear hSW; go_simp; try with_reducible rfl
                refine wpAnyH_take (i := 10) (v := ?_) rfl (by kernel_rfl) (by kernel_rfl) (by kernel_rfl) (fun _ _ _ h => h) (Or.inl ⟨by kernel_rfl, ?_⟩) (by assumption) ?_
                rotate_left 1
                · intro W hSW; clear hSW; go_simp; try with_reducible rfl
                refine wpAnyH_take (i := 11) (v := undef) rfl (by kernel_rfl) (by kernel_rfl) (by kernel_rfl) (fun _ _ _ h => h) (Or.inr ⟨by kernel_rfl, by kernel_rfl⟩) (by assumption) ?_
                refine wpAnyH_take (i := 12) (v := undef) rfl (by kernel_rfl) (by kernel_rfl) (by kernel_rfl) (fun _ _ _ h => h) (Or.inr ⟨by kernel_rfl, by kernel_rfl⟩) (by assumption) ?_
                refine wpAnyH_take (i := 13) (v := undef) rfl (by kernel_rfl) (by kernel_rfl) (by kernel_rfl) (fun _ _ _ h => h) (Or.inr ⟨by kernel_rfl, by kernel_rfl⟩) (by assumption) ?_
                refine wpAnyH_take (i := 14) (v := undef) rfl (by kernel_rfl) (by kernel_rfl) (by kernel_rfl) (fun _ _ _ h => h) (Or.inr ⟨by kernel_rfl, by kernel_rfl⟩) (by assumption) ?_
                refine wpAnyH_take (i := 15) (v := undef) rfl (by kernel_rfl) (by kernel_rfl) (by kernel_rfl) (fun _ _ _ h => h) (Or.inr ⟨by kernel_rfl, by kernel_rfl⟩) (by assumption) ?_
                refine wpAnyH_take (i := 16) (v := undef) rfl (by kernel_rfl) (by kernel_rfl) (by kernel_rfl) (fun _ _ _ h => h) (Or.inr ⟨by kernel_rfl, by kernel_rfl⟩) (by assumption) ?_
                refine wpAnyH_take (i := 17) (v := undef) rfl (by kernel_rfl) (by kernel_rfl) (by kernel_rfl) (fun _ _ _ h => h) (Or.inr ⟨by kernel_rfl, by kernel_rfl⟩) (by assumption) ?_
                refine wpAnyH_take (i := 18) (v := ?_) rfl (by kernel_rfl) (by kernel_rfl) (by kernel_rfl) (fun _ _ _ h => h) (Or.inl ⟨by kernel_rfl, ?_⟩) (by assumption) ?_
                rotate_left 1
                · intro W hSW; clear hSW; go_simp; try with_reducible rfl
                refine wpAnyH_take (i := 19) (v := ?_) rfl (by kernel_rfl) (by kernel_rfl) (by kernel_rfl) (fun _ _ _ h => h) (Or.inl ⟨by kernel_rfl, ?_⟩) (by assumption) ?_
                rotate_left 1
                · intro W hSW; clear hSW; go_simp; try with_reducible rfl
                refine wpAnyH_done (by kernel_rfl) ?_ _
                go_simp
                go_wp2
                go_roundw
                case rel => exact ⟨j + 1, by simp, hjl, (by first | exact HW9.out | exact HW9.out.drew | exact bel_of HW9.out H10.out (Nat.le_refl _) | exact (bel_of HW9.out H10.out (Nat.le_refl _)).drew)⟩
                case measure => simp [intOf]; omega
              · have hcnt := hyw.resolve_left h0
                rw [hcnt] at CO
                have hne : ((S y4).toList == []) = false := by rw [S_list]; exact beq_eq_false_iff_ne.2 h0
                clear CJ hcnt hyw
                go_wp2_with fail
                refine wp_region_held_drew (S := (fun W => Below W9.heap.size W9 W)) (by kernel_rfl) (by (first | exact HS9.out | exact HS9.out.drew | exact HS9.out.drew.drew | exact (HS9.out.alloc HS9.out.size _) | exact (HS9.out.alloc HS9.out.size _).drew | exact (HS9.out.drew.alloc HS9.out.size _) | exact (HS9.out.drew.alloc HS9.out.size _).drew | exact (HS9.out.alloc HS9.out.size _).drew.drew | exact (HS9.out.drew.drew.alloc HS9.out.size _) | exact H10.out | exact H10.out.drew | exact H10.out.drew.drew | exact (H10.out.alloc H10.out.size _) | exact (H10.out.alloc H10.out.size _).drew | exact (H10.out.drew.alloc H10.out.size _) | exact (H10.out.drew.alloc H10.out.size _).drew | exact (H10.out.alloc H10.out.size _).drew.drew | exact (H10.out.drew.drew.alloc H10.out.size _) | go_keep)) (fun hHeld => ?_)
                refine wpAnyH_take (i := 0) (v := ?_) rfl (by kernel_rfl) (by kernel_rfl) (by kernel_rfl) (fun _ _ _ h => h) (Or.inl ⟨by kernel_rfl, ?_⟩) (by assumption) ?_
                rotate_left 1
                · intro W hSW; clear hSW; go_simp; try with_reducible rfl
                refine wpAnyH_take (i := 1) (v := ?_) rfl (by kernel_rfl) (by kernel_rfl) (by kernel_rfl) (fun _ _ _ h => h) (Or.inl ⟨by kernel_rfl, ?_⟩) (by assumption) ?_
                rotate_left 1
                · intro W hSW; clear hSW; go_simp; try with_reducible rfl
                refine wpAnyH_take (i := 2) (v := ?_) rfl (by kernel_rfl) (by kernel_rfl) (by kernel_rfl) (fun _ _ _ h => h) (Or.inl ⟨by kernel_rfl, ?_⟩) (by assumption) ?_
                rotate_left 1
                · intro W hSW; clear hSW; go_simp; try with_reducible rfl
                refine wpAnyH_take (i := 3) (v := ?_) rfl (by kernel_rfl) (by kernel_rfl) (by kernel_rfl) (fun _ _ _ h => h) (Or.inl ⟨by kernel_rfl, ?_⟩) (by assumption) ?_
                rotate_left 1
                · intro W hSW; clear hSW; go_simp; try with_reducible rfl
                refine wpAnyH_take (i := 4) (v := ?_) rfl (by kernel_rfl) (by kernel_rfl) (by kernel_rfl) (fun _ _ _ h => h) (Or.inl ⟨by kernel_rfl, ?_⟩) (by assumption) ?_
                rotate_left 1
                · intro W hSW; clear hSW; go_simp; try with_reducible rfl
                refine wpAnyH_take (i := 5) (v := ?_) rfl (by kernel_rfl) (by kernel_rfl) (by kernel_rfl) (fun _ _ _ h => h) (Or.inl ⟨by kernel_rfl, ?_⟩) (by assumption) ?_
                rotate_left 1
                · intro W hSW; clear hSW; go_simp; try with_reducible rfl
                refine wpAnyH_take (i := 6) (v := ?_) rfl (by kernel_rfl) (by kernel_rfl) (by kernel_rfl) (fun _ _ _ h => h) (Or.inl ⟨by kernel_rfl, ?_⟩) (by assumption) ?_
                rotate_left 1
                · intro W hSW; clear hSW; go_simp; try with_reducible rfl
                refine wpAnyH_take (i := 7) (v := ?_) rfl (by kernel_rfl) (by kernel_rfl) (by kernel_rfl) (fun _ _ _ h => h) (Or.inl ⟨by kernel_rfl, ?_⟩) (by assumption) ?_
                rotate_left 1
                · intro W hSW; clear hSW; go_simp; try with_reducible rfl
                refine wpAnyH_take (i := 8) (v := ?_) rfl (by kernel_rfl) (by kernel_rfl) (by kernel_rfl) (fun _ _ _ h => h) (Or.inl ⟨by kernel_rfl, ?_⟩) (by assumption) ?_
                rotate_left 1
                · intro W hSW; have fw := hSW.cell' x4; clear hSW; go_simp; try with_reducible rfl
                refine wpAnyH_take (i := 9) (v := ?_) rfl (by kernel_rfl) (by kernel_rfl) (by kernel_rfl) (fun _ _ _ h => h) (Or.inl ⟨by kernel_rfl, ?_⟩) (by assumption) ?_
                rotate_left 1
                · intro W hSW; clear hSW; go_simp; try with_reducible rfl
                refine wpAnyH_take (i := 10) (v := ?_) rfl (by kernel_rfl) (by kernel_rfl) (by kernel_rfl) (fun _ _ _ h => h) (Or.inl ⟨by kernel_rfl, ?_⟩) (by assumption) ?_
                rotate_left 1
                · intro W hSW; clear hSW; go_simp; try with_reducible rfl
                refine wpAnyH_take (i := 11) (v := ?_) rfl (by kernel_rfl) (by kernel_rfl) (by kernel_rfl) (fun _ _ _ h => h) (Or.inl ⟨by kernel_rfl, ?_⟩) (by assumption) ?_
                rotate_left 1
                · intro W hSW; obtain ⟨⟨f0, f1, f2, f3, f4, f5, f6, f7, f8, f9, f10, f11⟩, -⟩ := HF.out W (bel_of HW9.out hSW (Nat.le_refl _)); clear hSW; go_simp; try with_reducible rfl
                refine wpAnyH_take (i := 12) (v := ?_) rfl (by kernel_rfl) (by kernel_rfl) (by kernel_rfl) (fun _ _ _ h => h) (Or.inl ⟨by kernel_rfl, ?_⟩) (by assumption) ?_
                rotate_left 1
                · intro W hSW; clear hSW; go_simp; try with_reducible rfl
                refine wpAnyH_take (i := 13) (v := ?_) rfl (by kernel_rfl) (by kernel_rfl) (by kernel_rfl) (fun _ _ _ h => h) (Or.inl ⟨by kernel_rfl, ?_⟩) (by assumption) ?_
                rotate_left 1
                · intro W hSW; clear hSW; go_simp; try with_reducible rfl
                refine wpAnyH_take (i := 14) (v := ?_) rfl (by kernel_rfl) (by kernel_rfl) (by kernel_rfl) (fun _ _ _ h => h) (Or.inl ⟨by kernel_rfl, ?_⟩) (by assumption) ?_
                rotate_left 1
                · intro W hSW; clear hSW; go_simp; try with_reducible rfl
                refine wpAnyH_take (i := 15) (v := ?_) rfl (by kernel_rfl) (by kernel_rfl) (by kernel_rfl) (fun _ _ _ h => h) (Or.inl ⟨by kernel_rfl, ?_⟩) (by assumption) ?_
                rotate_left 1
                · intro W hSW; clear hSW; go_simp; try with_reducible rfl
                refine wpAnyH_take (i := 16) (v := ?_) rfl (by kernel_rfl) (by kernel_rfl) (by kernel_rfl) (fun _ _ _ h => h) (Or.inl ⟨by kernel_rfl, ?_⟩) (by assumption) ?_
                rotate_left 1
                · intro W hSW; obtain ⟨-, fk⟩ := HF.out W (bel_of HW9.out hSW (Nat.le_refl _)); clear hSW; go_simp; try with_reducible rfl
                refine wpAnyH_ready (rs := [17]) (by kernel_rfl) (by simp) ?_
                refine AllReadyH.cons rfl (fun K hK => ?_) AllReadyH.nil
                go_simp
                (go_at_call 16; refine (CO.out _ (bel_of HW9.out (by first | exact Below.refl _ _ | exact (Below.refl _ _).drew) (Nat.le_refl _))).mono ?_; rintro e w10 ⟨rfl, hb10⟩; (have H10 : Hid (Below W9.heap.size W9 w10) := bel_of (by first | exact Below.refl _ _ | exact (Below.refl _ _).drew) hb10 (Nat.le_refl _)); clear hb10)
                go_wp2_with fail
                refine hK.out _ _ (by (first | exact HS9.out | exact HS9.out.drew | exact HS9.out.drew.drew | exact (HS9.out.alloc HS9.out.size _) | exact (HS9.out.alloc HS9.out.size _).drew | exact (HS9.out.drew.alloc HS9.out.size _) | exact (HS9.out.drew.alloc HS9.out.size _).drew | exact (HS9.out.alloc HS9.out.size _).drew.drew | exact (HS9.out.drew.drew.alloc HS9.out.size _) | exact H10.out | exact H10.out.drew | exact H10.out.drew.drew | exact (H10.out.alloc H10.out.size _) | exact (H10.out.alloc H10.out.size _).drew | exact (H10.out.drew.alloc H10.out.size _) | exact (H10.out.drew.alloc H10.out.size _).drew | exact (H10.out.alloc H10.out.size _).drew.drew | exact (H10.out.drew.drew.alloc H10.out.size _) | go_keep)) (fun hHeld => ?_)
                clear hK K
                refine wpAnyH_take (i := 18) (v := ?_) rfl (by kernel_rfl) (by kernel_rfl) (by kernel_rfl) (fun _ _ _ h => h) (Or.inl ⟨by kernel_rfl, ?_⟩) (by assumption) ?_
                rotate_left 1
                · intro W hSW; clear hSW; go_simp; try with_reducible rfl
                refine wpAnyH_take (i := 19) (v := ?_) rfl (by kernel_rfl) (by kernel_rfl) (by kernel_rfl) (fun _ _ _ h => h) (Or.inl ⟨by kernel_rfl, ?_⟩) (by assumption) ?_
                rotate_left 1
                · intro W hSW; clear hSW; go_simp; try with_reducible rfl
                refine wpAnyH_done (by kernel_rfl) ?_ _
                go_simp
                go_wp2
                go_roundw
                case rel => exact ⟨j + 1, by simp, hjl, (by first | exact HW9.out | exact HW9.out.drew | exact bel_of HW9.out H10.out (Nat.le_refl _) | exact (bel_of HW9.out H10.out (Nat.le_refl _)).drew)⟩
                case measure => simp [intOf]; omega
            · obtain rfl : j = M.length := by omega
              have HBq : Hid (Below w.heap.size w wr) := bel_of HB7.out HQ.out (Nat.le_refl _)
              obtain ⟨c1, c2, c3, c4⟩ := HC.out wr HBq.out
              have HN : Hid (On w1.heap.size g w1 wr k' (i + 1)) := ⟨HA.out.1.up HQ.out, HA.out.2.1, HEL.out, bel_of HA.out.2.2.2.1 HQ.out (Nat.le_refl _)⟩
              clear HT7 HX7 HY MG HO7 HA CA c1 c2 c4 hjl
              go_wp2
              go_roundw
              case rel => exact ⟨i + 1, k', by simp, hlt, HN⟩
              case measure => simp [intOf]; omega
      · have CA : Hid (∀ W, Below W6.heap.size W6 W → _) := fun W hW => act_no g W (kind := x.s) (wk := x.t) (m := x.n) (n := x.m) (by have := HX.out.1; omega) (by have := HX.out.2; omega) hmay
        go_region_held3 (fun W => W.cell? ⟨ab, ao + i * 7 + 1, none⟩ = some (.string (S x.s)) ∧ W.cell? ⟨ab, ao + i * 7 + 2, none⟩ = some (.string (S x.t)) ∧ W.cell? ⟨ab, ao + i * 7 + 3, none⟩ = some (.int .i64 x.n) ∧ W.cell? ⟨ab, ao + i * 7 + 4, none⟩ = some (.int .i64 x.m))
          (first | go_keep | exact HC.out _ HB6.out | exact HC.out _ HB6.out.drew | exact HC.out _ HB7.out | exact HC.out _ HB7.out.drew)
          ((go_at_call 14; refine (CA.out _ (Below.refl _ _).drew).mono ?_; rintro e w7 ⟨rfl, hb7⟩; (have h67 : Below W6.heap.size W6 w7 := bel_of (Below.refl _ W6).drew hb7 (Nat.le_refl _)); (have HB7 : Hid (Below w.heap.size w w7) := bel_of HB6.out h67 (Nat.le_refl _)); (have HN : Hid (On w1.heap.size g w1 w7 k (i + 1)) := ⟨(HR.out.wk.up H6.out.1).up h67, HR.out.sz, by have := HR.out.el; omega, B17.out _ (h67.mono HB16.out)⟩); clear h67 hb7))
        all_goals
          clear c1 c2 c3 c4
          go_wp2_with fail
          generalize wr = wo at *
          go_loopw [11] (fun v11 wr => v11 = .int .i64 0 ∧ Hid (Below w7.heap.size w7 wr)) (fun _ _ => 0)
          case atStart => exact ⟨rfl, Below.refl _ _⟩
          case round =>
            obtain ⟨rfl, HQ⟩ := hrel
            have HBq : Hid (Below w.heap.size w wr) := bel_of HB7.out HQ.out (Nat.le_refl _)
            obtain ⟨c1, c2, c3, c4⟩ := HC.out wr HBq.out
            have HN2 : Hid (On w1.heap.size g w1 wr k (i + 1)) := ⟨HN.out.wk.up HQ.out, HN.out.sz, HN.out.el, bel_of HN.out.bel HQ.out (Nat.le_refl _)⟩
            clear CA c1 c2 c4 HN
            by_cases hng : x.n < 0
            · go_wp2
              go_roundw
              case rel => exact ⟨i + 1, k, by simp, hlt, HN2⟩
              case measure => simp [intOf]; omega
            · go_wp2
              go_roundw
              case rel => exact ⟨i + 1, k, by simp, hlt, HN2⟩
              case measure => simp [intOf]; omega
    · obtain rfl : i = l.length := by omega
      have HBw : Hid (Below w.heap.size w wr) := HB1.out.1.trans (HR.out.bel.mono HB1.out.1.size)
      clear HR HL HS HO0
      go_wp2
      go_ret
      exact ⟨rfl, HBw.out⟩
end Go.Proofs.YthmfcloecmnfnaaGreat.f13

/-
  Package flow's Begin, State, Now.
-/
import Derived.Test.YthmfcloecmnfnaaGreatB16Own
namespace Go.Proofs.YthmfcloecmnfnaaGreat.f13
open Go.RowKit Go.Shelf Go.Sort
open Go.Lib hiding intOf

theorem Sv.slices {w : World} {s : St} (hs : Sv w s) : (∃ a n c, s.vDe = .slice a n c) ∧ (∃ a n c, s.vIn = .slice a n c) ∧ (∃ a n c, s.vTk = .slice a n c) ∧ (∃ a n c, s.vJb = .slice a n c) ∧ (∃ a n c, s.vTm = .slice a n c) ∧ (∃ a n c, s.vSb = .slice a n c) ∧ (∃ a n c, s.vKp = .slice a n c) ∧ (∃ a n c, s.vLs = .slice a n c) ∧ (∃ a n c, s.vMs = .slice a n c) := by
  refine ⟨?_, ?_, ?_, ?_, ?_, ?_, ?_, ?_, ?_⟩
  · obtain ⟨a, c, e, -⟩ := hs.rDe; exact ⟨a, _, c, e⟩
  · obtain ⟨a, c, e, -⟩ := hs.rIn; exact ⟨a, _, c, e⟩
  · obtain ⟨a, c, e, -⟩ := hs.rTk; exact ⟨a, _, c, e⟩
  · obtain ⟨a, c, e, -⟩ := hs.rJb; exact ⟨a, _, c, e⟩
  · obtain ⟨a, c, e, -⟩ := hs.rTm; exact ⟨a, _, c, e⟩
  · obtain ⟨a, c, e, -⟩ := hs.rSb; exact ⟨a, _, c, e⟩
  · obtain ⟨a, c, e, -⟩ := hs.rKp; exact ⟨a, _, c, e⟩
  · obtain ⟨a, c, e, -⟩ := hs.rLs; exact ⟨a, _, c, e⟩
  · obtain ⟨a, c, e, -⟩ := hs.rMs; exact ⟨a, _, c, e⟩

set_option maxHeartbeats 4000000 in
set_option maxRecDepth 100000 in
theorem Begin_any {w : World} {s : St} (h : Sv w s) (hz : Sz s) (pt : Int) (ps : Nat) (nw : Int) :
    Calls Tryz.prog 12 #[.agg s.c.toArray, .int .i64 pt, .int .u64 (ps : Int), .int .i64 nw] w fun e w' => ∃ (g : Nat) (t : St), e = .returned (.pointer (some ⟨g, 0, none⟩)) ∧ t.e = s.e ∧ Wk w.heap.size w' g ⟨t, pt, ps, nw, .slice none 0 0, []⟩ ∧ Below w.heap.size w w' := by
  have hsl := Sv.slices h
  have hb0 : Below w.heap.size w (w.alloc (.cells s.c.toArray 33)) := (Below.refl _ w).alloc (Nat.le_refl _) _
  have CC := Clone_any (h.up hb0) hz
  have HT : Hid (∀ t : St, t.e = s.e ↔ t.e = s.e) := fun t => Iff.rfl
  clear h hz
  obtain ⟨⟨saDe, snDe, scDe, shDe⟩, ⟨saIn, snIn, scIn, shIn⟩, ⟨saTk, snTk, scTk, shTk⟩, ⟨saJb, snJb, scJb, shJb⟩, ⟨saTm, snTm, scTm, shTm⟩, ⟨saSb, snSb, scSb, shSb⟩, ⟨saKp, snKp, scKp, shKp⟩, ⟨saLs, snLs, scLs, shLs⟩, ⟨saMs, snMs, scMs, shMs⟩⟩ := hsl
  obtain ⟨spos, sdone, smade, svDe, slDe, svIn, slIn, svTk, slTk, svJb, slJb, svTm, slTm, svSb, slSb, svKp, slKp, svLs, slLs, svMs, slMs⟩ := s
  simp only at shDe shIn shTk shJb shTm shSb shKp shLs shMs
  subst shDe shIn shTk shJb shTm shSb shKp shLs shMs
  simp only [St.c] at CC hb0 ⊢
  obtain ⟨W1, hW1⟩ : ∃ W1, w.alloc (.cells #[.int .u64 (spos : Int), .int .u64 (sdone : Int), .int .u64 (smade : Int), .slice saDe snDe scDe, .slice saIn snIn scIn, .slice saTk snTk scTk, .slice saJb snJb scJb, .slice saTm snTm scTm, .slice saSb snSb scSb, .slice saKp snKp scKp, .slice saLs snLs scLs, .slice saMs snMs scMs] 33) = W1 := ⟨_, rfl⟩
  rw [hW1] at CC hb0
  have hob : W1.heap[w.heap.size]? = some (.cells #[.int .u64 (spos : Int), .int .u64 (sdone : Int), .int .u64 (smade : Int), .slice saDe snDe scDe, .slice saIn snIn scIn, .slice saTk snTk scTk, .slice saJb snJb scJb, .slice saTm snTm scTm, .slice saSb snSb scSb, .slice saKp snKp scKp, .slice saLs snLs scLs, .slice saMs snMs scMs] 33 (0, 0)) := by rw [← hW1]; exact heap_alloc_new w _
  have x0 : W1.cell? ⟨w.heap.size, 0, none⟩ = some (.int .u64 (spos : Int)) := by simp [World.cell?, hob]
  have x1 : W1.cell? ⟨w.heap.size, 1, none⟩ = some (.int .u64 (sdone : Int)) := by simp [World.cell?, hob]
  have x2 : W1.cell? ⟨w.heap.size, 2, none⟩ = some (.int .u64 (smade : Int)) := by simp [World.cell?, hob]
  have x3 : W1.cell? ⟨w.heap.size, 3, none⟩ = some (.slice saDe snDe scDe) := by simp [World.cell?, hob]
  have x4 : W1.cell? ⟨w.heap.size, 4, none⟩ = some (.slice saIn snIn scIn) := by simp [World.cell?, hob]
  have x5 : W1.cell? ⟨w.heap.size, 5, none⟩ = some (.slice saTk snTk scTk) := by simp [World.cell?, hob]
  have x6 : W1.cell? ⟨w.heap.size, 6, none⟩ = some (.slice saJb snJb scJb) := by simp [World.cell?, hob]
  have x7 : W1.cell? ⟨w.heap.size, 7, none⟩ = some (.slice saTm snTm scTm) := by simp [World.cell?, hob]
  have x8 : W1.cell? ⟨w.heap.size, 8, none⟩ = some (.slice saSb snSb scSb) := by simp [World.cell?, hob]
  have x9 : W1.cell? ⟨w.heap.size, 9, none⟩ = some (.slice saKp snKp scKp) := by simp [World.cell?, hob]
  have x10 : W1.cell? ⟨w.heap.size, 10, none⟩ = some (.slice saLs snLs scLs) := by simp [World.cell?, hob]
  have x11 : W1.cell? ⟨w.heap.size, 11, none⟩ = some (.slice saMs snMs scMs) := by simp [World.cell?, hob]
  have HB0 : Hid (Below w.heap.size w W1) := hb0
  clear hob hb0 HT
  go_enter Tryz.func12, Tryz.ntmps12
  go_wp2_with (go_at_call 23; refine CC.mono ?_; rintro e w1 ⟨t, rfl, hO, hE, hb1⟩; obtain ⟨⟨taDe, tnDe, tcDe, thDe⟩, ⟨taIn, tnIn, tcIn, thIn⟩, ⟨taTk, tnTk, tcTk, thTk⟩, ⟨taJb, tnJb, tcJb, thJb⟩, ⟨taTm, tnTm, tcTm, thTm⟩, ⟨taSb, tnSb, tcSb, thSb⟩, ⟨taKp, tnKp, tcKp, thKp⟩, ⟨taLs, tnLs, tcLs, thLs⟩, ⟨taMs, tnMs, tcMs, thMs⟩⟩ := Sv.slices (Own.sv hO); obtain ⟨tpos, tdone, tmade, tvDe, tlDe, tvIn, tlIn, tvTk, tlTk, tvJb, tlJb, tvTm, tlTm, tvSb, tlSb, tvKp, tlKp, tvLs, tlLs, tvMs, tlMs⟩ := t; simp only at thDe thIn thTk thJb thTm thSb thKp thLs thMs; subst thDe thIn thTk thJb thTm thSb thKp thLs thMs; simp only; (have HO : Hid _ := hO); (have HE : Hid _ := hE); (have HB : Hid (Below w.heap.size w w1) := HB0.out.trans (hb1.mono (by have := HB0.out.size; omega))); (have HL : Hid (w.heap.size ≤ W1.heap.size) := HB0.out.size); clear hO hE hb1 CC)
  go_ret
  have hB := HB.out
  have hO : Own w.heap.size w1 _ := Own.base HO.out HL.out
  have h2 := ob.new 80 hO hB.size (Wo.c ⟨⟨tpos, tdone, tmade, .slice taDe tnDe tcDe, tlDe, .slice taIn tnIn tcIn, tlIn, .slice taTk tnTk tcTk, tlTk, .slice taJb tnJb tcJb, tlJb, .slice taTm tnTm tcTm, tlTm, .slice taSb tnSb tcSb, tlSb, .slice taKp tnKp tcKp, tlKp, .slice taLs tnLs tcLs, tlLs, .slice taMs tnMs tcMs, tlMs⟩, pt, ps, nw, .slice none 0 0, []⟩) (k := 16) rfl
  refine ⟨w1.heap.size, _, rfl, HE.out, ?_, hB.alloc hB.size _⟩
  refine Own.perm (L := Rc.rw (.slice none 0 0) [] :: ob 80 16 w1.heap.size (Wo.c ⟨⟨tpos, tdone, tmade, .slice taDe tnDe tcDe, tlDe, .slice taIn tnIn tcIn, tlIn, .slice taTk tnTk tcTk, tlTk, .slice taJb tnJb tcJb, tlJb, .slice taTm tnTm tcTm, tlTm, .slice taSb tnSb tcSb, tlSb, .slice taKp tnKp tcKp, tlKp, .slice taLs tnLs tcLs, tlLs, .slice taMs tnMs tcMs, tlMs⟩, pt, ps, nw, .slice none 0 0, []⟩) :: (St.rows ⟨tpos, tdone, tmade, .slice taDe tnDe tcDe, tlDe, .slice taIn tnIn tcIn, tlIn, .slice taTk tnTk tcTk, tlTk, .slice taJb tnJb tcJb, tlJb, .slice taTm tnTm tcTm, tlTm, .slice taSb tnSb tcSb, tlSb, .slice taKp tnKp tcKp, tlKp, .slice taLs tnLs tcLs, tlLs, .slice taMs tnMs tcMs, tlMs⟩)) ?_ (by show List.Perm _ (ob _ _ _ _ :: Rc.rw (.slice none 0 0) [] :: (St.rows _ ++ [])); rw [List.append_nil]; exact List.Perm.swap _ _ _)
  refine ⟨fun r hr => ?_, List.pairwise_cons.2 ⟨fun q hq g hg _ => (by cases hg), h2.apart⟩⟩
  rcases List.mem_cons.1 hr with rfl | hr
  · exact World.ownsRow_nil _ _ _ _
  · exact h2.own r hr

set_option maxHeartbeats 4000000 in
set_option maxRecDepth 100000 in
theorem Now_any {B : Nat} {w : World} {g : Nat} {k : Wo} (h : Wk B w g k) : Calls Tryz.prog 26 #[.pointer (some ⟨g, 0, none⟩)] w fun e w' => e = .returned (.int .i64 k.nw) ∧ w' = w := by
  have x := h.cell (j := 14) rfl
  clear h
  go_enter Tryz.func26, Tryz.ntmps26
  go_wp2
  go_ret
  exact ⟨rfl, rfl⟩

set_option maxHeartbeats 4000000 in
set_option maxRecDepth 100000 in
theorem State_any {B : Nat} {w : World} {g : Nat} {k : Wo} (h : Wk B w g k) (hz : Sz k.s) :
    Calls Tryz.prog 13 #[.pointer (some ⟨g, 0, none⟩)] w fun e w' => ∃ t : St, e = .returned (.agg t.c.toArray) ∧ Own w.heap.size w' t.rows ∧ t.e = k.s.e ∧ Below w.heap.size w w' := by
  obtain ⟨s, pt, ps, nw, ev, el⟩ := k
  simp only at hz
  have hs : Sv w s := h.sv
  have hsl := Sv.slices hs
  have hlt := h.lt.2
  have hb0 : Below w.heap.size w (w.alloc (.cells #[.int .u64 0, .int .u64 0, .int .u64 0, .slice none 0 0, .slice none 0 0, .slice none 0 0, .slice none 0 0, .slice none 0 0, .slice none 0 0, .slice none 0 0, .slice none 0 0, .slice none 0 0] 33)) := (Below.refl _ w).alloc (Nat.le_refl _) _
  have CC := Clone_any (hs.up hb0) hz
  have hX : ∀ (j : Nat) (u : Value), s.c[j]? = some u → w.cell? ⟨g, j, none⟩ = some u := fun j u hj => h.cell (by
    have hl := (List.getElem?_eq_some_iff.1 hj).1
    show (s.c ++ _)[j]? = _
    rw [List.getElem?_append_left hl]; exact hj)
  clear h hz hs
  obtain ⟨⟨saDe, snDe, scDe, shDe⟩, ⟨saIn, snIn, scIn, shIn⟩, ⟨saTk, snTk, scTk, shTk⟩, ⟨saJb, snJb, scJb, shJb⟩, ⟨saTm, snTm, scTm, shTm⟩, ⟨saSb, snSb, scSb, shSb⟩, ⟨saKp, snKp, scKp, shKp⟩, ⟨saLs, snLs, scLs, shLs⟩, ⟨saMs, snMs, scMs, shMs⟩⟩ := hsl
  obtain ⟨spos, sdone, smade, svDe, slDe, svIn, slIn, svTk, slTk, svJb, slJb, svTm, slTm, svSb, slSb, svKp, slKp, svLs, slLs, svMs, slMs⟩ := s
  simp only at shDe shIn shTk shJb shTm shSb shKp shLs shMs
  subst shDe shIn shTk shJb shTm shSb shKp shLs shMs
  simp only [St.c] at CC hX ⊢
  obtain ⟨W1, hW1⟩ : ∃ W1, w.alloc (.cells #[.int .u64 0, .int .u64 0, .int .u64 0, .slice none 0 0, .slice none 0 0, .slice none 0 0, .slice none 0 0, .slice none 0 0, .slice none 0 0, .slice none 0 0, .slice none 0 0, .slice none 0 0] 33) = W1 := ⟨_, rfl⟩
  rw [hW1] at CC hb0
  have hob : W1.heap[w.heap.size]? = some (.cells #[.int .u64 0, .int .u64 0, .int .u64 0, .slice none 0 0, .slice none 0 0, .slice none 0 0, .slice none 0 0, .slice none 0 0, .slice none 0 0, .slice none 0 0, .slice none 0 0, .slice none 0 0] 33 (0, 0)) := by rw [← hW1]; exact heap_alloc_new w _
  have hs1 : W1.heap.size = w.heap.size + 1 := by rw [← hW1]; simp
  have x0 : W1.cell? ⟨g, 0, none⟩ = some (.int .u64 (spos : Int)) := (hb0.cell (p := ⟨g, 0, none⟩) hlt).trans (hX 0 _ rfl)
  have x1 : W1.cell? ⟨g, 1, none⟩ = some (.int .u64 (sdone : Int)) := (hb0.cell (p := ⟨g, 1, none⟩) hlt).trans (hX 1 _ rfl)
  have x2 : W1.cell? ⟨g, 2, none⟩ = some (.int .u64 (smade : Int)) := (hb0.cell (p := ⟨g, 2, none⟩) hlt).trans (hX 2 _ rfl)
  have x3 : W1.cell? ⟨g, 3, none⟩ = some (.slice saDe snDe scDe) := (hb0.cell (p := ⟨g, 3, none⟩) hlt).trans (hX 3 _ rfl)
  have x4 : W1.cell? ⟨g, 4, none⟩ = some (.slice saIn snIn scIn) := (hb0.cell (p := ⟨g, 4, none⟩) hlt).trans (hX 4 _ rfl)
  have x5 : W1.cell? ⟨g, 5, none⟩ = some (.slice saTk snTk scTk) := (hb0.cell (p := ⟨g, 5, none⟩) hlt).trans (hX 5 _ rfl)
  have x6 : W1.cell? ⟨g, 6, none⟩ = some (.slice saJb snJb scJb) := (hb0.cell (p := ⟨g, 6, none⟩) hlt).trans (hX 6 _ rfl)
  have x7 : W1.cell? ⟨g, 7, none⟩ = some (.slice saTm snTm scTm) := (hb0.cell (p := ⟨g, 7, none⟩) hlt).trans (hX 7 _ rfl)
  have x8 : W1.cell? ⟨g, 8, none⟩ = some (.slice saSb snSb scSb) := (hb0.cell (p := ⟨g, 8, none⟩) hlt).trans (hX 8 _ rfl)
  have x9 : W1.cell? ⟨g, 9, none⟩ = some (.slice saKp snKp scKp) := (hb0.cell (p := ⟨g, 9, none⟩) hlt).trans (hX 9 _ rfl)
  have x10 : W1.cell? ⟨g, 10, none⟩ = some (.slice saLs snLs scLs) := (hb0.cell (p := ⟨g, 10, none⟩) hlt).trans (hX 10 _ rfl)
  have x11 : W1.cell? ⟨g, 11, none⟩ = some (.slice saMs snMs scMs) := (hb0.cell (p := ⟨g, 11, none⟩) hlt).trans (hX 11 _ rfl)
  have HO1 : Hid _ := hob
  have HB0 : Hid (Below w.heap.size w W1 ∧ W1.heap.size = w.heap.size + 1) := ⟨hb0, hs1⟩
  clear hob hb0 hX hs1 hlt
  go_enter Tryz.func13, Tryz.ntmps13
  go_wp2_with (go_at_call 23; refine CC.mono ?_; rintro e w1 ⟨t, rfl, hO, hE, hb1⟩; obtain ⟨⟨taDe, tnDe, tcDe, thDe⟩, ⟨taIn, tnIn, tcIn, thIn⟩, ⟨taTk, tnTk, tcTk, thTk⟩, ⟨taJb, tnJb, tcJb, thJb⟩, ⟨taTm, tnTm, tcTm, thTm⟩, ⟨taSb, tnSb, tcSb, thSb⟩, ⟨taKp, tnKp, tcKp, thKp⟩, ⟨taLs, tnLs, tcLs, thLs⟩, ⟨taMs, tnMs, tcMs, thMs⟩⟩ := Sv.slices (Own.sv hO); obtain ⟨tpos, tdone, tmade, tvDe, tlDe, tvIn, tlIn, tvTk, tlTk, tvJb, tlJb, tvTm, tlTm, tvSb, tlSb, tvKp, tlKp, tvLs, tlLs, tvMs, tlMs⟩ := t; simp only at thDe thIn thTk thJb thTm thSb thKp thLs thMs; subst thDe thIn thTk thJb thTm thSb thKp thLs thMs; simp only; (have hob : w1.heap[w.heap.size]? = some (.cells #[.int .u64 0, .int .u64 0, .int .u64 0, .slice none 0 0, .slice none 0 0, .slice none 0 0, .slice none 0 0, .slice none 0 0, .slice none 0 0, .slice none 0 0, .slice none 0 0, .slice none 0 0] 33 (0, 0)) := (hb1.block _ (by have := HB0.out.2; omega)).trans HO1.out); (have y0 : w1.cell? ⟨w.heap.size, 0, none⟩ = some (.int .u64 0) := by simp [World.cell?, hob]); (have g0 : w1.frozen? ⟨w.heap.size, 0, none⟩ = false := by simp [World.frozen?, hob]); (have y1 : w1.cell? ⟨w.heap.size, 1, none⟩ = some (.int .u64 0) := by simp [World.cell?, hob]); (have g1 : w1.frozen? ⟨w.heap.size, 1, none⟩ = false := by simp [World.frozen?, hob]); (have y2 : w1.cell? ⟨w.heap.size, 2, none⟩ = some (.int .u64 0) := by simp [World.cell?, hob]); (have g2 : w1.frozen? ⟨w.heap.size, 2, none⟩ = false := by simp [World.frozen?, hob]); (have y3 : w1.cell? ⟨w.heap.size, 3, none⟩ = some (.slice none 0 0) := by simp [World.cell?, hob]); (have g3 : w1.frozen? ⟨w.heap.size, 3, none⟩ = false := by simp [World.frozen?, hob]); (have y4 : w1.cell? ⟨w.heap.size, 4, none⟩ = some (.slice none 0 0) := by simp [World.cell?, hob]); (have g4 : w1.frozen? ⟨w.heap.size, 4, none⟩ = false := by simp [World.frozen?, hob]); (have y5 : w1.cell? ⟨w.heap.size, 5, none⟩ = some (.slice none 0 0) := by simp [World.cell?, hob]); (have g5 : w1.frozen? ⟨w.heap.size, 5, none⟩ = false := by simp [World.frozen?, hob]); (have y6 : w1.cell? ⟨w.heap.size, 6, none⟩ = some (.slice none 0 0) := by simp [World.cell?, hob]); (have g6 : w1.frozen? ⟨w.heap.size, 6, none⟩ = false := by simp [World.frozen?, hob]); (have y7 : w1.cell? ⟨w.heap.size, 7, none⟩ = some (.slice none 0 0) := by simp [World.cell?, hob]); (have g7 : w1.frozen? ⟨w.heap.size, 7, none⟩ = false := by simp [World.frozen?, hob]); (have y8 : w1.cell? ⟨w.heap.size, 8, none⟩ = some (.slice none 0 0) := by simp [World.cell?, hob]); (have g8 : w1.frozen? ⟨w.heap.size, 8, none⟩ = false := by simp [World.frozen?, hob]); (have y9 : w1.cell? ⟨w.heap.size, 9, none⟩ = some (.slice none 0 0) := by simp [World.cell?, hob]); (have g9 : w1.frozen? ⟨w.heap.size, 9, none⟩ = false := by simp [World.frozen?, hob]); (have y10 : w1.cell? ⟨w.heap.size, 10, none⟩ = some (.slice none 0 0) := by simp [World.cell?, hob]); (have g10 : w1.frozen? ⟨w.heap.size, 10, none⟩ = false := by simp [World.frozen?, hob]); (have y11 : w1.cell? ⟨w.heap.size, 11, none⟩ = some (.slice none 0 0) := by simp [World.cell?, hob]); (have g11 : w1.frozen? ⟨w.heap.size, 11, none⟩ = false := by simp [World.frozen?, hob]); (have HO : Hid _ := hO); (have HE : Hid _ := hE); (have HZ : Hid _ := hob); (have HB : Hid (Below w.heap.size w w1) := HB0.out.1.trans (hb1.mono (by have := HB0.out.2; omega))); clear hO hE hb1 hob CC)
  have ho9 := set12_obj0 (.int .u64 (tpos : Int)) (.int .u64 (tdone : Int)) (.int .u64 (tmade : Int)) (.slice taDe tnDe tcDe) (.slice taIn tnIn tcIn) (.slice taTk tnTk tcTk) (.slice taJb tnJb tcJb) (.slice taTm tnTm tcTm) (.slice taSb tnSb tcSb) (.slice taKp tnKp tcKp) (.slice taLs tnLs tcLs) (.slice taMs tnMs tcMs) HZ.out
  have hO := Own.of12' (.int .u64 (tpos : Int)) (.int .u64 (tdone : Int)) (.int .u64 (tmade : Int)) (.slice taDe tnDe tcDe) (.slice taIn tnIn tcIn) (.slice taTk tnTk tcTk) (.slice taJb tnJb tcJb) (.slice taTm tnTm tcTm) (.slice taSb tnSb tcSb) (.slice taKp tnKp tcKp) (.slice taLs tnLs tcLs) (.slice taMs tnMs tcMs) HO.out (show w.heap.size < W1.heap.size by have := HB0.out.2; omega)
  have hB9 := HB.out.trans ((set12_ch w1 w.heap.size (.int .u64 (tpos : Int)) (.int .u64 (tdone : Int)) (.int .u64 (tmade : Int)) (.slice taDe tnDe tcDe) (.slice taIn tnIn tcIn) (.slice taTk tnTk tcTk) (.slice taJb tnJb tcJb) (.slice taTm tnTm tcTm) (.slice taSb tnSb tcSb) (.slice taKp tnKp tcKp) (.slice taLs tnLs tcLs) (.slice taMs tnMs tcMs)).below HB.out.size (fun k hk e => by omega))
  have hE := HE.out
  unfold set12 at ho9 hO hB9
  refine bodyPost_ret (results_cell_row rfl _ _ w.heap.size 33 #[.int .u64 (tpos : Int), .int .u64 (tdone : Int), .int .u64 (tmade : Int), .slice taDe tnDe tcDe, .slice taIn tnIn tcIn, .slice taTk tnTk tcTk, .slice taJb tnJb tcJb, .slice taTm tnTm tcTm, .slice taSb tnSb tcSb, .slice taKp tnKp tcKp, .slice taLs tnLs tcLs, .slice taMs tnMs tcMs] (0, 0) _ rfl ho9 Tryz.underlying33 rfl size12) rfl ?_
  exact ⟨⟨tpos, tdone, tmade, .slice taDe tnDe tcDe, tlDe, .slice taIn tnIn tcIn, tlIn, .slice taTk tnTk tcTk, tlTk, .slice taJb tnJb tcJb, tlJb, .slice taTm tnTm tcTm, tlTm, .slice taSb tnSb tcSb, tlSb, .slice taKp tnKp tcKp, tlKp, .slice taLs tnLs tcLs, tlLs, .slice taMs tnMs tcMs, tlMs⟩, rfl, hO.base (by have := HB0.out.2; omega), hE, hB9⟩
end Go.Proofs.YthmfcloecmnfnaaGreat.f13

/-
  BookMost's walk.
-/
import Derived.Test.YtajnjeipcbmlhaaGreatB16Shn
import Derived.Test.YtajnjeipcbmlhaaGreatB16Pur
import Derived.Test.YtajnjeipcbmlhaaGreatB16Bad
import Derived.Test.YtajnjeipcbmlhaaGreatB16Drd
import Derived.Test.YtajnjeipcbmlhaaGreatF13Dtk
namespace Go.Proofs.YtajnjeipcbmlhaaGreat.f13
open Go.RowKit Go.Shelf Go.Sort
open Go.Lib hiding intOf
open Go.Proofs.YtajnjeipcbmlhaaGreat
theorem jb_e {s t : St} (h : t.e = s.e) : t.jobs = s.jobs := St.jobs_e h
set_option maxHeartbeats 8000000 in
set_option maxRecDepth 100000 in
theorem most_bad {w : World} {s : St} {kind : List UInt8} {mo : Int} (hs : Sv w s) (hz : Sz s) (hk : namV kind = false) (hl : kind.length ≤ 4611686018427387904) (hm1 : 1 ≤ mo) (hm2 : mo ≤ 32) :
    Calls Tryz.prog 4 #[.agg s.c.toArray, .string (S kind), .int .i64 mo] w fun e w' => e = .returned (.bool true) ∧ Below w.heap.size w w' := by
  have hnot : ¬ mo < 1 := by omega
  have hnot2 : ¬ 32 < mo := by omega
  have HK : Hid (namV kind = false ∧ kind.length ≤ 4611686018427387904) := ⟨hk, hl⟩
  clear hk hl hm1 hm2
  have HS : Hid (Sv w s ∧ Sz s) := ⟨hs, hz⟩
  have hsl := Sv.slices hs
  clear hs hz
  obtain ⟨⟨saDe, snDe, scDe, shDe⟩, ⟨saIn, snIn, scIn, shIn⟩, ⟨saTk, snTk, scTk, shTk⟩, ⟨saJb, snJb, scJb, shJb⟩, ⟨saTm, snTm, scTm, shTm⟩, ⟨saSb, snSb, scSb, shSb⟩, ⟨saKp, snKp, scKp, shKp⟩, ⟨saLs, snLs, scLs, shLs⟩, ⟨saMs, snMs, scMs, shMs⟩⟩ := hsl
  obtain ⟨spos, sdone, smade, svDe, slDe, svIn, slIn, svTk, slTk, svJb, slJb, svTm, slTm, svSb, slSb, svKp, slKp, svLs, slLs, svMs, slMs⟩ := s
  simp only at shDe shIn shTk shJb shTm shSb shKp shLs shMs
  subst shDe shIn shTk shJb shTm shSb shKp shLs shMs
  simp only [St.c]
  refine (callsIn_wide (n := 9)).1 ?_
  refine callsIn_of_wp Tryz.func4 rfl trivial ?_ rfl
  simp only [Tryz.ntmps4, List.size_toArray, List.length_cons, List.length_nil, Nat.reduceAdd, Nat.reduceSub, Array.replicate_succ, Array.replicate_zero, List.push_toArray, List.append_toArray, List.nil_append, List.cons_append]
  gi_wp2_with ((refine ⟨trivial, ?_⟩; gi_at_call 5; refine (callsIn_wide.2 (shown_any _)).mono ?_; rintro e w1 ⟨rfl, hb1⟩; (have hob1 : w1.heap[w.heap.size]? = some (.cells #[.int .u64 (spos : Int), .int .u64 (sdone : Int), .int .u64 (smade : Int), .slice saDe snDe scDe, .slice saIn snIn scIn, .slice saTk snTk scTk, .slice saJb snJb scJb, .slice saTm snTm scTm, .slice saSb snSb scSb, .slice saKp snKp scKp, .slice saLs snLs scLs, .slice saMs snMs scMs] 33 (0, 0)) := (hb1.block _ (by simp)).trans (heap_alloc_new w _)); (have HB1 : Hid (Below w.heap.size w w1 ∧ w.heap.size < w1.heap.size ∧ w1.heap[w.heap.size]? = some (.cells #[.int .u64 (spos : Int), .int .u64 (sdone : Int), .int .u64 (smade : Int), .slice saDe snDe scDe, .slice saIn snIn scIn, .slice saTk snTk scTk, .slice saJb snJb scJb, .slice saTm snTm scTm, .slice saSb snSb scSb, .slice saKp snKp scKp, .slice saLs snLs scLs, .slice saMs snMs scMs] 33 (0, 0))) := ⟨((Below.refl _ w).alloc (Nat.le_refl _) _).trans (hb1.mono (by simp)), by have := hb1.size; rw [World.size_alloc] at this; omega, hob1⟩); (have x0 : w1.cell? ⟨w.heap.size, 0, none⟩ = some (.int .u64 (spos : Int)) := by simp [World.cell?, hob1]); (have x1 : w1.cell? ⟨w.heap.size, 1, none⟩ = some (.int .u64 (sdone : Int)) := by simp [World.cell?, hob1]); (have x2 : w1.cell? ⟨w.heap.size, 2, none⟩ = some (.int .u64 (smade : Int)) := by simp [World.cell?, hob1]); (have x3 : w1.cell? ⟨w.heap.size, 3, none⟩ = some (.slice saDe snDe scDe) := by simp [World.cell?, hob1]); (have x4 : w1.cell? ⟨w.heap.size, 4, none⟩ = some (.slice saIn snIn scIn) := by simp [World.cell?, hob1]); (have x5 : w1.cell? ⟨w.heap.size, 5, none⟩ = some (.slice saTk snTk scTk) := by simp [World.cell?, hob1]); (have x6 : w1.cell? ⟨w.heap.size, 6, none⟩ = some (.slice saJb snJb scJb) := by simp [World.cell?, hob1]); (have x7 : w1.cell? ⟨w.heap.size, 7, none⟩ = some (.slice saTm snTm scTm) := by simp [World.cell?, hob1]); (have x8 : w1.cell? ⟨w.heap.size, 8, none⟩ = some (.slice saSb snSb scSb) := by simp [World.cell?, hob1]); (have x9 : w1.cell? ⟨w.heap.size, 9, none⟩ = some (.slice saKp snKp scKp) := by simp [World.cell?, hob1]); (have x10 : w1.cell? ⟨w.heap.size, 10, none⟩ = some (.slice saLs snLs scLs) := by simp [World.cell?, hob1]); (have x11 : w1.cell? ⟨w.heap.size, 11, none⟩ = some (.slice saMs snMs scMs) := by simp [World.cell?, hob1]); (have CB := Begin_any (HS.out.1.up HB1.out.1) HS.out.2 0 1 10); simp only [St.c] at CB; clear hb1 hob1))
  gi_wp2_with ((refine ⟨trivial, ?_⟩; gi_at_call 6; refine (callsIn_wide.2 CB).mono ?_; rintro e w2 ⟨g, t2, rfl, hE, hW, hb⟩; (have H2 : Hid (Wk w1.heap.size w2 g ⟨t2, 0, 1, 10, .slice none 0 0, []⟩ ∧ Below w1.heap.size w1 w2 ∧ t2.e = (⟨spos, sdone, smade, .slice saDe snDe scDe, slDe, .slice saIn snIn scIn, slIn, .slice saTk snTk scTk, slTk, .slice saJb snJb scJb, slJb, .slice saTm snTm scTm, slTm, .slice saSb snSb scSb, slSb, .slice saKp snKp scKp, slKp, .slice saLs snLs scLs, slLs, .slice saMs snMs scMs, slMs⟩ : St).e) := ⟨hW, hb, hE⟩); (have hob2 : w2.heap[w.heap.size]? = some (.cells #[.int .u64 (spos : Int), .int .u64 (sdone : Int), .int .u64 (smade : Int), .slice saDe snDe scDe, .slice saIn snIn scIn, .slice saTk snTk scTk, .slice saJb snJb scJb, .slice saTm snTm scTm, .slice saSb snSb scSb, .slice saKp snKp scKp, .slice saLs snLs scLs, .slice saMs snMs scMs] 33 (0, 0)) := (hb.block _ HB1.out.2.1).trans HB1.out.2.2); (have y0 : w2.cell? ⟨w.heap.size, 0, none⟩ = some (.int .u64 (spos : Int)) := by simp [World.cell?, hob2]); (have y1 : w2.cell? ⟨w.heap.size, 1, none⟩ = some (.int .u64 (sdone : Int)) := by simp [World.cell?, hob2]); (have y2 : w2.cell? ⟨w.heap.size, 2, none⟩ = some (.int .u64 (smade : Int)) := by simp [World.cell?, hob2]); (have y3 : w2.cell? ⟨w.heap.size, 3, none⟩ = some (.slice saDe snDe scDe) := by simp [World.cell?, hob2]); (have y4 : w2.cell? ⟨w.heap.size, 4, none⟩ = some (.slice saIn snIn scIn) := by simp [World.cell?, hob2]); (have y5 : w2.cell? ⟨w.heap.size, 5, none⟩ = some (.slice saTk snTk scTk) := by simp [World.cell?, hob2]); (have y6 : w2.cell? ⟨w.heap.size, 6, none⟩ = some (.slice saJb snJb scJb) := by simp [World.cell?, hob2]); (have y7 : w2.cell? ⟨w.heap.size, 7, none⟩ = some (.slice saTm snTm scTm) := by simp [World.cell?, hob2]); (have y8 : w2.cell? ⟨w.heap.size, 8, none⟩ = some (.slice saSb snSb scSb) := by simp [World.cell?, hob2]); (have y9 : w2.cell? ⟨w.heap.size, 9, none⟩ = some (.slice saKp snKp scKp) := by simp [World.cell?, hob2]); (have y10 : w2.cell? ⟨w.heap.size, 10, none⟩ = some (.slice saLs snLs scLs) := by simp [World.cell?, hob2]); (have y11 : w2.cell? ⟨w.heap.size, 11, none⟩ = some (.slice saMs snMs scMs) := by simp [World.cell?, hob2]); (have CR := dReady_any kind (HS.out.1.up (HB1.out.1.trans (hb.mono HB1.out.1.size))) HS.out.2.nJb); simp only [St.c] at CR; clear hE hW hb hob2 CB))
  gi_wp2_with ((refine ⟨trivial, ?_⟩; gi_at_call 11; refine (callsIn_wide.2 CR).mono ?_; rintro e w3 ⟨gv, rfl, hrow, hb⟩; (have H3 : Hid (Below w1.heap.size w1 w3) := H2.out.2.1.trans (hb.mono H2.out.2.1.size)); (have CA := act_bad g ⟨#[119]⟩ mo 5 w3 HK.out.1 HK.out.2); clear hrow hb CR))
  gi_wp2_with ((refine ⟨trivial, ?_⟩; gi_at_call 8; refine (callsIn_wide.2 CA).mono ?_; rintro e w4 ⟨rfl, hb⟩; (have H4 : Hid (Below w1.heap.size w1 w4) := H3.out.trans (hb.mono H3.out.size)); clear hb CA))
  gi_wp2
  refine bodyPost_ret (results_tmp rfl _ _ _) rfl ?_
  exact ⟨rfl, HB1.out.1.trans (H4.out.mono HB1.out.1.size)⟩
end Go.Proofs.YtajnjeipcbmlhaaGreat.f13
namespace Go.Proofs.YtajnjeipcbmlhaaGreat.f13
open Go.RowKit Go.Shelf Go.Sort
open Go.Lib hiding intOf
open Go.Proofs.YtajnjeipcbmlhaaGreat
theorem helm0 {k : Wo} (h : k.el = []) : ((k.el.length + 33) + (k.el.length + 33) / 4 + 192) * 144 ≤ 281474976710656 := by rw [h]; decide
theorem _root_.Go.RowKit.Below.cell' {w w' : World} (h : Below w.heap.size w w') {p : Addr} {v : Value} (hc : w.cell? p = some v) : w'.cell? p = some v := (h.cell (p := p) (World.block_lt_of_cell? _ _ hc)).trans hc
theorem below_setRow {N g : Nat} {w w' : World} {cs : Array Value} (h : Below N w w') (hg : N ≤ g) : Below N w (w'.setRow g cs) :=
  ⟨h.os, h.tape, h.output, by rw [setRow_size]; exact h.size, fun k hk => (setRow_other _ _ _ _ (by omega)).trans (h.block k hk)⟩
theorem jb_one (y0 y1 : Nat) (y2 : ByteArray) (y3 : Int) (y4 : ByteArray) (y6 : Int) : (#[.int .u64 (y0 : Int), .int .u64 (y1 : Int), .string y2, .int .i64 y3, .string y4, .int .i64 y6] : Array Value).all (·.oneCell') = true := by simp [Value.oneCell']
theorem wrap15 : IntKind.i64.wrap ((10 : Int) + 5) = 15 := by decide
set_option maxHeartbeats 8000000 in
set_option maxRecDepth 100000 in
theorem most_main {w : World} {s : St} {kind : List UInt8} {mo : Int} (hs : Sv w s) (hz : Sz s) (hk : namV kind = true) (hm1 : 1 ≤ mo) (hm2 : mo ≤ 32) :
    Calls Tryz.prog 4 #[.agg s.c.toArray, .string (S kind), .int .i64 mo] w fun e w' => e = .returned (.bool true) ∧ Below w.heap.size w w' := by
  have hnot : ¬ mo < 1 := by omega
  have hnot2 : ¬ 32 < mo := by omega
  have HK : Hid (namV kind = true ∧ 1 ≤ mo ∧ mo ≤ 32) := ⟨hk, hm1, hm2⟩
  clear hk hm1 hm2
  have HS : Hid (Sv w s ∧ Sz s) := ⟨hs, hz⟩
  have hsl := Sv.slices hs
  clear hs hz
  obtain ⟨⟨saDe, snDe, scDe, shDe⟩, ⟨saIn, snIn, scIn, shIn⟩, ⟨saTk, snTk, scTk, shTk⟩, ⟨saJb, snJb, scJb, shJb⟩, ⟨saTm, snTm, scTm, shTm⟩, ⟨saSb, snSb, scSb, shSb⟩, ⟨saKp, snKp, scKp, shKp⟩, ⟨saLs, snLs, scLs, shLs⟩, ⟨saMs, snMs, scMs, shMs⟩⟩ := hsl
  obtain ⟨spos, sdone, smade, svDe, slDe, svIn, slIn, svTk, slTk, svJb, slJb, svTm, slTm, svSb, slSb, svKp, slKp, svLs, slLs, svMs, slMs⟩ := s
  simp only at shDe shIn shTk shJb shTm shSb shKp shLs shMs
  subst shDe shIn shTk shJb shTm shSb shKp shLs shMs
  simp only [St.c]
  refine (callsIn_wide (n := 9)).1 ?_
  refine callsIn_of_wp Tryz.func4 rfl trivial ?_ rfl
  simp only [Tryz.ntmps4, List.size_toArray, List.length_cons, List.length_nil, Nat.reduceAdd, Nat.reduceSub, Array.replicate_succ, Array.replicate_zero, List.push_toArray, List.append_toArray, List.nil_append, List.cons_append]
  gi_wp2_with ((refine ⟨trivial, ?_⟩; gi_at_call 5; refine (callsIn_wide.2 (shown_any _)).mono ?_; rintro e w1 ⟨rfl, hb1⟩; (have hob1 : w1.heap[w.heap.size]? = some (.cells #[.int .u64 (spos : Int), .int .u64 (sdone : Int), .int .u64 (smade : Int), .slice saDe snDe scDe, .slice saIn snIn scIn, .slice saTk snTk scTk, .slice saJb snJb scJb, .slice saTm snTm scTm, .slice saSb snSb scSb, .slice saKp snKp scKp, .slice saLs snLs scLs, .slice saMs snMs scMs] 33 (0, 0)) := (hb1.block _ (by simp)).trans (heap_alloc_new w _)); (have HB1 : Hid (Below w.heap.size w w1 ∧ w.heap.size < w1.heap.size ∧ w1.heap[w.heap.size]? = some (.cells #[.int .u64 (spos : Int), .int .u64 (sdone : Int), .int .u64 (smade : Int), .slice saDe snDe scDe, .slice saIn snIn scIn, .slice saTk snTk scTk, .slice saJb snJb scJb, .slice saTm snTm scTm, .slice saSb snSb scSb, .slice saKp snKp scKp, .slice saLs snLs scLs, .slice saMs snMs scMs] 33 (0, 0))) := ⟨((Below.refl _ w).alloc (Nat.le_refl _) _).trans (hb1.mono (by simp)), by have := hb1.size; rw [World.size_alloc] at this; omega, hob1⟩); (have x0 : w1.cell? ⟨w.heap.size, 0, none⟩ = some (.int .u64 (spos : Int)) := by simp [World.cell?, hob1]); (have x1 : w1.cell? ⟨w.heap.size, 1, none⟩ = some (.int .u64 (sdone : Int)) := by simp [World.cell?, hob1]); (have x2 : w1.cell? ⟨w.heap.size, 2, none⟩ = some (.int .u64 (smade : Int)) := by simp [World.cell?, hob1]); (have x3 : w1.cell? ⟨w.heap.size, 3, none⟩ = some (.slice saDe snDe scDe) := by simp [World.cell?, hob1]); (have x4 : w1.cell? ⟨w.heap.size, 4, none⟩ = some (.slice saIn snIn scIn) := by simp [World.cell?, hob1]); (have x5 : w1.cell? ⟨w.heap.size, 5, none⟩ = some (.slice saTk snTk scTk) := by simp [World.cell?, hob1]); (have x6 : w1.cell? ⟨w.heap.size, 6, none⟩ = some (.slice saJb snJb scJb) := by simp [World.cell?, hob1]); (have x7 : w1.cell? ⟨w.heap.size, 7, none⟩ = some (.slice saTm snTm scTm) := by simp [World.cell?, hob1]); (have x8 : w1.cell? ⟨w.heap.size, 8, none⟩ = some (.slice saSb snSb scSb) := by simp [World.cell?, hob1]); (have x9 : w1.cell? ⟨w.heap.size, 9, none⟩ = some (.slice saKp snKp scKp) := by simp [World.cell?, hob1]); (have x10 : w1.cell? ⟨w.heap.size, 10, none⟩ = some (.slice saLs snLs scLs) := by simp [World.cell?, hob1]); (have x11 : w1.cell? ⟨w.heap.size, 11, none⟩ = some (.slice saMs snMs scMs) := by simp [World.cell?, hob1]); (have CB := Begin_any (HS.out.1.up HB1.out.1) HS.out.2 0 1 10); simp only [St.c] at CB; clear hb1 hob1))
  gi_wp2_with ((refine ⟨trivial, ?_⟩; gi_at_call 6; refine (callsIn_wide.2 CB).mono ?_; rintro e w2 ⟨g, t2, rfl, hE, hW, hb⟩; (have H2 : Hid (Wk w1.heap.size w2 g ⟨t2, 0, 1, 10, .slice none 0 0, []⟩ ∧ Below w1.heap.size w1 w2 ∧ t2.e = (⟨spos, sdone, smade, .slice saDe snDe scDe, slDe, .slice saIn snIn scIn, slIn, .slice saTk snTk scTk, slTk, .slice saJb snJb scJb, slJb, .slice saTm snTm scTm, slTm, .slice saSb snSb scSb, slSb, .slice saKp snKp scKp, slKp, .slice saLs snLs scLs, slLs, .slice saMs snMs scMs, slMs⟩ : St).e) := ⟨hW, hb, hE⟩); (have hob2 : w2.heap[w.heap.size]? = some (.cells #[.int .u64 (spos : Int), .int .u64 (sdone : Int), .int .u64 (smade : Int), .slice saDe snDe scDe, .slice saIn snIn scIn, .slice saTk snTk scTk, .slice saJb snJb scJb, .slice saTm snTm scTm, .slice saSb snSb scSb, .slice saKp snKp scKp, .slice saLs snLs scLs, .slice saMs snMs scMs] 33 (0, 0)) := (hb.block _ HB1.out.2.1).trans HB1.out.2.2); (have y0 : w2.cell? ⟨w.heap.size, 0, none⟩ = some (.int .u64 (spos : Int)) := by simp [World.cell?, hob2]); (have y1 : w2.cell? ⟨w.heap.size, 1, none⟩ = some (.int .u64 (sdone : Int)) := by simp [World.cell?, hob2]); (have y2 : w2.cell? ⟨w.heap.size, 2, none⟩ = some (.int .u64 (smade : Int)) := by simp [World.cell?, hob2]); (have y3 : w2.cell? ⟨w.heap.size, 3, none⟩ = some (.slice saDe snDe scDe) := by simp [World.cell?, hob2]); (have y4 : w2.cell? ⟨w.heap.size, 4, none⟩ = some (.slice saIn snIn scIn) := by simp [World.cell?, hob2]); (have y5 : w2.cell? ⟨w.heap.size, 5, none⟩ = some (.slice saTk snTk scTk) := by simp [World.cell?, hob2]); (have y6 : w2.cell? ⟨w.heap.size, 6, none⟩ = some (.slice saJb snJb scJb) := by simp [World.cell?, hob2]); (have y7 : w2.cell? ⟨w.heap.size, 7, none⟩ = some (.slice saTm snTm scTm) := by simp [World.cell?, hob2]); (have y8 : w2.cell? ⟨w.heap.size, 8, none⟩ = some (.slice saSb snSb scSb) := by simp [World.cell?, hob2]); (have y9 : w2.cell? ⟨w.heap.size, 9, none⟩ = some (.slice saKp snKp scKp) := by simp [World.cell?, hob2]); (have y10 : w2.cell? ⟨w.heap.size, 10, none⟩ = some (.slice saLs snLs scLs) := by simp [World.cell?, hob2]); (have y11 : w2.cell? ⟨w.heap.size, 11, none⟩ = some (.slice saMs snMs scMs) := by simp [World.cell?, hob2]); (have CR := dReady_any kind (HS.out.1.up (HB1.out.1.trans (hb.mono HB1.out.1.size))) HS.out.2.nJb); simp only [St.c] at CR; clear hE hW hb hob2 CB))
  obtain ⟨R, hR⟩ : ∃ R, rdyT kind slJb slJb.length = R := ⟨_, rfl⟩
  rw [hR] at CR
  have HR : Hid (rdyT kind slJb slJb.length = R) := hR
  clear hR
  gi_wp2_with ((refine ⟨trivial, ?_⟩; gi_at_call 11; refine (callsIn_wide.2 CR).mono ?_; rintro e w3 ⟨gv, rfl, hrow, hb⟩; (have H3 : Hid (Below w2.heap.size w2 w3) := hb); (have HRow : Hid (w3.ownsRow w2.heap.size 3 1 gv R.length (R.map (fun p => Value.int .i64 (p.2 : Int)))) := hrow); (have CA := act_yes (kind := kind) (wk := [119]) (mo := mo) (wt := 5) (H2.out.1.up hb) (Nat.le_trans H2.out.2.1.size hb.size) (Sz.of_e' (H2.out.2.2 ▸ HS.out.2.to_e')) (helm0 rfl) HK.out.1 (by kernel_rfl) HK.out.2.1 HK.out.2.2 (by decide) (by decide)); simp only [wrap15, St.jobs_e H2.out.2.2, HR.out] at CA; clear hrow hb CR))
  obtain ⟨M, hM⟩ : ∃ M, R.take mo.toNat = M := ⟨_, rfl⟩
  rw [hM] at CA
  have HM : Hid (R.take mo.toNat = M) := hM
  clear hM
  gi_wp2_with ((refine ⟨trivial, ?_⟩; gi_at_call 8; refine (callsIn_wide.2 CA).mono ?_; rintro e w4 ⟨av, k', rfl, h1, h2, h3, h4, -⟩; (have HB4 : Hid (Below w1.heap.size w1 w4) := (H2.out.2.1.trans (H3.out.mono H2.out.2.1.size)).trans (h1.bel (H2.out.1.up H3.out) (Nat.le_trans H2.out.2.1.size H3.out.size))); (have HA : Hid (Wkr w1.heap.size w3 g ⟨t2, 0, 1, 10, .slice none 0 0, []⟩ k' w4 ∧ Sz k'.s ∧ ActP ⟨t2, 0, 1, 10, .slice none 0 0, []⟩ [119] 15 M k') := ⟨h1, h2, h3⟩); (have HRow4 : Hid (w4.ownsRow w2.heap.size 3 1 gv R.length (R.map (fun p => Value.int .i64 (p.2 : Int)))) := h1.ch.row HRow.out (fun y hy e => by have := (HRow.out.lt y hy).1; exact e.elim (fun e => by have := H2.out.1.lt.2; omega) (fun e => by cases e))); (have HRowM : Hid (w4.ownsRow w3.heap.size 45 6 av M.length ((M.map (fun x => actJ [119] 15 x.1)).flatMap Jb.c)) := h4); clear h1 h2 h3 h4 CA))
  obtain ⟨la, lc, rfl, -⟩ := row_slice HRowM.out
  obtain ⟨ra, rc, rfl, -⟩ := row_slice HRow4.out
  have hRl : R.length ≤ 4611686018427387904 := by
    have h1 := rdyT_len kind slJb slJb.length
    rw [HR.out] at h1
    have h2 := HS.out.2.nJb
    simp only at h2
    omega
  have hMl : M.length ≤ 4611686018427387904 := by rw [← HM.out, List.length_take]; omega
  have hpre : M <+: R := by rw [← HM.out]; exact List.take_prefix _ _
  have MI : Hid (∀ i, (h : i < M.length) → M[i] = R[i]'(Nat.lt_of_lt_of_le h hpre.length_le)) := fun i h => hpre.getElem h
  have MO : Hid (∀ i, (h : i < M.length) → ∃ pj : Nat, (R[i]'(Nat.lt_of_lt_of_le h hpre.length_le)).2 = pj ∧ ∃ hp : pj < slJb.length, slJb[pj].key = M[i].1.key) := fun i h => by
    have h2 : i < (rdyT kind slJb slJb.length).length := by rw [HR.out]; exact Nat.lt_of_lt_of_le h hpre.length_le
    obtain ⟨hp, he⟩ := rdyT_at h2
    have h3 : (rdyT kind slJb slJb.length)[i] = M[i] := by rw [MI.out i h]; simp only [HR.out]
    exact ⟨M[i].2, by rw [MI.out i h], by rw [h3] at hp; exact hp, by simp only [h3] at he; rw [he]⟩
  have MG : Hid (∀ i, i < M.length → ∃ g1, la = some ⟨g1, 0, none⟩) := fun i h => by
    rcases HRowM.out.2 with ⟨e, h0⟩ | ⟨g, cap', cur, e, -⟩
    · omega
    · cases e; exact ⟨g, rfl⟩
  have MR : Hid (∀ i, i < M.length → ∃ g1, ra = some ⟨g1, 0, none⟩) := fun i h => by
    have := hpre.length_le
    rcases HRow4.out.2 with ⟨e, h0⟩ | ⟨g, cap', cur, e, -⟩
    · omega
    · cases e; exact ⟨g, rfl⟩
  have HX : Hid ((∀ i, (h : i < M.length) → ∀ g1, la = some ⟨g1, 0, none⟩ → ∀ W, Below w4.heap.size w4 W → ∀ (n : Nat) (u : Value), (Jb.c (actJ [119] 15 M[i].1))[n]? = some u → W.cell? ⟨g1, i * 6 + n, none⟩ = some u) ∧ (∀ i, (h : i < M.length) → ∀ g1, ra = some ⟨g1, 0, none⟩ → ∀ W, Below w4.heap.size w4 W → W.cell? ⟨g1, i, none⟩ = some (.int .i64 ((R[i]'(Nat.lt_of_lt_of_le h hpre.length_le)).2 : Int)))) := by
    refine ⟨fun i h g1 e W hW n u hu => ?_, fun i h g1 e W hW => ?_⟩
    · subst e
      refine (hW.cell (p := ⟨g1, i * 6 + n, none⟩) (HRowM.out.lt g1 rfl).2).trans (row_cell HRowM.out ?_)
      have hn : n < 6 := by have := (List.getElem?_eq_some_iff.1 hu).1; simpa [Jb.c] using this
      rw [fm_get Jb.k _ i n hn, List.getElem?_map, List.getElem?_eq_getElem h]; exact hu
    · subst e
      refine (hW.cell (p := ⟨g1, i, none⟩) (HRow4.out.lt g1 rfl).2).trans (row_cell HRow4.out ?_)
      rw [List.getElem?_map, List.getElem?_eq_getElem (Nat.lt_of_lt_of_le h hpre.length_le)]; rfl
  have HI : Hid (∀ x ∈ M, x.1 ∈ (⟨t2, 0, 1, 10, .slice none 0 0, []⟩ : Wo).s.jobs) := fun x hx => by
    have h1 : x ∈ R := hpre.subset hx
    rw [← HR.out] at h1
    have h2 := (List.mem_filter.1 h1).1
    rw [List.take_length] at h2
    show x.1 ∈ t2.jobs
    rw [St.jobs_e H2.out.2.2]
    obtain ⟨h3, h4⟩ := List.mem_zipIdx' h2
    rw [h4]; exact List.getElem_mem h3
  by_cases hgt : mo < (R.length : Int)
  · have hml : M.length = mo.toNat := by rw [← HM.out, List.length_take]; have := HK.out.2.1; omega
    have hmo : mo = (M.length : Int) := by have := HK.out.2.1; omega
    have hle : M.length ≤ R.length := by omega
    clear hml
    subst hmo

    have hgi : goInt (R.length : Int) = .int .i64 (R.length : Int) := by simp [goInt]
    have hlen0 : ∀ W, (Builtin.len_ #[50] 3 #[Value.slice ra R.length rc]).run Tryz.prog W = .ok (.int .i64 (R.length : Int)) W := fun W => by simp [Builtin.len_, hgi]
    gi_wp2
    clear hgi hlen0
    gi_loopw [13] (fun v13 wr => ∃ i : Nat, v13 = .int .i64 (i : Int) ∧ i ≤ M.length ∧ Hid (Below w4.heap.size w4 wr)) (fun v13 _ => M.length - (intOf v13).toNat)
    case atStart => exact ⟨0, rfl, Nat.zero_le _, Below.refl _ _⟩
    case round =>
      obtain ⟨i, rfl, hi, HL⟩ := hrel
      by_cases hlt : i < M.length
      · obtain ⟨pj, hpj, hp, hq⟩ := MO.out i hlt
        obtain ⟨g1, rfl⟩ := MG.out i hlt
        obtain ⟨rg, rfl⟩ := MR.out i hlt
        have l0 : wr.cell? ⟨g1, i * 6 + 0, none⟩ = some (.int .u64 (M[i].1.key : Int)) := HX.out.1 i hlt g1 rfl wr HL.out 0 _ rfl
        have l4 : wr.cell? ⟨g1, i * 6 + 4, none⟩ = some (.string ⟨#[119]⟩) := HX.out.1 i hlt g1 rfl wr HL.out 4 _ rfl
        have l5 : wr.cell? ⟨g1, i * 6 + 5, none⟩ = some (.int .i64 15) := HX.out.1 i hlt g1 rfl wr HL.out 5 _ rfl
        have r0 := HX.out.2 i hlt rg rfl wr HL.out
        rw [hpj] at r0
        obtain ⟨b', off, cap', hsl, -, hbl, hcell⟩ := HS.out.1.rJb.at hp
        obtain ⟨rfl, rfl, rfl⟩ : saJb = some ⟨b', off, none⟩ ∧ snJb = slJb.length ∧ scJb = cap' := by injection hsl with e1 e2 e3; exact ⟨e1, e2, e3⟩
        have m0 : wr.cell? ⟨b', off + pj * 6 + 0, none⟩ = some (.int .u64 (slJb[pj].key : Int)) := hcell wr (HB1.out.1.trans ((HB4.out.trans (HL.out.mono HB4.out.size)).mono HB1.out.1.size)) pj hp 0 _ rfl
        have bx : wr.cell? ⟨w.heap.size, 6, none⟩ = some (.slice (some ⟨b', off, none⟩) slJb.length scJb) := (HL.out.cell (p := ⟨w.heap.size, 6, none⟩) (Nat.lt_of_lt_of_le HB1.out.2.1 HB4.out.size)).trans ((HB4.out.cell (p := ⟨w.heap.size, 6, none⟩) HB1.out.2.1).trans (by simp [World.cell?, HB1.out.2.2]))
        rw [hq] at m0
        have CS : Hid (∀ W, Below wr.heap.size wr W → _) := fun W hW => State_any ((HA.out.1.wk.up HL.out).up hW) HA.out.2.1
        have HF : Hid (∀ t : St, t.e = k'.s.e → ∃ y : Jb, fstJb (fun x => x.kk == M[i].1.key) t.jobs = (y, true) ∧ y.wkr = [119]) := fun t ht => act_found HA.out.2.2 HI.out ht hlt
        generalize M[i].1.key = key at *
        simp only [Nat.add_zero] at l0 m0
        have hpl : (pj : Int) < (slJb.length : Int) := by omega
        have hil : (i : Int) < (M.length : Int) := by omega
        have hirl : (i : Int) < (R.length : Int) := by omega
        clear hsl hcell hpj hq
        gi_wp2
        gi_region
        gi_wp2
        refine wpIn_wide.2 ?_
        refine wp_region_held_drew (S := (fun W => W.cell? ⟨g1, i * 6, none⟩ = some (.int .u64 (key : Int)))) (by kernel_rfl) (by first | exact l0 | exact l5 | exact l6 | exact (cell_setRow_other _ _ _ ⟨g1, i * 6, none⟩ HNE.out).trans l6 | go_keep) (fun hHeld => ?_)
        refine wpAnyH_take (i := 0) (v := ?_) rfl (by kernel_rfl) (by kernel_rfl) (by kernel_rfl) (fun _ _ _ h => h) (Or.inl ⟨by kernel_rfl, ?_⟩) (by assumption) ?_
        rotate_left 1
        · intro w hSw; (try dsimp only at hSw); go_simp; try with_reducible rfl
        refine wpAnyH_take (i := 2) (v := ?_) rfl (by kernel_rfl) (by kernel_rfl) (by kernel_rfl) (fun _ _ _ h => h) (Or.inl ⟨by kernel_rfl, ?_⟩) (by assumption) ?_
        rotate_left 1
        · intro w hSw; (try dsimp only at hSw); go_simp; try with_reducible rfl
        refine wpAnyH_take (i := 3) (v := ?_) rfl (by kernel_rfl) (by kernel_rfl) (by kernel_rfl) (fun _ _ _ h => h) (Or.inl ⟨by kernel_rfl, ?_⟩) (by assumption) ?_
        rotate_left 1
        · intro w hSw; (try dsimp only at hSw); go_simp; try with_reducible rfl
        refine wpAnyH_take (i := 4) (v := ?_) rfl (by kernel_rfl) (by kernel_rfl) (by kernel_rfl) (fun _ _ _ h => h) (Or.inl ⟨by kernel_rfl, ?_⟩) (by assumption) ?_
        rotate_left 1
        · intro w hSw; (try dsimp only at hSw); go_simp; try with_reducible rfl
        refine wpAnyH_take (i := 5) (v := ?_) rfl (by kernel_rfl) (by kernel_rfl) (by kernel_rfl) (fun _ _ _ h => h) (Or.inl ⟨by kernel_rfl, ?_⟩) (by assumption) ?_
        rotate_left 1
        · intro w hSw; (try dsimp only at hSw); go_simp; try with_reducible rfl
        refine wpAnyH_take (i := 6) (v := ?_) rfl (by kernel_rfl) (by kernel_rfl) (by kernel_rfl) (fun _ _ _ h => h) (Or.inl ⟨by kernel_rfl, ?_⟩) (by assumption) ?_
        rotate_left 1
        · intro w hSw; (try dsimp only at hSw); go_simp; try with_reducible rfl
        refine wpAnyH_ready (rs := [1, 11]) (by kernel_rfl) (by simp) ?_
        refine AllReadyH.cons rfl (fun K hK => ?_) ?_
        · go_simp
          (go_at_call 7; refine (CS.out _ ((Below.refl _ wr).drew.drew)).mono ?_; rintro e w5 ⟨t5, rfl, hO, hE, hb⟩; obtain ⟨y5, hy, hyw⟩ := HF.out t5 hE; (have CJ := fun (W : World) (hW : Below w5.heap.size w5 W) => dJob_any (w := W) key ((Own.sv hO).up hW) (by rw [show t5.jobs.length = t5.e.jobs.length from rfl, hE]; have := HA.out.2.1.nJb; show k'.s.jobs.length ≤ _; omega)); simp only [hy] at CJ; obtain ⟨y0, y1, y2, y3, y4, y6⟩ := y5; obtain rfl : y4 = [119] := hyw; (have hwr : Below wr.heap.size wr w5 := Below.trans ((Below.refl _ wr).drew.drew) (hb.mono (Nat.le_refl _))); (have H5 : Hid (Below w4.heap.size w4 w5) := HL.out.trans (hwr.mono HL.out.size)); (have l5 : w5.cell? ⟨g1, i * 6, none⟩ = some (.int .u64 (key : Int)) := hwr.cell' l0); (have HWR : Hid (Below wr.heap.size wr w5) := hwr); obtain ⟨⟨qaDe, qnDe, qcDe, qhDe⟩, ⟨qaIn, qnIn, qcIn, qhIn⟩, ⟨qaTk, qnTk, qcTk, qhTk⟩, ⟨qaJb, qnJb, qcJb, qhJb⟩, ⟨qaTm, qnTm, qcTm, qhTm⟩, ⟨qaSb, qnSb, qcSb, qhSb⟩, ⟨qaKp, qnKp, qcKp, qhKp⟩, ⟨qaLs, qnLs, qcLs, qhLs⟩, ⟨qaMs, qnMs, qcMs, qhMs⟩⟩ := St.slices hO; obtain ⟨qpos, qdone, qmade, qvDe, qlDe, qvIn, qlIn, qvTk, qlTk, qvJb, qlJb, qvTm, qlTm, qvSb, qlSb, qvKp, qlKp, qvLs, qlLs, qvMs, qlMs⟩ := t5; simp only at qhDe qhIn qhTk qhJb qhTm qhSb qhKp qhLs qhMs; subst qhDe qhIn qhTk qhJb qhTm qhSb qhKp qhLs qhMs; simp only [St.c, Jb.c] at CJ ⊢; clear hO hE hb hwr)
          go_wp2_with fail
          refine hK.out _ _ (by first | exact l0 | exact l5 | exact l6 | exact (cell_setRow_other _ _ _ ⟨g1, i * 6, none⟩ HNE.out).trans l6 | go_keep) (fun hHeld => ?_)
          clear hK K
          refine wpAnyH_ready (rs := [7, 11]) (by kernel_rfl) (by simp) ?_
          refine AllReadyH.cons rfl (fun K hK => ?_) ?_
          · go_simp
            (go_at_call 9; refine (CJ _ (Below.refl _ _)).mono ?_; rintro e w6 ⟨rfl, hb6⟩; (have H6 : Hid (Below w4.heap.size w4 w6) := H5.out.trans (hb6.mono H5.out.size)); (have l6 : w6.cell? ⟨g1, i * 6, none⟩ = some (.int .u64 (key : Int)) := hb6.cell' l5); clear hb6 CJ)
            go_wp2_with fail
            refine hK.out _ _ (by first | exact l0 | exact l5 | exact l6 | exact (cell_setRow_other _ _ _ ⟨g1, i * 6, none⟩ HNE.out).trans l6 | go_keep) (fun hHeld => ?_)
            clear hK K
            refine wpAnyH_take (i := 8) (v := ?_) rfl (by kernel_rfl) (by kernel_rfl) (by kernel_rfl) (fun _ _ _ h => h) (Or.inl ⟨by kernel_rfl, ?_⟩) (by assumption) ?_
            rotate_left 1
            · intro w hSw; (try dsimp only at hSw); go_simp; try with_reducible rfl
            refine wpAnyH_take (i := 9) (v := ?_) rfl (by kernel_rfl) (by kernel_rfl) (by kernel_rfl) (fun _ _ _ h => h) (Or.inl ⟨by kernel_rfl, ?_⟩) (by assumption) ?_
            rotate_left 1
            · intro w hSw; (try dsimp only at hSw); go_simp; try with_reducible rfl
            refine wpAnyH_take (i := 10) (v := ?_) rfl (by kernel_rfl) (by kernel_rfl) (by kernel_rfl) (fun _ _ _ h => h) (Or.inl ⟨by kernel_rfl, ?_⟩) (by assumption) ?_
            rotate_left 1
            · intro w hSw; (try dsimp only at hSw); go_simp; try with_reducible rfl
            refine wpAnyH_ready (rs := [11]) (by kernel_rfl) (by simp) ?_
            refine AllReadyH.cons rfl (fun K hK => ?_) AllReadyH.nil
            go_simp
            refine hK.out _ _ (by first | exact l0 | exact l5 | exact l6 | exact (cell_setRow_other _ _ _ ⟨g1, i * 6, none⟩ HNE.out).trans l6 | go_keep) (fun hHeld => ?_)
            clear hK K
            refine wpAnyH_ready (rs := [12]) (by kernel_rfl) (by simp) ?_
            refine AllReadyH.cons rfl (fun K hK => ?_) AllReadyH.nil
            go_simp
            refine hK.out _ _ (by first | exact l0 | exact l5 | exact l6 | exact (cell_setRow_other _ _ _ ⟨g1, i * 6, none⟩ HNE.out).trans l6 | go_keep) (fun hHeld => ?_)
            clear hK K
            refine wpAnyH_take (i := 13) (v := ?_) rfl (by kernel_rfl) (by kernel_rfl) (by kernel_rfl) (fun _ _ _ h => h) (Or.inl ⟨by kernel_rfl, ?_⟩) (by assumption) ?_
            rotate_left 1
            · intro w hSw; (try dsimp only at hSw); go_simp; try with_reducible rfl
            refine wpAnyH_done (by kernel_rfl) ?_ _
            obtain ⟨W9, hW9⟩ : ∃ W9, w6.alloc (.cells #[.int .u64 (y0 : Int), .int .u64 (y1 : Int), .string (S y2), .int .i64 y3, .string (S [119]), .int .i64 y6] 45) = W9 := ⟨_, rfl⟩
            rw [hW9]
            have x4 : W9.cell? ⟨w6.heap.size, 4, none⟩ = some (.string ⟨#[119]⟩) := by rw [← hW9]; exact World.cell?_alloc_new _ _ _ 4
            have HW9 : Hid (Below w4.heap.size w4 W9) := by rw [← hW9]; exact H6.out.alloc H6.out.size _
            clear hW9 l0 l5 l6 l4 r0 m0 bx
            go_simp
            gi_wp2
            refine wpIn_wide.2 ?_
            refine wp_region_held_drew (S := (fun W => W.cell? ⟨w6.heap.size, 4, none⟩ = some (.string ⟨#[119]⟩))) (by kernel_rfl) (by first | exact x4 | go_keep) (fun hHeld => ?_)
            refine wpAnyH_take (i := 0) (v := ?_) rfl (by kernel_rfl) (by kernel_rfl) (by kernel_rfl) (fun _ _ _ h => h) (Or.inl ⟨by kernel_rfl, ?_⟩) (by assumption) ?_
            rotate_left 1
            · intro w hSw; (try dsimp only at hSw); go_simp; try with_reducible rfl
            refine wpAnyH_take (i := 1) (v := ?_) rfl (by kernel_rfl) (by kernel_rfl) (by kernel_rfl) (fun _ _ _ h => h) (Or.inl ⟨by kernel_rfl, ?_⟩) (by assumption) ?_
            rotate_left 1
            · intro w hSw; (try dsimp only at hSw); go_simp; try with_reducible rfl
            refine wpAnyH_take (i := 2) (v := ?_) rfl (by kernel_rfl) (by kernel_rfl) (by kernel_rfl) (fun _ _ _ h => h) (Or.inl ⟨by kernel_rfl, ?_⟩) (by assumption) ?_
            rotate_left 1
            · intro w hSw; (try dsimp only at hSw); go_simp; try with_reducible rfl
            refine wpAnyH_take (i := 3) (v := ?_) rfl (by kernel_rfl) (by kernel_rfl) (by kernel_rfl) (fun _ _ _ h => h) (Or.inl ⟨by kernel_rfl, ?_⟩) (by assumption) ?_
            rotate_left 1
            · intro w hSw; (try dsimp only at hSw); go_simp; try with_reducible rfl
            refine wpAnyH_take (i := 4) (v := ?_) rfl (by kernel_rfl) (by kernel_rfl) (by kernel_rfl) (fun _ _ _ h => h) (Or.inl ⟨by kernel_rfl, ?_⟩) (by assumption) ?_
            rotate_left 1
            · intro w hSw; (try dsimp only at hSw); go_simp; try with_reducible rfl
            refine wpAnyH_take (i := 5) (v := ?_) rfl (by kernel_rfl) (by kernel_rfl) (by kernel_rfl) (fun _ _ _ h => h) (Or.inl ⟨by kernel_rfl, ?_⟩) (by assumption) ?_
            rotate_left 1
            · intro w hSw; (try dsimp only at hSw); go_simp; try with_reducible rfl
            refine wpAnyH_take (i := 6) (v := ?_) rfl (by kernel_rfl) (by kernel_rfl) (by kernel_rfl) (fun _ _ _ h => h) (Or.inl ⟨by kernel_rfl, ?_⟩) (by assumption) ?_
            rotate_left 1
            · intro w hSw; (try dsimp only at hSw); go_simp; try with_reducible rfl
            refine wpAnyH_take (i := 7) (v := undef) rfl (by kernel_rfl) (by kernel_rfl) (by kernel_rfl) (fun _ _ _ h => h) (Or.inr ⟨by kernel_rfl, by kernel_rfl⟩) (by assumption) ?_
            refine wpAnyH_take (i := 8) (v := undef) rfl (by kernel_rfl) (by kernel_rfl) (by kernel_rfl) (fun _ _ _ h => h) (Or.inr ⟨by kernel_rfl, by kernel_rfl⟩) (by assumption) ?_
            refine wpAnyH_take (i := 9) (v := undef) rfl (by kernel_rfl) (by kernel_rfl) (by kernel_rfl) (fun _ _ _ h => h) (Or.inr ⟨by kernel_rfl, by kernel_rfl⟩) (by assumption) ?_
            refine wpAnyH_take (i := 10) (v := undef) rfl (by kernel_rfl) (by kernel_rfl) (by kernel_rfl) (fun _ _ _ h => h) (Or.inr ⟨by kernel_rfl, by kernel_rfl⟩) (by assumption) ?_
            refine wpAnyH_take (i := 11) (v := undef) rfl (by kernel_rfl) (by kernel_rfl) (by kernel_rfl) (fun _ _ _ h => h) (Or.inr ⟨by kernel_rfl, by kernel_rfl⟩) (by assumption) ?_
            refine wpAnyH_take (i := 12) (v := undef) rfl (by kernel_rfl) (by kernel_rfl) (by kernel_rfl) (fun _ _ _ h => h) (Or.inr ⟨by kernel_rfl, by kernel_rfl⟩) (by assumption) ?_
            refine wpAnyH_take (i := 13) (v := undef) rfl (by kernel_rfl) (by kernel_rfl) (by kernel_rfl) (fun _ _ _ h => h) (Or.inr ⟨by kernel_rfl, by kernel_rfl⟩) (by assumption) ?_
            refine wpAnyH_take (i := 14) (v := ?_) rfl (by kernel_rfl) (by kernel_rfl) (by kernel_rfl) (fun _ _ _ h => h) (Or.inl ⟨by kernel_rfl, ?_⟩) (by assumption) ?_
            rotate_left 1
            · intro w hSw; (try dsimp only at hSw); go_simp; try with_reducible rfl
            refine wpAnyH_take (i := 15) (v := ?_) rfl (by kernel_rfl) (by kernel_rfl) (by kernel_rfl) (fun _ _ _ h => h) (Or.inl ⟨by kernel_rfl, ?_⟩) (by assumption) ?_
            rotate_left 1
            · intro w hSw; (try dsimp only at hSw); go_simp; try with_reducible rfl
            refine wpAnyH_done (by kernel_rfl) ?_ _
            go_simp
            gi_wp2
            go_roundw
            case rel => exact ⟨i + 1, by simp, hlt, HW9.out.drew⟩
            case measure => simp [intOf]; omega
          refine AllReadyH.cons rfl (fun K hK => ?_) AllReadyH.nil
          go_simp
          refine hK.out _ _ (by first | exact l0 | exact l5 | exact l6 | exact (cell_setRow_other _ _ _ ⟨g1, i * 6, none⟩ HNE.out).trans l6 | go_keep) (fun hHeld => ?_)
          clear hK K
          refine wpAnyH_ready (rs := [7]) (by kernel_rfl) (by simp) ?_
          refine AllReadyH.cons rfl (fun K hK => ?_) AllReadyH.nil
          go_simp
          (go_at_call 9; refine (CJ _ ((Below.refl _ w5).alloc (Nat.le_refl _) _)).mono ?_; rintro e w6 ⟨rfl, hb6⟩; (have H6 : Hid (Below w4.heap.size w4 w6) := H5.out.trans (((Below.refl _ w5).alloc (Nat.le_refl _) _ |>.trans (hb6.mono (by simp))).mono H5.out.size)); (have l6 : w6.cell? ⟨g1, i * 6, none⟩ = some (.int .u64 (key : Int)) := ((Below.refl _ w5).alloc (Nat.le_refl _) _ |>.trans (hb6.mono (by simp))).cell' l5); (have hz6 : w6.heap[w5.heap.size]? = some (.cells #[.int .u64 0, .int .u64 0, .string ⟨#[]⟩, .int .i64 0, .string ⟨#[]⟩, .int .i64 0] 45 (0, 0)) := (hb6.block w5.heap.size (by simp)).trans (heap_alloc_new w5 _)); (have HZ6 : Hid (w6.heap[w5.heap.size]? = some (.cells #[.int .u64 0, .int .u64 0, .string ⟨#[]⟩, .int .i64 0, .string ⟨#[]⟩, .int .i64 0] 45 (0, 0))) := hz6); (have HNE : Hid (g1 ≠ w5.heap.size) := fun e => by have h1 := World.block_lt_of_cell? _ _ l5; simp only at h1; omega); clear hb6 CJ hz6)
          go_wp2_with fail
          refine hK.out _ _ (by first | exact l0 | exact l5 | exact l6 | exact (cell_setRow_other _ _ _ ⟨g1, i * 6, none⟩ HNE.out).trans l6 | go_keep) (fun hHeld => ?_)
          clear hK K
          refine wpAnyH_take (i := 8) (v := ?_) rfl (by kernel_rfl) (by kernel_rfl) (by kernel_rfl) (fun _ _ _ h => h) (Or.inl ⟨by kernel_rfl, ?_⟩) (by assumption) ?_
          rotate_left 1
          · intro w hSw; (try dsimp only at hSw); go_simp; try with_reducible rfl
          refine wpAnyH_take (i := 9) (v := ?_) rfl (by kernel_rfl) (by kernel_rfl) (by kernel_rfl) (fun _ _ _ h => h) (Or.inl ⟨by kernel_rfl, ?_⟩) (by assumption) ?_
          rotate_left 1
          · intro w hSw; (try dsimp only at hSw); go_simp; try with_reducible rfl
          refine wpAnyH_take (i := 10) (v := ?_) rfl (by kernel_rfl) (by kernel_rfl) (by kernel_rfl) (fun _ _ _ h => h) (Or.inl ⟨by kernel_rfl, ?_⟩) (by assumption) ?_
          rotate_left 1
          · intro w hSw; (try dsimp only at hSw); go_simp; try with_reducible rfl
          refine wpAnyH_ready (rs := [12]) (by kernel_rfl) (by simp) ?_
          refine AllReadyH.cons rfl (fun K hK => ?_) AllReadyH.nil
          (rw [if_pos (by rfl)]; refine wp_store_row 45 _ _ rfl w5.heap.size #[.int .u64 (y0 : Int), .int .u64 (y1 : Int), .string (S y2), .int .i64 y3, .string (S [119]), .int .i64 y6] (by simp [Act.eval, Act.put]) (by simp [Act.eval, Act.put]) 45 #[.int .u64 0, .int .u64 0, .string ⟨#[]⟩, .int .i64 0, .string ⟨#[]⟩, .int .i64 0] HZ6.out (by kernel_rfl) rfl (jb_one _ _ _ _ _ _) ?_)
          refine hK.out _ _ (by first | exact l0 | exact l5 | exact l6 | exact (cell_setRow_other _ _ _ ⟨g1, i * 6, none⟩ HNE.out).trans l6 | go_keep) (fun hHeld => ?_)
          clear hK K
          refine wpAnyH_take (i := 13) (v := ?_) rfl (by kernel_rfl) (by kernel_rfl) (by kernel_rfl) (fun _ _ _ h => h) (Or.inl ⟨by kernel_rfl, ?_⟩) (by assumption) ?_
          rotate_left 1
          · intro w hSw; (try dsimp only at hSw); go_simp; try with_reducible rfl
          refine wpAnyH_done (by kernel_rfl) ?_ _
          obtain ⟨W9, hW9⟩ : ∃ W9, w6.setRow w5.heap.size #[.int .u64 (y0 : Int), .int .u64 (y1 : Int), .string (S y2), .int .i64 y3, .string (S [119]), .int .i64 y6] = W9 := ⟨_, rfl⟩
          rw [hW9]
          have x4 : W9.cell? ⟨w5.heap.size, 4, none⟩ = some (.string ⟨#[119]⟩) := by rw [← hW9]; exact cell_setRow_same _ _ 4 _ _ _ _ HZ6.out
          have HW9 : Hid (Below w4.heap.size w4 W9) := by rw [← hW9]; exact below_setRow H6.out (by exact H5.out.size)
          clear hW9 l0 l5 l6 l4 r0 m0 bx
          go_simp
          gi_wp2
          refine wpIn_wide.2 ?_
          refine wp_region_held_drew (S := (fun W => W.cell? ⟨w5.heap.size, 4, none⟩ = some (.string ⟨#[119]⟩))) (by kernel_rfl) (by first | exact x4 | go_keep) (fun hHeld => ?_)
          refine wpAnyH_take (i := 0) (v := ?_) rfl (by kernel_rfl) (by kernel_rfl) (by kernel_rfl) (fun _ _ _ h => h) (Or.inl ⟨by kernel_rfl, ?_⟩) (by assumption) ?_
          rotate_left 1
          · intro w hSw; (try dsimp only at hSw); go_simp; try with_reducible rfl
          refine wpAnyH_take (i := 1) (v := ?_) rfl (by kernel_rfl) (by kernel_rfl) (by kernel_rfl) (fun _ _ _ h => h) (Or.inl ⟨by kernel_rfl, ?_⟩) (by assumption) ?_
          rotate_left 1
          · intro w hSw; (try dsimp only at hSw); go_simp; try with_reducible rfl
          refine wpAnyH_take (i := 2) (v := ?_) rfl (by kernel_rfl) (by kernel_rfl) (by kernel_rfl) (fun _ _ _ h => h) (Or.inl ⟨by kernel_rfl, ?_⟩) (by assumption) ?_
          rotate_left 1
          · intro w hSw; (try dsimp only at hSw); go_simp; try with_reducible rfl
          refine wpAnyH_take (i := 3) (v := ?_) rfl (by kernel_rfl) (by kernel_rfl) (by kernel_rfl) (fun _ _ _ h => h) (Or.inl ⟨by kernel_rfl, ?_⟩) (by assumption) ?_
          rotate_left 1
          · intro w hSw; (try dsimp only at hSw); go_simp; try with_reducible rfl
          refine wpAnyH_take (i := 4) (v := ?_) rfl (by kernel_rfl) (by kernel_rfl) (by kernel_rfl) (fun _ _ _ h => h) (Or.inl ⟨by kernel_rfl, ?_⟩) (by assumption) ?_
          rotate_left 1
          · intro w hSw; (try dsimp only at hSw); go_simp; try with_reducible rfl
          refine wpAnyH_take (i := 5) (v := ?_) rfl (by kernel_rfl) (by kernel_rfl) (by kernel_rfl) (fun _ _ _ h => h) (Or.inl ⟨by kernel_rfl, ?_⟩) (by assumption) ?_
          rotate_left 1
          · intro w hSw; (try dsimp only at hSw); go_simp; try with_reducible rfl
          refine wpAnyH_take (i := 6) (v := ?_) rfl (by kernel_rfl) (by kernel_rfl) (by kernel_rfl) (fun _ _ _ h => h) (Or.inl ⟨by kernel_rfl, ?_⟩) (by assumption) ?_
          rotate_left 1
          · intro w hSw; (try dsimp only at hSw); go_simp; try with_reducible rfl
          refine wpAnyH_take (i := 7) (v := undef) rfl (by kernel_rfl) (by kernel_rfl) (by kernel_rfl) (fun _ _ _ h => h) (Or.inr ⟨by kernel_rfl, by kernel_rfl⟩) (by assumption) ?_
          refine wpAnyH_take (i := 8) (v := undef) rfl (by kernel_rfl) (by kernel_rfl) (by kernel_rfl) (fun _ _ _ h => h) (Or.inr ⟨by kernel_rfl, by kernel_rfl⟩) (by assumption) ?_
          refine wpAnyH_take (i := 9) (v := undef) rfl (by kernel_rfl) (by kernel_rfl) (by kernel_rfl) (fun _ _ _ h => h) (Or.inr ⟨by kernel_rfl, by kernel_rfl⟩) (by assumption) ?_
          refine wpAnyH_take (i := 10) (v := undef) rfl (by kernel_rfl) (by kernel_rfl) (by kernel_rfl) (fun _ _ _ h => h) (Or.inr ⟨by kernel_rfl, by kernel_rfl⟩) (by assumption) ?_
          refine wpAnyH_take (i := 11) (v := undef) rfl (by kernel_rfl) (by kernel_rfl) (by kernel_rfl) (fun _ _ _ h => h) (Or.inr ⟨by kernel_rfl, by kernel_rfl⟩) (by assumption) ?_
          refine wpAnyH_take (i := 12) (v := undef) rfl (by kernel_rfl) (by kernel_rfl) (by kernel_rfl) (fun _ _ _ h => h) (Or.inr ⟨by kernel_rfl, by kernel_rfl⟩) (by assumption) ?_
          refine wpAnyH_take (i := 13) (v := undef) rfl (by kernel_rfl) (by kernel_rfl) (by kernel_rfl) (fun _ _ _ h => h) (Or.inr ⟨by kernel_rfl, by kernel_rfl⟩) (by assumption) ?_
          refine wpAnyH_take (i := 14) (v := ?_) rfl (by kernel_rfl) (by kernel_rfl) (by kernel_rfl) (fun _ _ _ h => h) (Or.inl ⟨by kernel_rfl, ?_⟩) (by assumption) ?_
          rotate_left 1
          · intro w hSw; (try dsimp only at hSw); go_simp; try with_reducible rfl
          refine wpAnyH_take (i := 15) (v := ?_) rfl (by kernel_rfl) (by kernel_rfl) (by kernel_rfl) (fun _ _ _ h => h) (Or.inl ⟨by kernel_rfl, ?_⟩) (by assumption) ?_
          rotate_left 1
          · intro w hSw; (try dsimp only at hSw); go_simp; try with_reducible rfl
          refine wpAnyH_done (by kernel_rfl) ?_ _
          go_simp
          gi_wp2
          go_roundw
          case rel => exact ⟨i + 1, by simp, hlt, HW9.out.drew⟩
          case measure => simp [intOf]; omega
        refine AllReadyH.cons rfl (fun K hK => ?_) AllReadyH.nil
        go_simp
        refine hK.out _ _ (by first | exact l0 | exact l5 | exact l6 | exact (cell_setRow_other _ _ _ ⟨g1, i * 6, none⟩ HNE.out).trans l6 | go_keep) (fun hHeld => ?_)
        clear hK K
        refine wpAnyH_ready (rs := [1]) (by kernel_rfl) (by simp) ?_
        refine AllReadyH.cons rfl (fun K hK => ?_) AllReadyH.nil
        go_simp
        (go_at_call 7; refine (CS.out _ (((Below.refl _ wr).alloc (Nat.le_refl _) _).drew.drew)).mono ?_; rintro e w5 ⟨t5, rfl, hO, hE, hb⟩; obtain ⟨y5, hy, hyw⟩ := HF.out t5 hE; (have CJ := fun (W : World) (hW : Below w5.heap.size w5 W) => dJob_any (w := W) key ((Own.sv hO).up hW) (by rw [show t5.jobs.length = t5.e.jobs.length from rfl, hE]; have := HA.out.2.1.nJb; show k'.s.jobs.length ≤ _; omega)); simp only [hy] at CJ; obtain ⟨y0, y1, y2, y3, y4, y6⟩ := y5; obtain rfl : y4 = [119] := hyw; (have hwr : Below wr.heap.size wr w5 := Below.trans (((Below.refl _ wr).alloc (Nat.le_refl _) _).drew.drew) (hb.mono (show wr.heap.size ≤ (wr.alloc _).heap.size by rw [World.size_alloc]; exact Nat.le_succ _))); (have H5 : Hid (Below w4.heap.size w4 w5) := HL.out.trans (hwr.mono HL.out.size)); (have l5 : w5.cell? ⟨g1, i * 6, none⟩ = some (.int .u64 (key : Int)) := hwr.cell' l0); (have HWR : Hid (Below wr.heap.size wr w5) := hwr); obtain ⟨⟨qaDe, qnDe, qcDe, qhDe⟩, ⟨qaIn, qnIn, qcIn, qhIn⟩, ⟨qaTk, qnTk, qcTk, qhTk⟩, ⟨qaJb, qnJb, qcJb, qhJb⟩, ⟨qaTm, qnTm, qcTm, qhTm⟩, ⟨qaSb, qnSb, qcSb, qhSb⟩, ⟨qaKp, qnKp, qcKp, qhKp⟩, ⟨qaLs, qnLs, qcLs, qhLs⟩, ⟨qaMs, qnMs, qcMs, qhMs⟩⟩ := St.slices hO; obtain ⟨qpos, qdone, qmade, qvDe, qlDe, qvIn, qlIn, qvTk, qlTk, qvJb, qlJb, qvTm, qlTm, qvSb, qlSb, qvKp, qlKp, qvLs, qlLs, qvMs, qlMs⟩ := t5; simp only at qhDe qhIn qhTk qhJb qhTm qhSb qhKp qhLs qhMs; subst qhDe qhIn qhTk qhJb qhTm qhSb qhKp qhLs qhMs; simp only [St.c, Jb.c] at CJ ⊢; (have HZ5 : Hid (w5.heap[wr.heap.size]? = some (.cells #[.int .u64 0, .int .u64 0, .string ⟨#[]⟩, .int .i64 0, .string ⟨#[]⟩, .int .i64 0] 45 (0, 0))) := (hb.block wr.heap.size (show wr.heap.size < (wr.alloc _).heap.size by rw [World.size_alloc]; exact Nat.lt_succ_self _)).trans (heap_alloc_new wr _)); clear hO hE hb hwr)
        go_wp2_with fail
        refine hK.out _ _ (by first | exact l0 | exact l5 | exact l6 | exact (cell_setRow_other _ _ _ ⟨g1, i * 6, none⟩ HNE.out).trans l6 | go_keep) (fun hHeld => ?_)
        clear hK K
        refine wpAnyH_ready (rs := [7]) (by kernel_rfl) (by simp) ?_
        refine AllReadyH.cons rfl (fun K hK => ?_) AllReadyH.nil
        go_simp
        (go_at_call 9; refine (CJ _ (Below.refl _ _)).mono ?_; rintro e w6 ⟨rfl, hb6⟩; (have H6 : Hid (Below w4.heap.size w4 w6) := H5.out.trans (hb6.mono H5.out.size)); (have l6 : w6.cell? ⟨g1, i * 6, none⟩ = some (.int .u64 (key : Int)) := hb6.cell' l5); (have hz6 : w6.heap[wr.heap.size]? = some (.cells #[.int .u64 0, .int .u64 0, .string ⟨#[]⟩, .int .i64 0, .string ⟨#[]⟩, .int .i64 0] 45 (0, 0)) := (hb6.block wr.heap.size (Array.getElem?_eq_some_iff.1 HZ5.out).1).trans HZ5.out); (have HZ6 : Hid (w6.heap[wr.heap.size]? = some (.cells #[.int .u64 0, .int .u64 0, .string ⟨#[]⟩, .int .i64 0, .string ⟨#[]⟩, .int .i64 0] 45 (0, 0))) := hz6); (have HNE : Hid (g1 ≠ wr.heap.size) := fun e => by have h1 := World.block_lt_of_cell? _ _ l0; simp only at h1; omega); clear hb6 CJ hz6)
        go_wp2_with fail
        refine hK.out _ _ (by first | exact l0 | exact l5 | exact l6 | exact (cell_setRow_other _ _ _ ⟨g1, i * 6, none⟩ HNE.out).trans l6 | go_keep) (fun hHeld => ?_)
        clear hK K
        refine wpAnyH_take (i := 8) (v := ?_) rfl (by kernel_rfl) (by kernel_rfl) (by kernel_rfl) (fun _ _ _ h => h) (Or.inl ⟨by kernel_rfl, ?_⟩) (by assumption) ?_
        rotate_left 1
        · intro w hSw; (try dsimp only at hSw); go_simp; try with_reducible rfl
        refine wpAnyH_take (i := 9) (v := ?_) rfl (by kernel_rfl) (by kernel_rfl) (by kernel_rfl) (fun _ _ _ h => h) (Or.inl ⟨by kernel_rfl, ?_⟩) (by assumption) ?_
        rotate_left 1
        · intro w hSw; (try dsimp only at hSw); go_simp; try with_reducible rfl
        refine wpAnyH_take (i := 10) (v := ?_) rfl (by kernel_rfl) (by kernel_rfl) (by kernel_rfl) (fun _ _ _ h => h) (Or.inl ⟨by kernel_rfl, ?_⟩) (by assumption) ?_
        rotate_left 1
        · intro w hSw; (try dsimp only at hSw); go_simp; try with_reducible rfl
        refine wpAnyH_ready (rs := [12]) (by kernel_rfl) (by simp) ?_
        refine AllReadyH.cons rfl (fun K hK => ?_) AllReadyH.nil
        (rw [if_pos (by rfl)]; refine wp_store_row 45 _ _ rfl wr.heap.size #[.int .u64 (y0 : Int), .int .u64 (y1 : Int), .string (S y2), .int .i64 y3, .string (S [119]), .int .i64 y6] (by simp [Act.eval, Act.put]) (by simp [Act.eval, Act.put]) 45 #[.int .u64 0, .int .u64 0, .string ⟨#[]⟩, .int .i64 0, .string ⟨#[]⟩, .int .i64 0] HZ6.out (by kernel_rfl) rfl (jb_one _ _ _ _ _ _) ?_)
        refine hK.out _ _ (by first | exact l0 | exact l5 | exact l6 | exact (cell_setRow_other _ _ _ ⟨g1, i * 6, none⟩ HNE.out).trans l6 | go_keep) (fun hHeld => ?_)
        clear hK K
        refine wpAnyH_take (i := 13) (v := ?_) rfl (by kernel_rfl) (by kernel_rfl) (by kernel_rfl) (fun _ _ _ h => h) (Or.inl ⟨by kernel_rfl, ?_⟩) (by assumption) ?_
        rotate_left 1
        · intro w hSw; (try dsimp only at hSw); go_simp; try with_reducible rfl
        refine wpAnyH_done (by kernel_rfl) ?_ _
        obtain ⟨W9, hW9⟩ : ∃ W9, w6.setRow wr.heap.size #[.int .u64 (y0 : Int), .int .u64 (y1 : Int), .string (S y2), .int .i64 y3, .string (S [119]), .int .i64 y6] = W9 := ⟨_, rfl⟩
        rw [hW9]
        have x4 : W9.cell? ⟨wr.heap.size, 4, none⟩ = some (.string ⟨#[119]⟩) := by rw [← hW9]; exact cell_setRow_same _ _ 4 _ _ _ _ HZ6.out
        have HW9 : Hid (Below w4.heap.size w4 W9) := by rw [← hW9]; exact below_setRow H6.out (by exact HL.out.size)
        clear hW9 l0 l5 l6 l4 r0 m0 bx
        go_simp
        gi_wp2
        refine wpIn_wide.2 ?_
        refine wp_region_held_drew (S := (fun W => W.cell? ⟨wr.heap.size, 4, none⟩ = some (.string ⟨#[119]⟩))) (by kernel_rfl) (by first | exact x4 | go_keep) (fun hHeld => ?_)
        refine wpAnyH_take (i := 0) (v := ?_) rfl (by kernel_rfl) (by kernel_rfl) (by kernel_rfl) (fun _ _ _ h => h) (Or.inl ⟨by kernel_rfl, ?_⟩) (by assumption) ?_
        rotate_left 1
        · intro w hSw; (try dsimp only at hSw); go_simp; try with_reducible rfl
        refine wpAnyH_take (i := 1) (v := ?_) rfl (by kernel_rfl) (by kernel_rfl) (by kernel_rfl) (fun _ _ _ h => h) (Or.inl ⟨by kernel_rfl, ?_⟩) (by assumption) ?_
        rotate_left 1
        · intro w hSw; (try dsimp only at hSw); go_simp; try with_reducible rfl
        refine wpAnyH_take (i := 2) (v := ?_) rfl (by kernel_rfl) (by kernel_rfl) (by kernel_rfl) (fun _ _ _ h => h) (Or.inl ⟨by kernel_rfl, ?_⟩) (by assumption) ?_
        rotate_left 1
        · intro w hSw; (try dsimp only at hSw); go_simp; try with_reducible rfl
        refine wpAnyH_take (i := 3) (v := ?_) rfl (by kernel_rfl) (by kernel_rfl) (by kernel_rfl) (fun _ _ _ h => h) (Or.inl ⟨by kernel_rfl, ?_⟩) (by assumption) ?_
        rotate_left 1
        · intro w hSw; (try dsimp only at hSw); go_simp; try with_reducible rfl
        refine wpAnyH_take (i := 4) (v := ?_) rfl (by kernel_rfl) (by kernel_rfl) (by kernel_rfl) (fun _ _ _ h => h) (Or.inl ⟨by kernel_rfl, ?_⟩) (by assumption) ?_
        rotate_left 1
        · intro w hSw; (try dsimp only at hSw); go_simp; try with_reducible rfl
        refine wpAnyH_take (i := 5) (v := ?_) rfl (by kernel_rfl) (by kernel_rfl) (by kernel_rfl) (fun _ _ _ h => h) (Or.inl ⟨by kernel_rfl, ?_⟩) (by assumption) ?_
        rotate_left 1
        · intro w hSw; (try dsimp only at hSw); go_simp; try with_reducible rfl
        refine wpAnyH_take (i := 6) (v := ?_) rfl (by kernel_rfl) (by kernel_rfl) (by kernel_rfl) (fun _ _ _ h => h) (Or.inl ⟨by kernel_rfl, ?_⟩) (by assumption) ?_
        rotate_left 1
        · intro w hSw; (try dsimp only at hSw); go_simp; try with_reducible rfl
        refine wpAnyH_take (i := 7) (v := undef) rfl (by kernel_rfl) (by kernel_rfl) (by kernel_rfl) (fun _ _ _ h => h) (Or.inr ⟨by kernel_rfl, by kernel_rfl⟩) (by assumption) ?_
        refine wpAnyH_take (i := 8) (v := undef) rfl (by kernel_rfl) (by kernel_rfl) (by kernel_rfl) (fun _ _ _ h => h) (Or.inr ⟨by kernel_rfl, by kernel_rfl⟩) (by assumption) ?_
        refine wpAnyH_take (i := 9) (v := undef) rfl (by kernel_rfl) (by kernel_rfl) (by kernel_rfl) (fun _ _ _ h => h) (Or.inr ⟨by kernel_rfl, by kernel_rfl⟩) (by assumption) ?_
        refine wpAnyH_take (i := 10) (v := undef) rfl (by kernel_rfl) (by kernel_rfl) (by kernel_rfl) (fun _ _ _ h => h) (Or.inr ⟨by kernel_rfl, by kernel_rfl⟩) (by assumption) ?_
        refine wpAnyH_take (i := 11) (v := undef) rfl (by kernel_rfl) (by kernel_rfl) (by kernel_rfl) (fun _ _ _ h => h) (Or.inr ⟨by kernel_rfl, by kernel_rfl⟩) (by assumption) ?_
        refine wpAnyH_take (i := 12) (v := undef) rfl (by kernel_rfl) (by kernel_rfl) (by kernel_rfl) (fun _ _ _ h => h) (Or.inr ⟨by kernel_rfl, by kernel_rfl⟩) (by assumption) ?_
        refine wpAnyH_take (i := 13) (v := undef) rfl (by kernel_rfl) (by kernel_rfl) (by kernel_rfl) (fun _ _ _ h => h) (Or.inr ⟨by kernel_rfl, by kernel_rfl⟩) (by assumption) ?_
        refine wpAnyH_take (i := 14) (v := ?_) rfl (by kernel_rfl) (by kernel_rfl) (by kernel_rfl) (fun _ _ _ h => h) (Or.inl ⟨by kernel_rfl, ?_⟩) (by assumption) ?_
        rotate_left 1
        · intro w hSw; (try dsimp only at hSw); go_simp; try with_reducible rfl
        refine wpAnyH_take (i := 15) (v := ?_) rfl (by kernel_rfl) (by kernel_rfl) (by kernel_rfl) (fun _ _ _ h => h) (Or.inl ⟨by kernel_rfl, ?_⟩) (by assumption) ?_
        rotate_left 1
        · intro w hSw; (try dsimp only at hSw); go_simp; try with_reducible rfl
        refine wpAnyH_done (by kernel_rfl) ?_ _
        go_simp
        gi_wp2
        go_roundw
        case rel => exact ⟨i + 1, by simp, hlt, HW9.out.drew⟩
        case measure => simp [intOf]; omega
      · obtain rfl : i = M.length := by omega
        gi_wp2
        refine bodyPost_ret (results_tmp rfl _ _ _) rfl ?_
        exact ⟨rfl, HB1.out.1.trans ((HB4.out.trans (HL.out.mono HB4.out.size)).mono HB1.out.1.size)⟩
  · have hml : M.length = R.length := by rw [← HM.out, List.length_take]; have := HK.out.2.1; omega
    rw [← hml] at hgt
    have hle : M.length ≤ R.length := by omega

    have hgi : goInt (R.length : Int) = .int .i64 (R.length : Int) := by simp [goInt]
    have hlen0 : ∀ W, (Builtin.len_ #[50] 3 #[Value.slice ra R.length rc]).run Tryz.prog W = .ok (.int .i64 (R.length : Int)) W := fun W => by simp [Builtin.len_, hgi]
    gi_wp2
    clear hgi hlen0
    gi_loopw [13] (fun v13 wr => ∃ i : Nat, v13 = .int .i64 (i : Int) ∧ i ≤ M.length ∧ Hid (Below w4.heap.size w4 wr)) (fun v13 _ => M.length - (intOf v13).toNat)
    case atStart => exact ⟨0, rfl, Nat.zero_le _, Below.refl _ _⟩
    case round =>
      obtain ⟨i, rfl, hi, HL⟩ := hrel
      by_cases hlt : i < M.length
      · obtain ⟨pj, hpj, hp, hq⟩ := MO.out i hlt
        obtain ⟨g1, rfl⟩ := MG.out i hlt
        obtain ⟨rg, rfl⟩ := MR.out i hlt
        have l0 : wr.cell? ⟨g1, i * 6 + 0, none⟩ = some (.int .u64 (M[i].1.key : Int)) := HX.out.1 i hlt g1 rfl wr HL.out 0 _ rfl
        have l4 : wr.cell? ⟨g1, i * 6 + 4, none⟩ = some (.string ⟨#[119]⟩) := HX.out.1 i hlt g1 rfl wr HL.out 4 _ rfl
        have l5 : wr.cell? ⟨g1, i * 6 + 5, none⟩ = some (.int .i64 15) := HX.out.1 i hlt g1 rfl wr HL.out 5 _ rfl
        have r0 := HX.out.2 i hlt rg rfl wr HL.out
        rw [hpj] at r0
        obtain ⟨b', off, cap', hsl, -, hbl, hcell⟩ := HS.out.1.rJb.at hp
        obtain ⟨rfl, rfl, rfl⟩ : saJb = some ⟨b', off, none⟩ ∧ snJb = slJb.length ∧ scJb = cap' := by injection hsl with e1 e2 e3; exact ⟨e1, e2, e3⟩
        have m0 : wr.cell? ⟨b', off + pj * 6 + 0, none⟩ = some (.int .u64 (slJb[pj].key : Int)) := hcell wr (HB1.out.1.trans ((HB4.out.trans (HL.out.mono HB4.out.size)).mono HB1.out.1.size)) pj hp 0 _ rfl
        have bx : wr.cell? ⟨w.heap.size, 6, none⟩ = some (.slice (some ⟨b', off, none⟩) slJb.length scJb) := (HL.out.cell (p := ⟨w.heap.size, 6, none⟩) (Nat.lt_of_lt_of_le HB1.out.2.1 HB4.out.size)).trans ((HB4.out.cell (p := ⟨w.heap.size, 6, none⟩) HB1.out.2.1).trans (by simp [World.cell?, HB1.out.2.2]))
        rw [hq] at m0
        have CS : Hid (∀ W, Below wr.heap.size wr W → _) := fun W hW => State_any ((HA.out.1.wk.up HL.out).up hW) HA.out.2.1
        have HF : Hid (∀ t : St, t.e = k'.s.e → ∃ y : Jb, fstJb (fun x => x.kk == M[i].1.key) t.jobs = (y, true) ∧ y.wkr = [119]) := fun t ht => act_found HA.out.2.2 HI.out ht hlt
        generalize M[i].1.key = key at *
        simp only [Nat.add_zero] at l0 m0
        have hpl : (pj : Int) < (slJb.length : Int) := by omega
        have hil : (i : Int) < (M.length : Int) := by omega
        have hirl : (i : Int) < (R.length : Int) := by omega
        clear hsl hcell hpj hq
        gi_wp2
        gi_region
        gi_wp2
        refine wpIn_wide.2 ?_
        refine wp_region_held_drew (S := (fun W => W.cell? ⟨g1, i * 6, none⟩ = some (.int .u64 (key : Int)))) (by kernel_rfl) (by first | exact l0 | exact l5 | exact l6 | exact (cell_setRow_other _ _ _ ⟨g1, i * 6, none⟩ HNE.out).trans l6 | go_keep) (fun hHeld => ?_)
        refine wpAnyH_take (i := 0) (v := ?_) rfl (by kernel_rfl) (by kernel_rfl) (by kernel_rfl) (fun _ _ _ h => h) (Or.inl ⟨by kernel_rfl, ?_⟩) (by assumption) ?_
        rotate_left 1
        · intro w hSw; (try dsimp only at hSw); go_simp; try with_reducible rfl
        refine wpAnyH_take (i := 2) (v := ?_) rfl (by kernel_rfl) (by kernel_rfl) (by kernel_rfl) (fun _ _ _ h => h) (Or.inl ⟨by kernel_rfl, ?_⟩) (by assumption) ?_
        rotate_left 1
        · intro w hSw; (try dsimp only at hSw); go_simp; try with_reducible rfl
        refine wpAnyH_take (i := 3) (v := ?_) rfl (by kernel_rfl) (by kernel_rfl) (by kernel_rfl) (fun _ _ _ h => h) (Or.inl ⟨by kernel_rfl, ?_⟩) (by assumption) ?_
        rotate_left 1
        · intro w hSw; (try dsimp only at hSw); go_simp; try with_reducible rfl
        refine wpAnyH_take (i := 4) (v := ?_) rfl (by kernel_rfl) (by kernel_rfl) (by kernel_rfl) (fun _ _ _ h => h) (Or.inl ⟨by kernel_rfl, ?_⟩) (by assumption) ?_
        rotate_left 1
        · intro w hSw; (try dsimp only at hSw); go_simp; try with_reducible rfl
        refine wpAnyH_take (i := 5) (v := ?_) rfl (by kernel_rfl) (by kernel_rfl) (by kernel_rfl) (fun _ _ _ h => h) (Or.inl ⟨by kernel_rfl, ?_⟩) (by assumption) ?_
        rotate_left 1
        · intro w hSw; (try dsimp only at hSw); go_simp; try with_reducible rfl
        refine wpAnyH_take (i := 6) (v := ?_) rfl (by kernel_rfl) (by kernel_rfl) (by kernel_rfl) (fun _ _ _ h => h) (Or.inl ⟨by kernel_rfl, ?_⟩) (by assumption) ?_
        rotate_left 1
        · intro w hSw; (try dsimp only at hSw); go_simp; try with_reducible rfl
        refine wpAnyH_ready (rs := [1, 11]) (by kernel_rfl) (by simp) ?_
        refine AllReadyH.cons rfl (fun K hK => ?_) ?_
        · go_simp
          (go_at_call 7; refine (CS.out _ ((Below.refl _ wr).drew.drew)).mono ?_; rintro e w5 ⟨t5, rfl, hO, hE, hb⟩; obtain ⟨y5, hy, hyw⟩ := HF.out t5 hE; (have CJ := fun (W : World) (hW : Below w5.heap.size w5 W) => dJob_any (w := W) key ((Own.sv hO).up hW) (by rw [show t5.jobs.length = t5.e.jobs.length from rfl, hE]; have := HA.out.2.1.nJb; show k'.s.jobs.length ≤ _; omega)); simp only [hy] at CJ; obtain ⟨y0, y1, y2, y3, y4, y6⟩ := y5; obtain rfl : y4 = [119] := hyw; (have hwr : Below wr.heap.size wr w5 := Below.trans ((Below.refl _ wr).drew.drew) (hb.mono (Nat.le_refl _))); (have H5 : Hid (Below w4.heap.size w4 w5) := HL.out.trans (hwr.mono HL.out.size)); (have l5 : w5.cell? ⟨g1, i * 6, none⟩ = some (.int .u64 (key : Int)) := hwr.cell' l0); (have HWR : Hid (Below wr.heap.size wr w5) := hwr); obtain ⟨⟨qaDe, qnDe, qcDe, qhDe⟩, ⟨qaIn, qnIn, qcIn, qhIn⟩, ⟨qaTk, qnTk, qcTk, qhTk⟩, ⟨qaJb, qnJb, qcJb, qhJb⟩, ⟨qaTm, qnTm, qcTm, qhTm⟩, ⟨qaSb, qnSb, qcSb, qhSb⟩, ⟨qaKp, qnKp, qcKp, qhKp⟩, ⟨qaLs, qnLs, qcLs, qhLs⟩, ⟨qaMs, qnMs, qcMs, qhMs⟩⟩ := St.slices hO; obtain ⟨qpos, qdone, qmade, qvDe, qlDe, qvIn, qlIn, qvTk, qlTk, qvJb, qlJb, qvTm, qlTm, qvSb, qlSb, qvKp, qlKp, qvLs, qlLs, qvMs, qlMs⟩ := t5; simp only at qhDe qhIn qhTk qhJb qhTm qhSb qhKp qhLs qhMs; subst qhDe qhIn qhTk qhJb qhTm qhSb qhKp qhLs qhMs; simp only [St.c, Jb.c] at CJ ⊢; clear hO hE hb hwr)
          go_wp2_with fail
          refine hK.out _ _ (by first | exact l0 | exact l5 | exact l6 | exact (cell_setRow_other _ _ _ ⟨g1, i * 6, none⟩ HNE.out).trans l6 | go_keep) (fun hHeld => ?_)
          clear hK K
          refine wpAnyH_ready (rs := [7, 11]) (by kernel_rfl) (by simp) ?_
          refine AllReadyH.cons rfl (fun K hK => ?_) ?_
          · go_simp
            (go_at_call 9; refine (CJ _ (Below.refl _ _)).mono ?_; rintro e w6 ⟨rfl, hb6⟩; (have H6 : Hid (Below w4.heap.size w4 w6) := H5.out.trans (hb6.mono H5.out.size)); (have l6 : w6.cell? ⟨g1, i * 6, none⟩ = some (.int .u64 (key : Int)) := hb6.cell' l5); clear hb6 CJ)
            go_wp2_with fail
            refine hK.out _ _ (by first | exact l0 | exact l5 | exact l6 | exact (cell_setRow_other _ _ _ ⟨g1, i * 6, none⟩ HNE.out).trans l6 | go_keep) (fun hHeld => ?_)
            clear hK K
            refine wpAnyH_take (i := 8) (v := ?_) rfl (by kernel_rfl) (by kernel_rfl) (by kernel_rfl) (fun _ _ _ h => h) (Or.inl ⟨by kernel_rfl, ?_⟩) (by assumption) ?_
            rotate_left 1
            · intro w hSw; (try dsimp only at hSw); go_simp; try with_reducible rfl
            refine wpAnyH_take (i := 9) (v := ?_) rfl (by kernel_rfl) (by kernel_rfl) (by kernel_rfl) (fun _ _ _ h => h) (Or.inl ⟨by kernel_rfl, ?_⟩) (by assumption) ?_
            rotate_left 1
            · intro w hSw; (try dsimp only at hSw); go_simp; try with_reducible rfl
            refine wpAnyH_take (i := 10) (v := ?_) rfl (by kernel_rfl) (by kernel_rfl) (by kernel_rfl) (fun _ _ _ h => h) (Or.inl ⟨by kernel_rfl, ?_⟩) (by assumption) ?_
            rotate_left 1
            · intro w hSw; (try dsimp only at hSw); go_simp; try with_reducible rfl
            refine wpAnyH_ready (rs := [11]) (by kernel_rfl) (by simp) ?_
            refine AllReadyH.cons rfl (fun K hK => ?_) AllReadyH.nil
            go_simp
            refine hK.out _ _ (by first | exact l0 | exact l5 | exact l6 | exact (cell_setRow_other _ _ _ ⟨g1, i * 6, none⟩ HNE.out).trans l6 | go_keep) (fun hHeld => ?_)
            clear hK K
            refine wpAnyH_ready (rs := [12]) (by kernel_rfl) (by simp) ?_
            refine AllReadyH.cons rfl (fun K hK => ?_) AllReadyH.nil
            go_simp
            refine hK.out _ _ (by first | exact l0 | exact l5 | exact l6 | exact (cell_setRow_other _ _ _ ⟨g1, i * 6, none⟩ HNE.out).trans l6 | go_keep) (fun hHeld => ?_)
            clear hK K
            refine wpAnyH_take (i := 13) (v := ?_) rfl (by kernel_rfl) (by kernel_rfl) (by kernel_rfl) (fun _ _ _ h => h) (Or.inl ⟨by kernel_rfl, ?_⟩) (by assumption) ?_
            rotate_left 1
            · intro w hSw; (try dsimp only at hSw); go_simp; try with_reducible rfl
            refine wpAnyH_done (by kernel_rfl) ?_ _
            obtain ⟨W9, hW9⟩ : ∃ W9, w6.alloc (.cells #[.int .u64 (y0 : Int), .int .u64 (y1 : Int), .string (S y2), .int .i64 y3, .string (S [119]), .int .i64 y6] 45) = W9 := ⟨_, rfl⟩
            rw [hW9]
            have x4 : W9.cell? ⟨w6.heap.size, 4, none⟩ = some (.string ⟨#[119]⟩) := by rw [← hW9]; exact World.cell?_alloc_new _ _ _ 4
            have HW9 : Hid (Below w4.heap.size w4 W9) := by rw [← hW9]; exact H6.out.alloc H6.out.size _
            clear hW9 l0 l5 l6 l4 r0 m0 bx
            go_simp
            gi_wp2
            refine wpIn_wide.2 ?_
            refine wp_region_held_drew (S := (fun W => W.cell? ⟨w6.heap.size, 4, none⟩ = some (.string ⟨#[119]⟩))) (by kernel_rfl) (by first | exact x4 | go_keep) (fun hHeld => ?_)
            refine wpAnyH_take (i := 0) (v := ?_) rfl (by kernel_rfl) (by kernel_rfl) (by kernel_rfl) (fun _ _ _ h => h) (Or.inl ⟨by kernel_rfl, ?_⟩) (by assumption) ?_
            rotate_left 1
            · intro w hSw; (try dsimp only at hSw); go_simp; try with_reducible rfl
            refine wpAnyH_take (i := 1) (v := ?_) rfl (by kernel_rfl) (by kernel_rfl) (by kernel_rfl) (fun _ _ _ h => h) (Or.inl ⟨by kernel_rfl, ?_⟩) (by assumption) ?_
            rotate_left 1
            · intro w hSw; (try dsimp only at hSw); go_simp; try with_reducible rfl
            refine wpAnyH_take (i := 2) (v := ?_) rfl (by kernel_rfl) (by kernel_rfl) (by kernel_rfl) (fun _ _ _ h => h) (Or.inl ⟨by kernel_rfl, ?_⟩) (by assumption) ?_
            rotate_left 1
            · intro w hSw; (try dsimp only at hSw); go_simp; try with_reducible rfl
            refine wpAnyH_take (i := 3) (v := ?_) rfl (by kernel_rfl) (by kernel_rfl) (by kernel_rfl) (fun _ _ _ h => h) (Or.inl ⟨by kernel_rfl, ?_⟩) (by assumption) ?_
            rotate_left 1
            · intro w hSw; (try dsimp only at hSw); go_simp; try with_reducible rfl
            refine wpAnyH_take (i := 4) (v := ?_) rfl (by kernel_rfl) (by kernel_rfl) (by kernel_rfl) (fun _ _ _ h => h) (Or.inl ⟨by kernel_rfl, ?_⟩) (by assumption) ?_
            rotate_left 1
            · intro w hSw; (try dsimp only at hSw); go_simp; try with_reducible rfl
            refine wpAnyH_take (i := 5) (v := ?_) rfl (by kernel_rfl) (by kernel_rfl) (by kernel_rfl) (fun _ _ _ h => h) (Or.inl ⟨by kernel_rfl, ?_⟩) (by assumption) ?_
            rotate_left 1
            · intro w hSw; (try dsimp only at hSw); go_simp; try with_reducible rfl
            refine wpAnyH_take (i := 6) (v := ?_) rfl (by kernel_rfl) (by kernel_rfl) (by kernel_rfl) (fun _ _ _ h => h) (Or.inl ⟨by kernel_rfl, ?_⟩) (by assumption) ?_
            rotate_left 1
            · intro w hSw; (try dsimp only at hSw); go_simp; try with_reducible rfl
            refine wpAnyH_take (i := 7) (v := undef) rfl (by kernel_rfl) (by kernel_rfl) (by kernel_rfl) (fun _ _ _ h => h) (Or.inr ⟨by kernel_rfl, by kernel_rfl⟩) (by assumption) ?_
            refine wpAnyH_take (i := 8) (v := undef) rfl (by kernel_rfl) (by kernel_rfl) (by kernel_rfl) (fun _ _ _ h => h) (Or.inr ⟨by kernel_rfl, by kernel_rfl⟩) (by assumption) ?_
            refine wpAnyH_take (i := 9) (v := undef) rfl (by kernel_rfl) (by kernel_rfl) (by kernel_rfl) (fun _ _ _ h => h) (Or.inr ⟨by kernel_rfl, by kernel_rfl⟩) (by assumption) ?_
            refine wpAnyH_take (i := 10) (v := undef) rfl (by kernel_rfl) (by kernel_rfl) (by kernel_rfl) (fun _ _ _ h => h) (Or.inr ⟨by kernel_rfl, by kernel_rfl⟩) (by assumption) ?_
            refine wpAnyH_take (i := 11) (v := undef) rfl (by kernel_rfl) (by kernel_rfl) (by kernel_rfl) (fun _ _ _ h => h) (Or.inr ⟨by kernel_rfl, by kernel_rfl⟩) (by assumption) ?_
            refine wpAnyH_take (i := 12) (v := undef) rfl (by kernel_rfl) (by kernel_rfl) (by kernel_rfl) (fun _ _ _ h => h) (Or.inr ⟨by kernel_rfl, by kernel_rfl⟩) (by assumption) ?_
            refine wpAnyH_take (i := 13) (v := undef) rfl (by kernel_rfl) (by kernel_rfl) (by kernel_rfl) (fun _ _ _ h => h) (Or.inr ⟨by kernel_rfl, by kernel_rfl⟩) (by assumption) ?_
            refine wpAnyH_take (i := 14) (v := ?_) rfl (by kernel_rfl) (by kernel_rfl) (by kernel_rfl) (fun _ _ _ h => h) (Or.inl ⟨by kernel_rfl, ?_⟩) (by assumption) ?_
            rotate_left 1
            · intro w hSw; (try dsimp only at hSw); go_simp; try with_reducible rfl
            refine wpAnyH_take (i := 15) (v := ?_) rfl (by kernel_rfl) (by kernel_rfl) (by kernel_rfl) (fun _ _ _ h => h) (Or.inl ⟨by kernel_rfl, ?_⟩) (by assumption) ?_
            rotate_left 1
            · intro w hSw; (try dsimp only at hSw); go_simp; try with_reducible rfl
            refine wpAnyH_done (by kernel_rfl) ?_ _
            go_simp
            gi_wp2
            go_roundw
            case rel => exact ⟨i + 1, by simp, hlt, HW9.out.drew⟩
            case measure => simp [intOf]; omega
          refine AllReadyH.cons rfl (fun K hK => ?_) AllReadyH.nil
          go_simp
          refine hK.out _ _ (by first | exact l0 | exact l5 | exact l6 | exact (cell_setRow_other _ _ _ ⟨g1, i * 6, none⟩ HNE.out).trans l6 | go_keep) (fun hHeld => ?_)
          clear hK K
          refine wpAnyH_ready (rs := [7]) (by kernel_rfl) (by simp) ?_
          refine AllReadyH.cons rfl (fun K hK => ?_) AllReadyH.nil
          go_simp
          (go_at_call 9; refine (CJ _ ((Below.refl _ w5).alloc (Nat.le_refl _) _)).mono ?_; rintro e w6 ⟨rfl, hb6⟩; (have H6 : Hid (Below w4.heap.size w4 w6) := H5.out.trans (((Below.refl _ w5).alloc (Nat.le_refl _) _ |>.trans (hb6.mono (by simp))).mono H5.out.size)); (have l6 : w6.cell? ⟨g1, i * 6, none⟩ = some (.int .u64 (key : Int)) := ((Below.refl _ w5).alloc (Nat.le_refl _) _ |>.trans (hb6.mono (by simp))).cell' l5); (have hz6 : w6.heap[w5.heap.size]? = some (.cells #[.int .u64 0, .int .u64 0, .string ⟨#[]⟩, .int .i64 0, .string ⟨#[]⟩, .int .i64 0] 45 (0, 0)) := (hb6.block w5.heap.size (by simp)).trans (heap_alloc_new w5 _)); (have HZ6 : Hid (w6.heap[w5.heap.size]? = some (.cells #[.int .u64 0, .int .u64 0, .string ⟨#[]⟩, .int .i64 0, .string ⟨#[]⟩, .int .i64 0] 45 (0, 0))) := hz6); (have HNE : Hid (g1 ≠ w5.heap.size) := fun e => by have h1 := World.block_lt_of_cell? _ _ l5; simp only at h1; omega); clear hb6 CJ hz6)
          go_wp2_with fail
          refine hK.out _ _ (by first | exact l0 | exact l5 | exact l6 | exact (cell_setRow_other _ _ _ ⟨g1, i * 6, none⟩ HNE.out).trans l6 | go_keep) (fun hHeld => ?_)
          clear hK K
          refine wpAnyH_take (i := 8) (v := ?_) rfl (by kernel_rfl) (by kernel_rfl) (by kernel_rfl) (fun _ _ _ h => h) (Or.inl ⟨by kernel_rfl, ?_⟩) (by assumption) ?_
          rotate_left 1
          · intro w hSw; (try dsimp only at hSw); go_simp; try with_reducible rfl
          refine wpAnyH_take (i := 9) (v := ?_) rfl (by kernel_rfl) (by kernel_rfl) (by kernel_rfl) (fun _ _ _ h => h) (Or.inl ⟨by kernel_rfl, ?_⟩) (by assumption) ?_
          rotate_left 1
          · intro w hSw; (try dsimp only at hSw); go_simp; try with_reducible rfl
          refine wpAnyH_take (i := 10) (v := ?_) rfl (by kernel_rfl) (by kernel_rfl) (by kernel_rfl) (fun _ _ _ h => h) (Or.inl ⟨by kernel_rfl, ?_⟩) (by assumption) ?_
          rotate_left 1
          · intro w hSw; (try dsimp only at hSw); go_simp; try with_reducible rfl
          refine wpAnyH_ready (rs := [12]) (by kernel_rfl) (by simp) ?_
          refine AllReadyH.cons rfl (fun K hK => ?_) AllReadyH.nil
          (rw [if_pos (by rfl)]; refine wp_store_row 45 _ _ rfl w5.heap.size #[.int .u64 (y0 : Int), .int .u64 (y1 : Int), .string (S y2), .int .i64 y3, .string (S [119]), .int .i64 y6] (by simp [Act.eval, Act.put]) (by simp [Act.eval, Act.put]) 45 #[.int .u64 0, .int .u64 0, .string ⟨#[]⟩, .int .i64 0, .string ⟨#[]⟩, .int .i64 0] HZ6.out (by kernel_rfl) rfl (jb_one _ _ _ _ _ _) ?_)
          refine hK.out _ _ (by first | exact l0 | exact l5 | exact l6 | exact (cell_setRow_other _ _ _ ⟨g1, i * 6, none⟩ HNE.out).trans l6 | go_keep) (fun hHeld => ?_)
          clear hK K
          refine wpAnyH_take (i := 13) (v := ?_) rfl (by kernel_rfl) (by kernel_rfl) (by kernel_rfl) (fun _ _ _ h => h) (Or.inl ⟨by kernel_rfl, ?_⟩) (by assumption) ?_
          rotate_left 1
          · intro w hSw; (try dsimp only at hSw); go_simp; try with_reducible rfl
          refine wpAnyH_done (by kernel_rfl) ?_ _
          obtain ⟨W9, hW9⟩ : ∃ W9, w6.setRow w5.heap.size #[.int .u64 (y0 : Int), .int .u64 (y1 : Int), .string (S y2), .int .i64 y3, .string (S [119]), .int .i64 y6] = W9 := ⟨_, rfl⟩
          rw [hW9]
          have x4 : W9.cell? ⟨w5.heap.size, 4, none⟩ = some (.string ⟨#[119]⟩) := by rw [← hW9]; exact cell_setRow_same _ _ 4 _ _ _ _ HZ6.out
          have HW9 : Hid (Below w4.heap.size w4 W9) := by rw [← hW9]; exact below_setRow H6.out (by exact H5.out.size)
          clear hW9 l0 l5 l6 l4 r0 m0 bx
          go_simp
          gi_wp2
          refine wpIn_wide.2 ?_
          refine wp_region_held_drew (S := (fun W => W.cell? ⟨w5.heap.size, 4, none⟩ = some (.string ⟨#[119]⟩))) (by kernel_rfl) (by first | exact x4 | go_keep) (fun hHeld => ?_)
          refine wpAnyH_take (i := 0) (v := ?_) rfl (by kernel_rfl) (by kernel_rfl) (by kernel_rfl) (fun _ _ _ h => h) (Or.inl ⟨by kernel_rfl, ?_⟩) (by assumption) ?_
          rotate_left 1
          · intro w hSw; (try dsimp only at hSw); go_simp; try with_reducible rfl
          refine wpAnyH_take (i := 1) (v := ?_) rfl (by kernel_rfl) (by kernel_rfl) (by kernel_rfl) (fun _ _ _ h => h) (Or.inl ⟨by kernel_rfl, ?_⟩) (by assumption) ?_
          rotate_left 1
          · intro w hSw; (try dsimp only at hSw); go_simp; try with_reducible rfl
          refine wpAnyH_take (i := 2) (v := ?_) rfl (by kernel_rfl) (by kernel_rfl) (by kernel_rfl) (fun _ _ _ h => h) (Or.inl ⟨by kernel_rfl, ?_⟩) (by assumption) ?_
          rotate_left 1
          · intro w hSw; (try dsimp only at hSw); go_simp; try with_reducible rfl
          refine wpAnyH_take (i := 3) (v := ?_) rfl (by kernel_rfl) (by kernel_rfl) (by kernel_rfl) (fun _ _ _ h => h) (Or.inl ⟨by kernel_rfl, ?_⟩) (by assumption) ?_
          rotate_left 1
          · intro w hSw; (try dsimp only at hSw); go_simp; try with_reducible rfl
          refine wpAnyH_take (i := 4) (v := ?_) rfl (by kernel_rfl) (by kernel_rfl) (by kernel_rfl) (fun _ _ _ h => h) (Or.inl ⟨by kernel_rfl, ?_⟩) (by assumption) ?_
          rotate_left 1
          · intro w hSw; (try dsimp only at hSw); go_simp; try with_reducible rfl
          refine wpAnyH_take (i := 5) (v := ?_) rfl (by kernel_rfl) (by kernel_rfl) (by kernel_rfl) (fun _ _ _ h => h) (Or.inl ⟨by kernel_rfl, ?_⟩) (by assumption) ?_
          rotate_left 1
          · intro w hSw; (try dsimp only at hSw); go_simp; try with_reducible rfl
          refine wpAnyH_take (i := 6) (v := ?_) rfl (by kernel_rfl) (by kernel_rfl) (by kernel_rfl) (fun _ _ _ h => h) (Or.inl ⟨by kernel_rfl, ?_⟩) (by assumption) ?_
          rotate_left 1
          · intro w hSw; (try dsimp only at hSw); go_simp; try with_reducible rfl
          refine wpAnyH_take (i := 7) (v := undef) rfl (by kernel_rfl) (by kernel_rfl) (by kernel_rfl) (fun _ _ _ h => h) (Or.inr ⟨by kernel_rfl, by kernel_rfl⟩) (by assumption) ?_
          refine wpAnyH_take (i := 8) (v := undef) rfl (by kernel_rfl) (by kernel_rfl) (by kernel_rfl) (fun _ _ _ h => h) (Or.inr ⟨by kernel_rfl, by kernel_rfl⟩) (by assumption) ?_
          refine wpAnyH_take (i := 9) (v := undef) rfl (by kernel_rfl) (by kernel_rfl) (by kernel_rfl) (fun _ _ _ h => h) (Or.inr ⟨by kernel_rfl, by kernel_rfl⟩) (by assumption) ?_
          refine wpAnyH_take (i := 10) (v := undef) rfl (by kernel_rfl) (by kernel_rfl) (by kernel_rfl) (fun _ _ _ h => h) (Or.inr ⟨by kernel_rfl, by kernel_rfl⟩) (by assumption) ?_
          refine wpAnyH_take (i := 11) (v := undef) rfl (by kernel_rfl) (by kernel_rfl) (by kernel_rfl) (fun _ _ _ h => h) (Or.inr ⟨by kernel_rfl, by kernel_rfl⟩) (by assumption) ?_
          refine wpAnyH_take (i := 12) (v := undef) rfl (by kernel_rfl) (by kernel_rfl) (by kernel_rfl) (fun _ _ _ h => h) (Or.inr ⟨by kernel_rfl, by kernel_rfl⟩) (by assumption) ?_
          refine wpAnyH_take (i := 13) (v := undef) rfl (by kernel_rfl) (by kernel_rfl) (by kernel_rfl) (fun _ _ _ h => h) (Or.inr ⟨by kernel_rfl, by kernel_rfl⟩) (by assumption) ?_
          refine wpAnyH_take (i := 14) (v := ?_) rfl (by kernel_rfl) (by kernel_rfl) (by kernel_rfl) (fun _ _ _ h => h) (Or.inl ⟨by kernel_rfl, ?_⟩) (by assumption) ?_
          rotate_left 1
          · intro w hSw; (try dsimp only at hSw); go_simp; try with_reducible rfl
          refine wpAnyH_take (i := 15) (v := ?_) rfl (by kernel_rfl) (by kernel_rfl) (by kernel_rfl) (fun _ _ _ h => h) (Or.inl ⟨by kernel_rfl, ?_⟩) (by assumption) ?_
          rotate_left 1
          · intro w hSw; (try dsimp only at hSw); go_simp; try with_reducible rfl
          refine wpAnyH_done (by kernel_rfl) ?_ _
          go_simp
          gi_wp2
          go_roundw
          case rel => exact ⟨i + 1, by simp, hlt, HW9.out.drew⟩
          case measure => simp [intOf]; omega
        refine AllReadyH.cons rfl (fun K hK => ?_) AllReadyH.nil
        go_simp
        refine hK.out _ _ (by first | exact l0 | exact l5 | exact l6 | exact (cell_setRow_other _ _ _ ⟨g1, i * 6, none⟩ HNE.out).trans l6 | go_keep) (fun hHeld => ?_)
        clear hK K
        refine wpAnyH_ready (rs := [1]) (by kernel_rfl) (by simp) ?_
        refine AllReadyH.cons rfl (fun K hK => ?_) AllReadyH.nil
        go_simp
        (go_at_call 7; refine (CS.out _ (((Below.refl _ wr).alloc (Nat.le_refl _) _).drew.drew)).mono ?_; rintro e w5 ⟨t5, rfl, hO, hE, hb⟩; obtain ⟨y5, hy, hyw⟩ := HF.out t5 hE; (have CJ := fun (W : World) (hW : Below w5.heap.size w5 W) => dJob_any (w := W) key ((Own.sv hO).up hW) (by rw [show t5.jobs.length = t5.e.jobs.length from rfl, hE]; have := HA.out.2.1.nJb; show k'.s.jobs.length ≤ _; omega)); simp only [hy] at CJ; obtain ⟨y0, y1, y2, y3, y4, y6⟩ := y5; obtain rfl : y4 = [119] := hyw; (have hwr : Below wr.heap.size wr w5 := Below.trans (((Below.refl _ wr).alloc (Nat.le_refl _) _).drew.drew) (hb.mono (show wr.heap.size ≤ (wr.alloc _).heap.size by rw [World.size_alloc]; exact Nat.le_succ _))); (have H5 : Hid (Below w4.heap.size w4 w5) := HL.out.trans (hwr.mono HL.out.size)); (have l5 : w5.cell? ⟨g1, i * 6, none⟩ = some (.int .u64 (key : Int)) := hwr.cell' l0); (have HWR : Hid (Below wr.heap.size wr w5) := hwr); obtain ⟨⟨qaDe, qnDe, qcDe, qhDe⟩, ⟨qaIn, qnIn, qcIn, qhIn⟩, ⟨qaTk, qnTk, qcTk, qhTk⟩, ⟨qaJb, qnJb, qcJb, qhJb⟩, ⟨qaTm, qnTm, qcTm, qhTm⟩, ⟨qaSb, qnSb, qcSb, qhSb⟩, ⟨qaKp, qnKp, qcKp, qhKp⟩, ⟨qaLs, qnLs, qcLs, qhLs⟩, ⟨qaMs, qnMs, qcMs, qhMs⟩⟩ := St.slices hO; obtain ⟨qpos, qdone, qmade, qvDe, qlDe, qvIn, qlIn, qvTk, qlTk, qvJb, qlJb, qvTm, qlTm, qvSb, qlSb, qvKp, qlKp, qvLs, qlLs, qvMs, qlMs⟩ := t5; simp only at qhDe qhIn qhTk qhJb qhTm qhSb qhKp qhLs qhMs; subst qhDe qhIn qhTk qhJb qhTm qhSb qhKp qhLs qhMs; simp only [St.c, Jb.c] at CJ ⊢; (have HZ5 : Hid (w5.heap[wr.heap.size]? = some (.cells #[.int .u64 0, .int .u64 0, .string ⟨#[]⟩, .int .i64 0, .string ⟨#[]⟩, .int .i64 0] 45 (0, 0))) := (hb.block wr.heap.size (show wr.heap.size < (wr.alloc _).heap.size by rw [World.size_alloc]; exact Nat.lt_succ_self _)).trans (heap_alloc_new wr _)); clear hO hE hb hwr)
        go_wp2_with fail
        refine hK.out _ _ (by first | exact l0 | exact l5 | exact l6 | exact (cell_setRow_other _ _ _ ⟨g1, i * 6, none⟩ HNE.out).trans l6 | go_keep) (fun hHeld => ?_)
        clear hK K
        refine wpAnyH_ready (rs := [7]) (by kernel_rfl) (by simp) ?_
        refine AllReadyH.cons rfl (fun K hK => ?_) AllReadyH.nil
        go_simp
        (go_at_call 9; refine (CJ _ (Below.refl _ _)).mono ?_; rintro e w6 ⟨rfl, hb6⟩; (have H6 : Hid (Below w4.heap.size w4 w6) := H5.out.trans (hb6.mono H5.out.size)); (have l6 : w6.cell? ⟨g1, i * 6, none⟩ = some (.int .u64 (key : Int)) := hb6.cell' l5); (have hz6 : w6.heap[wr.heap.size]? = some (.cells #[.int .u64 0, .int .u64 0, .string ⟨#[]⟩, .int .i64 0, .string ⟨#[]⟩, .int .i64 0] 45 (0, 0)) := (hb6.block wr.heap.size (Array.getElem?_eq_some_iff.1 HZ5.out).1).trans HZ5.out); (have HZ6 : Hid (w6.heap[wr.heap.size]? = some (.cells #[.int .u64 0, .int .u64 0, .string ⟨#[]⟩, .int .i64 0, .string ⟨#[]⟩, .int .i64 0] 45 (0, 0))) := hz6); (have HNE : Hid (g1 ≠ wr.heap.size) := fun e => by have h1 := World.block_lt_of_cell? _ _ l0; simp only at h1; omega); clear hb6 CJ hz6)
        go_wp2_with fail
        refine hK.out _ _ (by first | exact l0 | exact l5 | exact l6 | exact (cell_setRow_other _ _ _ ⟨g1, i * 6, none⟩ HNE.out).trans l6 | go_keep) (fun hHeld => ?_)
        clear hK K
        refine wpAnyH_take (i := 8) (v := ?_) rfl (by kernel_rfl) (by kernel_rfl) (by kernel_rfl) (fun _ _ _ h => h) (Or.inl ⟨by kernel_rfl, ?_⟩) (by assumption) ?_
        rotate_left 1
        · intro w hSw; (try dsimp only at hSw); go_simp; try with_reducible rfl
        refine wpAnyH_take (i := 9) (v := ?_) rfl (by kernel_rfl) (by kernel_rfl) (by kernel_rfl) (fun _ _ _ h => h) (Or.inl ⟨by kernel_rfl, ?_⟩) (by assumption) ?_
        rotate_left 1
        · intro w hSw; (try dsimp only at hSw); go_simp; try with_reducible rfl
        refine wpAnyH_take (i := 10) (v := ?_) rfl (by kernel_rfl) (by kernel_rfl) (by kernel_rfl) (fun _ _ _ h => h) (Or.inl ⟨by kernel_rfl, ?_⟩) (by assumption) ?_
        rotate_left 1
        · intro w hSw; (try dsimp only at hSw); go_simp; try with_reducible rfl
        refine wpAnyH_ready (rs := [12]) (by kernel_rfl) (by simp) ?_
        refine AllReadyH.cons rfl (fun K hK => ?_) AllReadyH.nil
        (rw [if_pos (by rfl)]; refine wp_store_row 45 _ _ rfl wr.heap.size #[.int .u64 (y0 : Int), .int .u64 (y1 : Int), .string (S y2), .int .i64 y3, .string (S [119]), .int .i64 y6] (by simp [Act.eval, Act.put]) (by simp [Act.eval, Act.put]) 45 #[.int .u64 0, .int .u64 0, .string ⟨#[]⟩, .int .i64 0, .string ⟨#[]⟩, .int .i64 0] HZ6.out (by kernel_rfl) rfl (jb_one _ _ _ _ _ _) ?_)
        refine hK.out _ _ (by first | exact l0 | exact l5 | exact l6 | exact (cell_setRow_other _ _ _ ⟨g1, i * 6, none⟩ HNE.out).trans l6 | go_keep) (fun hHeld => ?_)
        clear hK K
        refine wpAnyH_take (i := 13) (v := ?_) rfl (by kernel_rfl) (by kernel_rfl) (by kernel_rfl) (fun _ _ _ h => h) (Or.inl ⟨by kernel_rfl, ?_⟩) (by assumption) ?_
        rotate_left 1
        · intro w hSw; (try dsimp only at hSw); go_simp; try with_reducible rfl
        refine wpAnyH_done (by kernel_rfl) ?_ _
        obtain ⟨W9, hW9⟩ : ∃ W9, w6.setRow wr.heap.size #[.int .u64 (y0 : Int), .int .u64 (y1 : Int), .string (S y2), .int .i64 y3, .string (S [119]), .int .i64 y6] = W9 := ⟨_, rfl⟩
        rw [hW9]
        have x4 : W9.cell? ⟨wr.heap.size, 4, none⟩ = some (.string ⟨#[119]⟩) := by rw [← hW9]; exact cell_setRow_same _ _ 4 _ _ _ _ HZ6.out
        have HW9 : Hid (Below w4.heap.size w4 W9) := by rw [← hW9]; exact below_setRow H6.out (by exact HL.out.size)
        clear hW9 l0 l5 l6 l4 r0 m0 bx
        go_simp
        gi_wp2
        refine wpIn_wide.2 ?_
        refine wp_region_held_drew (S := (fun W => W.cell? ⟨wr.heap.size, 4, none⟩ = some (.string ⟨#[119]⟩))) (by kernel_rfl) (by first | exact x4 | go_keep) (fun hHeld => ?_)
        refine wpAnyH_take (i := 0) (v := ?_) rfl (by kernel_rfl) (by kernel_rfl) (by kernel_rfl) (fun _ _ _ h => h) (Or.inl ⟨by kernel_rfl, ?_⟩) (by assumption) ?_
        rotate_left 1
        · intro w hSw; (try dsimp only at hSw); go_simp; try with_reducible rfl
        refine wpAnyH_take (i := 1) (v := ?_) rfl (by kernel_rfl) (by kernel_rfl) (by kernel_rfl) (fun _ _ _ h => h) (Or.inl ⟨by kernel_rfl, ?_⟩) (by assumption) ?_
        rotate_left 1
        · intro w hSw; (try dsimp only at hSw); go_simp; try with_reducible rfl
        refine wpAnyH_take (i := 2) (v := ?_) rfl (by kernel_rfl) (by kernel_rfl) (by kernel_rfl) (fun _ _ _ h => h) (Or.inl ⟨by kernel_rfl, ?_⟩) (by assumption) ?_
        rotate_left 1
        · intro w hSw; (try dsimp only at hSw); go_simp; try with_reducible rfl
        refine wpAnyH_take (i := 3) (v := ?_) rfl (by kernel_rfl) (by kernel_rfl) (by kernel_rfl) (fun _ _ _ h => h) (Or.inl ⟨by kernel_rfl, ?_⟩) (by assumption) ?_
        rotate_left 1
        · intro w hSw; (try dsimp only at hSw); go_simp; try with_reducible rfl
        refine wpAnyH_take (i := 4) (v := ?_) rfl (by kernel_rfl) (by kernel_rfl) (by kernel_rfl) (fun _ _ _ h => h) (Or.inl ⟨by kernel_rfl, ?_⟩) (by assumption) ?_
        rotate_left 1
        · intro w hSw; (try dsimp only at hSw); go_simp; try with_reducible rfl
        refine wpAnyH_take (i := 5) (v := ?_) rfl (by kernel_rfl) (by kernel_rfl) (by kernel_rfl) (fun _ _ _ h => h) (Or.inl ⟨by kernel_rfl, ?_⟩) (by assumption) ?_
        rotate_left 1
        · intro w hSw; (try dsimp only at hSw); go_simp; try with_reducible rfl
        refine wpAnyH_take (i := 6) (v := ?_) rfl (by kernel_rfl) (by kernel_rfl) (by kernel_rfl) (fun _ _ _ h => h) (Or.inl ⟨by kernel_rfl, ?_⟩) (by assumption) ?_
        rotate_left 1
        · intro w hSw; (try dsimp only at hSw); go_simp; try with_reducible rfl
        refine wpAnyH_take (i := 7) (v := undef) rfl (by kernel_rfl) (by kernel_rfl) (by kernel_rfl) (fun _ _ _ h => h) (Or.inr ⟨by kernel_rfl, by kernel_rfl⟩) (by assumption) ?_
        refine wpAnyH_take (i := 8) (v := undef) rfl (by kernel_rfl) (by kernel_rfl) (by kernel_rfl) (fun _ _ _ h => h) (Or.inr ⟨by kernel_rfl, by kernel_rfl⟩) (by assumption) ?_
        refine wpAnyH_take (i := 9) (v := undef) rfl (by kernel_rfl) (by kernel_rfl) (by kernel_rfl) (fun _ _ _ h => h) (Or.inr ⟨by kernel_rfl, by kernel_rfl⟩) (by assumption) ?_
        refine wpAnyH_take (i := 10) (v := undef) rfl (by kernel_rfl) (by kernel_rfl) (by kernel_rfl) (fun _ _ _ h => h) (Or.inr ⟨by kernel_rfl, by kernel_rfl⟩) (by assumption) ?_
        refine wpAnyH_take (i := 11) (v := undef) rfl (by kernel_rfl) (by kernel_rfl) (by kernel_rfl) (fun _ _ _ h => h) (Or.inr ⟨by kernel_rfl, by kernel_rfl⟩) (by assumption) ?_
        refine wpAnyH_take (i := 12) (v := undef) rfl (by kernel_rfl) (by kernel_rfl) (by kernel_rfl) (fun _ _ _ h => h) (Or.inr ⟨by kernel_rfl, by kernel_rfl⟩) (by assumption) ?_
        refine wpAnyH_take (i := 13) (v := undef) rfl (by kernel_rfl) (by kernel_rfl) (by kernel_rfl) (fun _ _ _ h => h) (Or.inr ⟨by kernel_rfl, by kernel_rfl⟩) (by assumption) ?_
        refine wpAnyH_take (i := 14) (v := ?_) rfl (by kernel_rfl) (by kernel_rfl) (by kernel_rfl) (fun _ _ _ h => h) (Or.inl ⟨by kernel_rfl, ?_⟩) (by assumption) ?_
        rotate_left 1
        · intro w hSw; (try dsimp only at hSw); go_simp; try with_reducible rfl
        refine wpAnyH_take (i := 15) (v := ?_) rfl (by kernel_rfl) (by kernel_rfl) (by kernel_rfl) (fun _ _ _ h => h) (Or.inl ⟨by kernel_rfl, ?_⟩) (by assumption) ?_
        rotate_left 1
        · intro w hSw; (try dsimp only at hSw); go_simp; try with_reducible rfl
        refine wpAnyH_done (by kernel_rfl) ?_ _
        go_simp
        gi_wp2
        go_roundw
        case rel => exact ⟨i + 1, by simp, hlt, HW9.out.drew⟩
        case measure => simp [intOf]; omega
      · obtain rfl : i = M.length := by omega
        gi_wp2
        refine bodyPost_ret (results_tmp rfl _ _ _) rfl ?_
        exact ⟨rfl, HB1.out.1.trans ((HB4.out.trans (HL.out.mono HB4.out.size)).mono HB1.out.1.size)⟩
end Go.Proofs.YtajnjeipcbmlhaaGreat.f13

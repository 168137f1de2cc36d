/-
  For every input: a job that is taken, given back or late, and taken again, goes on until it has no retries; then nobody gets it, and its token is stuck.
-/
import Derived.Test.YtbegpbaklagcpaaGreatB16Trn
namespace Go.Proofs.YtbegpbaklagcpaaGreat.f13
open Go.RowKit Go.Shelf Go.Sort
open Go.Lib hiding intOf
open Go.Proofs.YtbegpbaklagcpaaGreat
abbrev Bo := Bool
def Bo.c (b : Bo) : List Value := [.bool b]
def lenV : Value → Nat
  | .slice _ n _ => n
  | _ => 0
/-- what stands in the loop: the state in its box, what is left of late -/
structure Tn (w : World) (sb : Nat) (W : World) (v : Value) (ls : List Bo) (left : Int) : Prop where
  rr : Rr 1 Bo.c w v ls
  bel : Below w.heap.size w W
  lo : w.heap.size ≤ sb
  st : ∃ (t : St) (p d : Nat) (s : List UInt8), W.heap[sb]? = some (.cells t.c.toArray 33 (0, 0)) ∧ Sv W t ∧ t.e = eT p d s (jR left [] 0) ∧ (left = 0 → s = [106, 111, 98])
theorem Tn.next {w : World} {sb : Nat} {W : World} {v v' : Value} {ls ls' : List Bo} {left left' : Int} (h : Tn w sb W v ls left) (hr : Rr 1 Bo.c w v' ls') {w7 : World} (hb : Below W.heap.size W w7) {B : Nat} (hB : W.heap.size ≤ B) {t : St} (hO : Own B w7 t.rows) {p d : Nat} {s : List UInt8} (he : t.e = eT p d s (jR left' [] 0)) (hl : left' = 0 → s = [106, 111, 98]) :
    Tn w sb (set12 w7 sb (.int .u64 (t.pos : Int)) (.int .u64 (t.done : Int)) (.int .u64 (t.made : Int)) t.vDe t.vIn t.vTk t.vJb t.vTm t.vSb t.vKp t.vLs t.vMs) v' ls' left' := by
  obtain ⟨t0, _, _, _, hob, -, -, -⟩ := h.st
  have hlt := (Array.getElem?_eq_some_iff.1 hob).1
  have hc := set12_ch w7 sb (.int .u64 (t.pos : Int)) (.int .u64 (t.done : Int)) (.int .u64 (t.made : Int)) t.vDe t.vIn t.vTk t.vJb t.vTm t.vSb t.vKp t.vLs t.vMs
  have ho := set12_obj0 (.int .u64 (t.pos : Int)) (.int .u64 (t.done : Int)) (.int .u64 (t.made : Int)) t.vDe t.vIn t.vTk t.vJb t.vTm t.vSb t.vKp t.vLs t.vMs ((hb.block _ hlt).trans hob)
  have hO2 := Own.of12' (.int .u64 (t.pos : Int)) (.int .u64 (t.done : Int)) (.int .u64 (t.made : Int)) t.vDe t.vIn t.vTk t.vJb t.vTm t.vSb t.vKp t.vLs t.vMs hO (show sb < B by omega)
  have hbw : Below w.heap.size w w7 := h.bel.trans (hb.mono h.bel.size)
  exact ⟨hr, hbw.trans (hc.below hbw.size (fun k hk e => by have := h.lo; omega)), h.lo, t, p, d, s, ho, Own.sv hO2, he, hl⟩
theorem Rr.tail {w : World} {v : Value} {b : Bo} {ls : List Bo} (h : Rr 1 Bo.c w v (b :: ls)) : ∃ (g off cap : Nat), v = .slice (some ⟨g, off, none⟩) (ls.length + 1) cap ∧ ls.length + 1 ≤ cap ∧ g < w.heap.size ∧ w.cell? ⟨g, off, none⟩ = some (.bool b) ∧ Rr 1 Bo.c w (.slice (some ⟨g, off + 1, none⟩) ls.length (cap - 1)) ls := by
  obtain ⟨a, cap, rfl, hcap, h⟩ := h
  rcases h with h | ⟨g, off, rfl, hlt, hc⟩
  · cases h
  · refine ⟨g, off, cap, rfl, by simpa using hcap.1, hlt, by simpa [Bo.c] using hc 0 (by simp) 0 (.bool b) rfl, _, cap - 1, rfl, ⟨by have := hcap.1; simp at this; omega, fun e => by cases e⟩, .inr ⟨g, off + 1, rfl, hlt, fun j hj i u hu => ?_⟩⟩
    have := hc (j + 1) (by simp; omega) i u (by simpa using hu)
    rw [show off + 1 + j * 1 + i = off + (j + 1) * 1 + i by omega]
    exact this
theorem Rr.head {w : World} {v : Value} {ls : List Bo} (h : Rr 1 Bo.c w v ls) : ∃ a cap, v = .slice a ls.length cap := by
  obtain ⟨a, cap, rfl, -⟩ := h
  exact ⟨a, cap, rfl⟩
theorem row_turn {W : World} {B c : Nat} {a : Option Addr} {left un : Int} (h : W.ownsRow B 70 6 (.slice a 1 c) 1 (Jb.c (jR left [119] un))) : ∃ bb, a = some ⟨bb, 0, none⟩ ∧ W.cell? ⟨bb, 5, none⟩ = some (.int .i64 un) ∧ W.cell? ⟨bb, 3, none⟩ = some (.int .i64 left) := by
  rcases h.2 with ⟨e, h0⟩ | ⟨g, cap', cur, e, -⟩
  · cases h0
  · cases e
    exact ⟨g, rfl, row_cell h rfl, row_cell h rfl⟩
set_option maxHeartbeats 8000000 in
set_option maxRecDepth 100000 in
theorem turns_main {w : World} {r wt : Int} {v : Value} {ls : List Bo} (hv : Rr 1 Bo.c w v ls) (hr1 : 1 ≤ r) (hr9 : r ≤ 9) (hw1 : 1 ≤ wt) (hw2 : wt ≤ 1000000) :
    Calls Tryz.prog 7 #[.int .i64 r, v, .int .i64 wt] w fun e w' => e = .returned (.bool true) ∧ Below w.heap.size w w' := by
  have hnot : ¬ r < 1 := by omega
  have hnot2 : ¬ 9 < r := by omega
  have hnot3 : ¬ wt < 1 := by omega
  have hnot4 : ¬ 1000000 < wt := by omega
  have HW : Hid (1 ≤ wt ∧ wt ≤ 1048576 ∧ 1 ≤ r ∧ r ≤ 9) := ⟨hw1, by omega, hr1, hr9⟩
  have HV : Hid (Rr 1 Bo.c w v ls) := hv
  clear hv hr1 hr9 hw1 hw2
  refine (callsIn_wide (n := 9)).1 ?_
  refine callsIn_of_wp Tryz.func7 rfl trivial ?_ rfl
  simp only [Tryz.ntmps7, List.size_toArray, List.length_cons, List.length_nil, Nat.reduceAdd, Nat.reduceSub, Array.replicate_succ, Array.replicate_zero, List.push_toArray, List.append_toArray, List.nil_append, List.cons_append]
  gi_wp2_with ((refine ⟨trivial, ?_⟩; gi_at_call 9; refine (callsIn_wide.2 (shown_any w)).mono ?_; rintro e w1 ⟨rfl, hb1⟩; (have HB1 : Hid (Below w.heap.size w w1) := hb1); clear hb1))
  obtain ⟨W3, hW3⟩ : ∃ W3, (((w1.alloc (.cells #[.int .u64 1, .int .u64 0, .int .u64 0, .int .i64 0, .int .i64 0, .string ⟨#[]⟩] 79)).alloc (.cells #[.int .u64 2, .int .u64 1, .string ⟨#[112, 97, 121]⟩, .int .i64 r, .string ⟨#[]⟩, .int .i64 0] 70)).alloc (.cells #[.int .u64 0, .int .u64 0, .int .u64 0, .slice none 0 0, .slice none 0 0, .slice (some ⟨w1.heap.size, 0, none⟩) 1 1, .slice (some ⟨w1.heap.size + 1, 0, none⟩) 1 1, .slice none 0 0, .slice none 0 0, .slice none 0 0, .slice none 0 0, .slice none 0 0] 33)) = W3 := ⟨_, rfl⟩
  have hT0 : Tn w (w1.heap.size + 1 + 1) W3 v ls r := by
    have hb3 : Below w1.heap.size w1 W3 := by rw [← hW3]; exact (((Below.refl _ w1).alloc (Nat.le_refl _) _).alloc (by simp) _).alloc (by simp; omega) _
    have ho1 : W3.heap[w1.heap.size]? = some (.cells (Tk.c (tR [])).toArray 79 (0, 0)) := by
      rw [← hW3]
      exact (Below.heap_alloc _ _ _ (by simp; omega)).trans ((Below.heap_alloc _ _ _ (by simp)).trans (heap_alloc_new w1 _))
    have ho2 : W3.heap[w1.heap.size + 1]? = some (.cells (Jb.c (jR r [] 0)).toArray 70 (0, 0)) := by
      rw [← hW3]
      have := heap_alloc_new (w1.alloc (.cells #[.int .u64 1, .int .u64 0, .int .u64 0, .int .i64 0, .int .i64 0, .string ⟨#[]⟩] 79)) (.cells #[.int .u64 2, .int .u64 1, .string ⟨#[112, 97, 121]⟩, .int .i64 r, .string ⟨#[]⟩, .int .i64 0] 70)
      rw [World.size_alloc] at this
      exact (Below.heap_alloc _ _ _ (by simp)).trans this
    have ho3 : W3.heap[w1.heap.size + 1 + 1]? = some (.cells #[.int .u64 0, .int .u64 0, .int .u64 0, .slice none 0 0, .slice none 0 0, .slice (some ⟨w1.heap.size, 0, none⟩) 1 1, .slice (some ⟨w1.heap.size + 1, 0, none⟩) 1 1, .slice none 0 0, .slice none 0 0, .slice none 0 0, .slice none 0 0, .slice none 0 0] 33 (0, 0)) := by
      rw [← hW3]
      have := heap_alloc_new ((w1.alloc (.cells #[.int .u64 1, .int .u64 0, .int .u64 0, .int .i64 0, .int .i64 0, .string ⟨#[]⟩] 79)).alloc (.cells #[.int .u64 2, .int .u64 1, .string ⟨#[112, 97, 121]⟩, .int .i64 r, .string ⟨#[]⟩, .int .i64 0] 70)) (.cells #[.int .u64 0, .int .u64 0, .int .u64 0, .slice none 0 0, .slice none 0 0, .slice (some ⟨w1.heap.size, 0, none⟩) 1 1, .slice (some ⟨w1.heap.size + 1, 0, none⟩) 1 1, .slice none 0 0, .slice none 0 0, .slice none 0 0, .slice none 0 0, .slice none 0 0] 33)
      rw [World.size_alloc, World.size_alloc] at this
      exact this
    refine ⟨HV.out, HB1.out.trans (hb3.mono HB1.out.size), by have := HB1.out.size; omega, ⟨0, 0, 0, .slice none 0 0, [], .slice none 0 0, [], .slice (some ⟨w1.heap.size, 0, none⟩) 1 1, [tR []], .slice (some ⟨w1.heap.size + 1, 0, none⟩) 1 1, [jR r [] 0], .slice none 0 0, [], .slice none 0 0, [], .slice none 0 0, [], .slice none 0 0, [], .slice none 0 0, []⟩, 0, 0, [], ho3, ⟨Rr.nil _, Rr.nil _, Rr.single ho1, Rr.single ho2, Rr.nil _, Rr.nil _, Rr.nil _, Rr.nil _, Rr.nil _, fun _ hx => absurd hx List.not_mem_nil, fun _ hx => absurd hx List.not_mem_nil, fun _ hx => absurd hx List.not_mem_nil, fun _ hx => absurd hx List.not_mem_nil⟩, rfl, fun e => by have := HW.out.2.2.1; omega⟩
  rw [hW3]
  have HT0 : Hid _ := hT0
  clear hT0 hW3
  generalize w1.heap.size + 1 + 1 = sb at *
  gi_loopw [1, 9, 10] (fun v1 v9 v10 wr => ∃ (ls' : List Bo) (now left : Int), v9 = .int .i64 now ∧ v10 = .int .i64 left ∧ 0 ≤ left ∧ left ≤ 9 ∧ Hid (Tn w sb wr v1 ls' left)) (fun v1 _ v10 _ => lenV v1 + (intOf v10).toNat)
  case atStart => exact ⟨ls, 0, r, rfl, rfl, by have := HW.out; omega, HW.out.2.2.2, HT0.out⟩
  case round =>
    obtain ⟨ls', now, left, rfl, rfl, hl0, hl9, HT⟩ := hrel
    by_cases hlt : 0 < left
    · obtain ⟨t, p, d, s, hob, hsv, hte, hst⟩ := HT.out.st
      have hbw := HT.out.bel
      have hsl := Sv.slices hsv
      have hsz := sz_T hte
      have hsbl := (Array.getElem?_eq_some_iff.1 hob).1
      have CB := Begin_any hsv hsz 0 1 now
      have HTE : Hid (t.e = eT p d s (jR left [] 0)) := hte
      clear hsv hst hsz hte
      obtain ⟨⟨saDe, snDe, scDe, shDe⟩, ⟨saIn, snIn, scIn, shIn⟩, ⟨saTk, snTk, scTk, shTk⟩, ⟨saJb, snJb, scJb, shJb⟩, ⟨saTm, snTm, scTm, shTm⟩, ⟨saSb, snSb, scSb, shSb⟩, ⟨saKp, snKp, scKp, shKp⟩, ⟨saLs, snLs, scLs, shLs⟩, ⟨saMs, snMs, scMs, shMs⟩⟩ := hsl
      obtain ⟨spos, sdone, smade, svDe, slDe, svIn, slIn, svTk, slTk, svJb, slJb, svTm, slTm, svSb, slSb, svKp, slKp, svLs, slLs, svMs, slMs⟩ := t
      simp only at shDe shIn shTk shJb shTm shSb shKp shLs shMs
      subst shDe shIn shTk shJb shTm shSb shKp shLs shMs
      simp only [St.c] at CB hob
      have x0 : wr.cell? ⟨sb, 0, none⟩ = some (.int .u64 (spos : Int)) := by simp [World.cell?, hob]
      have x1 : wr.cell? ⟨sb, 1, none⟩ = some (.int .u64 (sdone : Int)) := by simp [World.cell?, hob]
      have x2 : wr.cell? ⟨sb, 2, none⟩ = some (.int .u64 (smade : Int)) := by simp [World.cell?, hob]
      have x3 : wr.cell? ⟨sb, 3, none⟩ = some (.slice saDe snDe scDe) := by simp [World.cell?, hob]
      have x4 : wr.cell? ⟨sb, 4, none⟩ = some (.slice saIn snIn scIn) := by simp [World.cell?, hob]
      have x5 : wr.cell? ⟨sb, 5, none⟩ = some (.slice saTk snTk scTk) := by simp [World.cell?, hob]
      have x6 : wr.cell? ⟨sb, 6, none⟩ = some (.slice saJb snJb scJb) := by simp [World.cell?, hob]
      have x7 : wr.cell? ⟨sb, 7, none⟩ = some (.slice saTm snTm scTm) := by simp [World.cell?, hob]
      have x8 : wr.cell? ⟨sb, 8, none⟩ = some (.slice saSb snSb scSb) := by simp [World.cell?, hob]
      have x9 : wr.cell? ⟨sb, 9, none⟩ = some (.slice saKp snKp scKp) := by simp [World.cell?, hob]
      have x10 : wr.cell? ⟨sb, 10, none⟩ = some (.slice saLs snLs scLs) := by simp [World.cell?, hob]
      have x11 : wr.cell? ⟨sb, 11, none⟩ = some (.slice saMs snMs scMs) := by simp [World.cell?, hob]
      have HOb : Hid (∀ W, Below wr.heap.size wr W → W.heap[sb]? = some (.cells #[.int .u64 (spos : Int), .int .u64 (sdone : Int), .int .u64 (smade : Int), .slice saDe snDe scDe, .slice saIn snIn scIn, .slice saTk snTk scTk, .slice saJb snJb scJb, .slice saTm snTm scTm, .slice saSb snSb scSb, .slice saKp snKp scKp, .slice saLs snLs scLs, .slice saMs snMs scMs] 33 (0, 0))) := fun W hW => (hW.block _ hsbl).trans hob
      obtain ⟨un, hun⟩ : ∃ un, IntKind.i64.wrap (now + wt) = un := ⟨_, rfl⟩
      have HUn : Hid (IntKind.i64.wrap (now + wt) = un) := hun
      have hsub : IntKind.i64.wrap (left - 1) = left - 1 := by simp [IntKind.wrap, IntKind.signed, IntKind.bits]; omega
      clear hob hsbl hbw
      gi_wp2_with ((refine ⟨trivial, ?_⟩; gi_at_call 10; refine (callsIn_wide.2 CB).mono ?_; rintro e w2 ⟨g, t2, rfl, hE, hW, hb⟩; (have H2 : Hid (Wk wr.heap.size w2 g ⟨t2, 0, 1, now, .slice none 0 0, []⟩ ∧ Below wr.heap.size wr w2) := ⟨hW, hb⟩); (have C2 := turn_act hW hb.size (hE.trans HTE.out) rfl hlt HW.out.1 HW.out.2.1); simp only [HUn.out] at C2; clear hE hW hb CB))
      have ACT : Hid (∀ (a : Option Addr) (c : Nat) (k1 : Wo) (w3 : World), Wkr wr.heap.size w2 g ⟨t2, 0, 1, now, .slice none 0 0, []⟩ k1 w3 → k1.el.length = 1 → (∃ p d, k1.s.e = eT p d s (jR left [119] un)) → w3.ownsRow w2.heap.size 70 6 (.slice a 1 c) 1 (Jb.c (jR left [119] un)) → (∃ bb, a = some ⟨bb, 0, none⟩ ∧ w3.cell? ⟨bb, 5, none⟩ = some (.int .i64 un) ∧ w3.cell? ⟨bb, 3, none⟩ = some (.int .i64 left)) ∧ Wk wr.heap.size w3 g k1 ∧ Below wr.heap.size wr w3 ∧ wr.heap.size ≤ w3.heap.size) := fun a c k1 w3 h1 _ _ h4 => ⟨row_turn h4, h1.wk, H2.out.2.trans ((h1.bel H2.out.1 H2.out.2.size)), Nat.le_trans H2.out.2.size h1.ch.size⟩
      rcases ls' with _ | ⟨b, ls'⟩
      · obtain ⟨va, vc, rfl⟩ := Rr.head HT.out.rr
        simp only [List.length_nil]
        gi_wp2_with ((refine ⟨trivial, ?_⟩; gi_at_call 13; refine (callsIn_wide.2 C2).mono ?_; rintro e w3 ⟨a, c, k1, rfl, h1, h2, h3, h4⟩; obtain ⟨⟨bb, rfl, z5, z3⟩, hwk3, hb3, hs3⟩ := ACT.out a c k1 w3 h1 h3 h2 h4; obtain ⟨p2, d2, h2⟩ := h2; (have CF := turn_fail (n := left - 1) hwk3 hs3 h2 (by omega) (by omega) (by omega)); (have H3 : Hid (Wk wr.heap.size w3 g k1 ∧ Below wr.heap.size wr w3 ∧ wr.heap.size ≤ w3.heap.size) := ⟨hwk3, hb3, hs3⟩); clear h1 h2 h3 h4 hwk3 hb3 hs3 C2))
        gi_wp2_with ((refine ⟨trivial, ?_⟩; gi_at_call 16; refine (callsIn_wide.2 CF).mono ?_; rintro e w4 ⟨rfl, k2, q1, p3, d3, q2⟩; (have HQ : Hid (Below wr.heap.size wr w4 ∧ wr.heap.size ≤ w4.heap.size ∧ k2.s.e = eT p3 d3 (if left - 1 = 0 then [106, 111, 98] else s) (jR (left - 1) [] 0)) := ⟨H3.out.2.1.trans (q1.bel H3.out.1 H3.out.2.2), Nat.le_trans H3.out.2.2 q1.ch.size, q2⟩); (have CS := State_any q1.wk (sz_T q2)); clear q1 q2 CF))
        gi_wp2_with ((refine ⟨trivial, ?_⟩; gi_at_call 23; refine (callsIn_wide.2 CS).mono ?_; rintro e w5 ⟨t5, rfl, hO, hE, hb⟩; (have hb5 : Below wr.heap.size wr w5 := HQ.out.1.trans (hb.mono HQ.out.2.1)); (have hob7 := HOb.out w5 hb5); (have y0 : w5.cell? ⟨sb, 0, none⟩ = some (.int .u64 (spos : Int)) := by simp [World.cell?, hob7]); (have f0 : w5.frozen? ⟨sb, 0, none⟩ = false := by simp [World.frozen?, hob7]); (have y1 : w5.cell? ⟨sb, 1, none⟩ = some (.int .u64 (sdone : Int)) := by simp [World.cell?, hob7]); (have f1 : w5.frozen? ⟨sb, 1, none⟩ = false := by simp [World.frozen?, hob7]); (have y2 : w5.cell? ⟨sb, 2, none⟩ = some (.int .u64 (smade : Int)) := by simp [World.cell?, hob7]); (have f2 : w5.frozen? ⟨sb, 2, none⟩ = false := by simp [World.frozen?, hob7]); (have y3 : w5.cell? ⟨sb, 3, none⟩ = some (.slice saDe snDe scDe) := by simp [World.cell?, hob7]); (have f3 : w5.frozen? ⟨sb, 3, none⟩ = false := by simp [World.frozen?, hob7]); (have y4 : w5.cell? ⟨sb, 4, none⟩ = some (.slice saIn snIn scIn) := by simp [World.cell?, hob7]); (have f4 : w5.frozen? ⟨sb, 4, none⟩ = false := by simp [World.frozen?, hob7]); (have y5 : w5.cell? ⟨sb, 5, none⟩ = some (.slice saTk snTk scTk) := by simp [World.cell?, hob7]); (have f5 : w5.frozen? ⟨sb, 5, none⟩ = false := by simp [World.frozen?, hob7]); (have y6 : w5.cell? ⟨sb, 6, none⟩ = some (.slice saJb snJb scJb) := by simp [World.cell?, hob7]); (have f6 : w5.frozen? ⟨sb, 6, none⟩ = false := by simp [World.frozen?, hob7]); (have y7 : w5.cell? ⟨sb, 7, none⟩ = some (.slice saTm snTm scTm) := by simp [World.cell?, hob7]); (have f7 : w5.frozen? ⟨sb, 7, none⟩ = false := by simp [World.frozen?, hob7]); (have y8 : w5.cell? ⟨sb, 8, none⟩ = some (.slice saSb snSb scSb) := by simp [World.cell?, hob7]); (have f8 : w5.frozen? ⟨sb, 8, none⟩ = false := by simp [World.frozen?, hob7]); (have y9 : w5.cell? ⟨sb, 9, none⟩ = some (.slice saKp snKp scKp) := by simp [World.cell?, hob7]); (have f9 : w5.frozen? ⟨sb, 9, none⟩ = false := by simp [World.frozen?, hob7]); (have y10 : w5.cell? ⟨sb, 10, none⟩ = some (.slice saLs snLs scLs) := by simp [World.cell?, hob7]); (have f10 : w5.frozen? ⟨sb, 10, none⟩ = false := by simp [World.frozen?, hob7]); (have y11 : w5.cell? ⟨sb, 11, none⟩ = some (.slice saMs snMs scMs) := by simp [World.cell?, hob7]); (have f11 : w5.frozen? ⟨sb, 11, none⟩ = false := by simp [World.frozen?, hob7]); (have hN := HT.out.next (v' := .slice va 0 vc) (ls' := []) (left' := left - 1) HT.out.rr hb5 HQ.out.2.1 hO (hE.trans HQ.out.2.2) (fun e => if_pos e)); obtain ⟨⟨qaDe, qnDe, qcDe, qhDe⟩, ⟨qaIn, qnIn, qcIn, qhIn⟩, ⟨qaTk, qnTk, qcTk, qhTk⟩, ⟨qaJb, qnJb, qcJb, qhJb⟩, ⟨qaTm, qnTm, qcTm, qhTm⟩, ⟨qaSb, qnSb, qcSb, qhSb⟩, ⟨qaKp, qnKp, qcKp, qhKp⟩, ⟨qaLs, qnLs, qcLs, qhLs⟩, ⟨qaMs, qnMs, qcMs, qhMs⟩⟩ := St.slices hO; obtain ⟨qpos, qdone, qmade, qvDe, qlDe, qvIn, qlIn, qvTk, qlTk, qvJb, qlJb, qvTm, qlTm, qvSb, qlSb, qvKp, qlKp, qvLs, qlLs, qvMs, qlMs⟩ := t5; simp only at qhDe qhIn qhTk qhJb qhTm qhSb qhKp qhLs qhMs; subst qhDe qhIn qhTk qhJb qhTm qhSb qhKp qhLs qhMs; simp only [St.c] at hN ⊢; unfold set12 at hN; (have HN : Hid _ := hN); clear hO hE hb hob7 hb5 hN CS))
        gi_wp2
        go_roundw
        case rel => exact ⟨[], now, left - 1, rfl, rfl, by omega, by omega, HN.out⟩
        case measure => first | (simp [lenV, intOf]; done) | (simp [lenV, intOf]; omega)
      · obtain ⟨lg, lo, lc, rfl, hlc, hlg, hl0c, hrr⟩ := Rr.tail HT.out.rr
        have HC0 : Hid (∀ W, Below w.heap.size w W → W.cell? ⟨lg, lo, none⟩ = some (.bool b)) := fun W hW => (hW.cell (p := ⟨lg, lo, none⟩) hlg).trans hl0c
        have HRr : Hid (Rr 1 Bo.c w (.slice (some ⟨lg, lo + 1, none⟩) ls'.length (lc - 1)) ls') := hrr
        have HRz : Hid (lc = 1 → ls' = []) := fun e => List.eq_nil_of_length_eq_zero (by omega)
        clear hl0c hrr hlg
        by_cases hlc1 : lc = 1
        · subst hlc1
          obtain rfl := HRz.out rfl
          simp only [List.length_nil, Nat.zero_add]
          have HRr : Hid (Rr 1 Bo.c w (.slice (some ⟨lg, lo, none⟩) 0 0) []) := ⟨_, 0, rfl, ⟨Nat.le_refl _, fun _ => rfl⟩, .inl rfl⟩
          cases b
          · gi_wp2_with ((refine ⟨trivial, ?_⟩; gi_at_call 13; refine (callsIn_wide.2 C2).mono ?_; rintro e w3 ⟨a, c, k1, rfl, h1, h2, h3, h4⟩; obtain ⟨⟨bb, rfl, z5, z3⟩, hwk3, hb3, hs3⟩ := ACT.out a c k1 w3 h1 h3 h2 h4; obtain ⟨p2, d2, h2⟩ := h2; (have H3 : Hid (Wk wr.heap.size w3 g k1 ∧ Below wr.heap.size wr w3 ∧ wr.heap.size ≤ w3.heap.size) := ⟨hwk3, hb3, hs3⟩); (have CF := turn_fail (n := left - 1) hwk3 hs3 h2 (by omega) (by omega) (by omega)); (have c0 := HC0.out w3 (HT.out.bel.trans (hb3.mono HT.out.bel.size))); clear h1 h2 h3 h4 hwk3 hb3 hs3 C2))
            gi_wp2_with ((refine ⟨trivial, ?_⟩; gi_at_call 16; refine (callsIn_wide.2 CF).mono ?_; rintro e w4 ⟨rfl, k2, q1, p3, d3, q2⟩; (have HQ : Hid (Below wr.heap.size wr w4 ∧ wr.heap.size ≤ w4.heap.size ∧ k2.s.e = eT p3 d3 (if left - 1 = 0 then [106, 111, 98] else s) (jR (left - 1) [] 0)) := ⟨H3.out.2.1.trans (q1.bel H3.out.1 H3.out.2.2), Nat.le_trans H3.out.2.2 q1.ch.size, q2⟩); (have CS := State_any q1.wk (sz_T q2)); clear q1 q2 CF))
            gi_wp2_with ((refine ⟨trivial, ?_⟩; gi_at_call 23; refine (callsIn_wide.2 CS).mono ?_; rintro e w5 ⟨t5, rfl, hO, hE, hb⟩; (have hb5 : Below wr.heap.size wr w5 := HQ.out.1.trans (hb.mono HQ.out.2.1)); (have hob7 := HOb.out w5 hb5); (have y0 : w5.cell? ⟨sb, 0, none⟩ = some (.int .u64 (spos : Int)) := by simp [World.cell?, hob7]); (have f0 : w5.frozen? ⟨sb, 0, none⟩ = false := by simp [World.frozen?, hob7]); (have y1 : w5.cell? ⟨sb, 1, none⟩ = some (.int .u64 (sdone : Int)) := by simp [World.cell?, hob7]); (have f1 : w5.frozen? ⟨sb, 1, none⟩ = false := by simp [World.frozen?, hob7]); (have y2 : w5.cell? ⟨sb, 2, none⟩ = some (.int .u64 (smade : Int)) := by simp [World.cell?, hob7]); (have f2 : w5.frozen? ⟨sb, 2, none⟩ = false := by simp [World.frozen?, hob7]); (have y3 : w5.cell? ⟨sb, 3, none⟩ = some (.slice saDe snDe scDe) := by simp [World.cell?, hob7]); (have f3 : w5.frozen? ⟨sb, 3, none⟩ = false := by simp [World.frozen?, hob7]); (have y4 : w5.cell? ⟨sb, 4, none⟩ = some (.slice saIn snIn scIn) := by simp [World.cell?, hob7]); (have f4 : w5.frozen? ⟨sb, 4, none⟩ = false := by simp [World.frozen?, hob7]); (have y5 : w5.cell? ⟨sb, 5, none⟩ = some (.slice saTk snTk scTk) := by simp [World.cell?, hob7]); (have f5 : w5.frozen? ⟨sb, 5, none⟩ = false := by simp [World.frozen?, hob7]); (have y6 : w5.cell? ⟨sb, 6, none⟩ = some (.slice saJb snJb scJb) := by simp [World.cell?, hob7]); (have f6 : w5.frozen? ⟨sb, 6, none⟩ = false := by simp [World.frozen?, hob7]); (have y7 : w5.cell? ⟨sb, 7, none⟩ = some (.slice saTm snTm scTm) := by simp [World.cell?, hob7]); (have f7 : w5.frozen? ⟨sb, 7, none⟩ = false := by simp [World.frozen?, hob7]); (have y8 : w5.cell? ⟨sb, 8, none⟩ = some (.slice saSb snSb scSb) := by simp [World.cell?, hob7]); (have f8 : w5.frozen? ⟨sb, 8, none⟩ = false := by simp [World.frozen?, hob7]); (have y9 : w5.cell? ⟨sb, 9, none⟩ = some (.slice saKp snKp scKp) := by simp [World.cell?, hob7]); (have f9 : w5.frozen? ⟨sb, 9, none⟩ = false := by simp [World.frozen?, hob7]); (have y10 : w5.cell? ⟨sb, 10, none⟩ = some (.slice saLs snLs scLs) := by simp [World.cell?, hob7]); (have f10 : w5.frozen? ⟨sb, 10, none⟩ = false := by simp [World.frozen?, hob7]); (have y11 : w5.cell? ⟨sb, 11, none⟩ = some (.slice saMs snMs scMs) := by simp [World.cell?, hob7]); (have f11 : w5.frozen? ⟨sb, 11, none⟩ = false := by simp [World.frozen?, hob7]); (have hN := HT.out.next (v' := .slice (some ⟨lg, lo, none⟩) 0 0) (ls' := []) (left' := left - 1) HRr.out hb5 HQ.out.2.1 hO (hE.trans HQ.out.2.2) (fun e => if_pos e)); obtain ⟨⟨qaDe, qnDe, qcDe, qhDe⟩, ⟨qaIn, qnIn, qcIn, qhIn⟩, ⟨qaTk, qnTk, qcTk, qhTk⟩, ⟨qaJb, qnJb, qcJb, qhJb⟩, ⟨qaTm, qnTm, qcTm, qhTm⟩, ⟨qaSb, qnSb, qcSb, qhSb⟩, ⟨qaKp, qnKp, qcKp, qhKp⟩, ⟨qaLs, qnLs, qcLs, qhLs⟩, ⟨qaMs, qnMs, qcMs, qhMs⟩⟩ := St.slices hO; obtain ⟨qpos, qdone, qmade, qvDe, qlDe, qvIn, qlIn, qvTk, qlTk, qvJb, qlJb, qvTm, qlTm, qvSb, qlSb, qvKp, qlKp, qvLs, qlLs, qvMs, qlMs⟩ := t5; simp only at qhDe qhIn qhTk qhJb qhTm qhSb qhKp qhLs qhMs; subst qhDe qhIn qhTk qhJb qhTm qhSb qhKp qhLs qhMs; simp only [St.c] at hN ⊢; unfold set12 at hN; (have HN : Hid _ := hN); clear hO hE hb hob7 hb5 hN CS))
            gi_wp2
            go_roundw
            case rel => exact ⟨[], now, left - 1, rfl, rfl, by omega, by omega, HN.out⟩
            case measure => first | (simp [lenV, intOf]; done) | (simp [lenV, intOf]; omega)
          · gi_wp2_with ((refine ⟨trivial, ?_⟩; gi_at_call 13; refine (callsIn_wide.2 C2).mono ?_; rintro e w3 ⟨a, c, k1, rfl, h1, h2, h3, h4⟩; obtain ⟨⟨bb, rfl, z5, z3⟩, hwk3, hb3, hs3⟩ := ACT.out a c k1 w3 h1 h3 h2 h4; obtain ⟨p2, d2, h2⟩ := h2; (have H3 : Hid (Wk wr.heap.size w3 g k1 ∧ Below wr.heap.size wr w3 ∧ wr.heap.size ≤ w3.heap.size) := ⟨hwk3, hb3, hs3⟩); (have CS := State_any hwk3 (sz_T h2)); (have HE1 : Hid (k1.s.e = eT p2 d2 s (jR left [119] un)) := h2); (have c0 := HC0.out w3 (HT.out.bel.trans (hb3.mono HT.out.bel.size))); clear h1 h2 h3 h4 hwk3 hb3 hs3 C2))
            gi_wp2_with ((refine ⟨trivial, ?_⟩; gi_at_call 23; refine (callsIn_wide.2 CS).mono ?_; rintro e w5 ⟨t5, rfl, hO, hE, hb⟩; (have CB2 := Begin_any (Own.sv hO) (sz_T (hE.trans HE1.out)) 0 2 un); (have HE5 : Hid (t5.e = eT p2 d2 s (jR left [119] un)) := hE.trans HE1.out); (have HB5 : Hid (Below wr.heap.size wr w5 ∧ wr.heap.size ≤ w5.heap.size) := ⟨H3.out.2.1.trans (hb.mono H3.out.2.2), Nat.le_trans H3.out.2.2 hb.size⟩); obtain ⟨⟨qaDe, qnDe, qcDe, qhDe⟩, ⟨qaIn, qnIn, qcIn, qhIn⟩, ⟨qaTk, qnTk, qcTk, qhTk⟩, ⟨qaJb, qnJb, qcJb, qhJb⟩, ⟨qaTm, qnTm, qcTm, qhTm⟩, ⟨qaSb, qnSb, qcSb, qhSb⟩, ⟨qaKp, qnKp, qcKp, qhKp⟩, ⟨qaLs, qnLs, qcLs, qhLs⟩, ⟨qaMs, qnMs, qcMs, qhMs⟩⟩ := St.slices hO; obtain ⟨qpos, qdone, qmade, qvDe, qlDe, qvIn, qlIn, qvTk, qlTk, qvJb, qlJb, qvTm, qlTm, qvSb, qlSb, qvKp, qlKp, qvLs, qlLs, qvMs, qlMs⟩ := t5; simp only at qhDe qhIn qhTk qhJb qhTm qhSb qhKp qhLs qhMs; subst qhDe qhIn qhTk qhJb qhTm qhSb qhKp qhLs qhMs; simp only [St.c] at CB2 ⊢; clear hO hE hb CS))
            gi_wp2_with ((refine ⟨trivial, ?_⟩; gi_at_call 10; refine (callsIn_wide.2 CB2).mono ?_; rintro e w6 ⟨g6, t6, rfl, hE, hW, hb⟩; (have CL := turn_late (k := ⟨t6, 0, 2, un, .slice none 0 0, []⟩) hW hb.size (hE.trans HE5.out) (Nat.zero_le _)); (have HB6 : Hid (Below wr.heap.size wr w6 ∧ wr.heap.size ≤ w6.heap.size ∧ Wk w5.heap.size w6 g6 ⟨t6, 0, 2, un, .slice none 0 0, []⟩ ∧ w5.heap.size ≤ w6.heap.size) := ⟨HB5.out.1.trans (hb.mono HB5.out.2), Nat.le_trans HB5.out.2 hb.size, hW, hb.size⟩); clear hE hW hb CB2))
            gi_wp2_with ((refine ⟨trivial, ?_⟩; gi_at_call 18; refine (callsIn_wide.2 CL).mono ?_; rintro e w4 ⟨rfl, k2, q1, p3, d3, q2⟩; (have HQ : Hid (Below wr.heap.size wr w4 ∧ wr.heap.size ≤ w4.heap.size ∧ k2.s.e = eT p3 d3 s (jR left [] 0)) := ⟨HB6.out.1.trans ((q1.bel HB6.out.2.2.1 HB6.out.2.2.2).mono HB5.out.2), Nat.le_trans HB6.out.2.1 q1.ch.size, q2⟩); (have CS := State_any q1.wk (sz_T q2)); clear q1 q2 CL))
            clear HE5 HB5 HE1
            gi_wp2_with ((refine ⟨trivial, ?_⟩; gi_at_call 23; refine (callsIn_wide.2 CS).mono ?_; rintro e w5 ⟨t5, rfl, hO, hE, hb⟩; (have hb5 : Below wr.heap.size wr w5 := HQ.out.1.trans (hb.mono HQ.out.2.1)); (have hob7 := HOb.out w5 hb5); (have y0 : w5.cell? ⟨sb, 0, none⟩ = some (.int .u64 (spos : Int)) := by simp [World.cell?, hob7]); (have f0 : w5.frozen? ⟨sb, 0, none⟩ = false := by simp [World.frozen?, hob7]); (have y1 : w5.cell? ⟨sb, 1, none⟩ = some (.int .u64 (sdone : Int)) := by simp [World.cell?, hob7]); (have f1 : w5.frozen? ⟨sb, 1, none⟩ = false := by simp [World.frozen?, hob7]); (have y2 : w5.cell? ⟨sb, 2, none⟩ = some (.int .u64 (smade : Int)) := by simp [World.cell?, hob7]); (have f2 : w5.frozen? ⟨sb, 2, none⟩ = false := by simp [World.frozen?, hob7]); (have y3 : w5.cell? ⟨sb, 3, none⟩ = some (.slice saDe snDe scDe) := by simp [World.cell?, hob7]); (have f3 : w5.frozen? ⟨sb, 3, none⟩ = false := by simp [World.frozen?, hob7]); (have y4 : w5.cell? ⟨sb, 4, none⟩ = some (.slice saIn snIn scIn) := by simp [World.cell?, hob7]); (have f4 : w5.frozen? ⟨sb, 4, none⟩ = false := by simp [World.frozen?, hob7]); (have y5 : w5.cell? ⟨sb, 5, none⟩ = some (.slice saTk snTk scTk) := by simp [World.cell?, hob7]); (have f5 : w5.frozen? ⟨sb, 5, none⟩ = false := by simp [World.frozen?, hob7]); (have y6 : w5.cell? ⟨sb, 6, none⟩ = some (.slice saJb snJb scJb) := by simp [World.cell?, hob7]); (have f6 : w5.frozen? ⟨sb, 6, none⟩ = false := by simp [World.frozen?, hob7]); (have y7 : w5.cell? ⟨sb, 7, none⟩ = some (.slice saTm snTm scTm) := by simp [World.cell?, hob7]); (have f7 : w5.frozen? ⟨sb, 7, none⟩ = false := by simp [World.frozen?, hob7]); (have y8 : w5.cell? ⟨sb, 8, none⟩ = some (.slice saSb snSb scSb) := by simp [World.cell?, hob7]); (have f8 : w5.frozen? ⟨sb, 8, none⟩ = false := by simp [World.frozen?, hob7]); (have y9 : w5.cell? ⟨sb, 9, none⟩ = some (.slice saKp snKp scKp) := by simp [World.cell?, hob7]); (have f9 : w5.frozen? ⟨sb, 9, none⟩ = false := by simp [World.frozen?, hob7]); (have y10 : w5.cell? ⟨sb, 10, none⟩ = some (.slice saLs snLs scLs) := by simp [World.cell?, hob7]); (have f10 : w5.frozen? ⟨sb, 10, none⟩ = false := by simp [World.frozen?, hob7]); (have y11 : w5.cell? ⟨sb, 11, none⟩ = some (.slice saMs snMs scMs) := by simp [World.cell?, hob7]); (have f11 : w5.frozen? ⟨sb, 11, none⟩ = false := by simp [World.frozen?, hob7]); (have hN := HT.out.next (v' := .slice (some ⟨lg, lo, none⟩) 0 0) (ls' := []) (left' := left) HRr.out hb5 HQ.out.2.1 hO (hE.trans HQ.out.2.2) (fun e => absurd e (by omega))); obtain ⟨⟨qaDe, qnDe, qcDe, qhDe⟩, ⟨qaIn, qnIn, qcIn, qhIn⟩, ⟨qaTk, qnTk, qcTk, qhTk⟩, ⟨qaJb, qnJb, qcJb, qhJb⟩, ⟨qaTm, qnTm, qcTm, qhTm⟩, ⟨qaSb, qnSb, qcSb, qhSb⟩, ⟨qaKp, qnKp, qcKp, qhKp⟩, ⟨qaLs, qnLs, qcLs, qhLs⟩, ⟨qaMs, qnMs, qcMs, qhMs⟩⟩ := St.slices hO; obtain ⟨qpos, qdone, qmade, qvDe, qlDe, qvIn, qlIn, qvTk, qlTk, qvJb, qlJb, qvTm, qlTm, qvSb, qlSb, qvKp, qlKp, qvLs, qlLs, qvMs, qlMs⟩ := t5; simp only at qhDe qhIn qhTk qhJb qhTm qhSb qhKp qhLs qhMs; subst qhDe qhIn qhTk qhJb qhTm qhSb qhKp qhLs qhMs; simp only [St.c] at hN ⊢; unfold set12 at hN; (have HN : Hid _ := hN); clear hO hE hb hob7 hb5 hN CS))
            gi_wp2
            go_roundw
            case rel => exact ⟨[], un, left, rfl, rfl, by omega, by omega, HN.out⟩
            case measure => first | (simp [lenV, intOf]; done) | (simp [lenV, intOf]; omega)
        · have hlc2 : ¬ lc - 1 = 0 := by omega
          cases b
          · gi_wp2_with ((refine ⟨trivial, ?_⟩; gi_at_call 13; refine (callsIn_wide.2 C2).mono ?_; rintro e w3 ⟨a, c, k1, rfl, h1, h2, h3, h4⟩; obtain ⟨⟨bb, rfl, z5, z3⟩, hwk3, hb3, hs3⟩ := ACT.out a c k1 w3 h1 h3 h2 h4; obtain ⟨p2, d2, h2⟩ := h2; (have H3 : Hid (Wk wr.heap.size w3 g k1 ∧ Below wr.heap.size wr w3 ∧ wr.heap.size ≤ w3.heap.size) := ⟨hwk3, hb3, hs3⟩); (have CF := turn_fail (n := left - 1) hwk3 hs3 h2 (by omega) (by omega) (by omega)); (have c0 := HC0.out w3 (HT.out.bel.trans (hb3.mono HT.out.bel.size))); clear h1 h2 h3 h4 hwk3 hb3 hs3 C2))
            gi_wp2_with ((refine ⟨trivial, ?_⟩; gi_at_call 16; refine (callsIn_wide.2 CF).mono ?_; rintro e w4 ⟨rfl, k2, q1, p3, d3, q2⟩; (have HQ : Hid (Below wr.heap.size wr w4 ∧ wr.heap.size ≤ w4.heap.size ∧ k2.s.e = eT p3 d3 (if left - 1 = 0 then [106, 111, 98] else s) (jR (left - 1) [] 0)) := ⟨H3.out.2.1.trans (q1.bel H3.out.1 H3.out.2.2), Nat.le_trans H3.out.2.2 q1.ch.size, q2⟩); (have CS := State_any q1.wk (sz_T q2)); clear q1 q2 CF))
            gi_wp2_with ((refine ⟨trivial, ?_⟩; gi_at_call 23; refine (callsIn_wide.2 CS).mono ?_; rintro e w5 ⟨t5, rfl, hO, hE, hb⟩; (have hb5 : Below wr.heap.size wr w5 := HQ.out.1.trans (hb.mono HQ.out.2.1)); (have hob7 := HOb.out w5 hb5); (have y0 : w5.cell? ⟨sb, 0, none⟩ = some (.int .u64 (spos : Int)) := by simp [World.cell?, hob7]); (have f0 : w5.frozen? ⟨sb, 0, none⟩ = false := by simp [World.frozen?, hob7]); (have y1 : w5.cell? ⟨sb, 1, none⟩ = some (.int .u64 (sdone : Int)) := by simp [World.cell?, hob7]); (have f1 : w5.frozen? ⟨sb, 1, none⟩ = false := by simp [World.frozen?, hob7]); (have y2 : w5.cell? ⟨sb, 2, none⟩ = some (.int .u64 (smade : Int)) := by simp [World.cell?, hob7]); (have f2 : w5.frozen? ⟨sb, 2, none⟩ = false := by simp [World.frozen?, hob7]); (have y3 : w5.cell? ⟨sb, 3, none⟩ = some (.slice saDe snDe scDe) := by simp [World.cell?, hob7]); (have f3 : w5.frozen? ⟨sb, 3, none⟩ = false := by simp [World.frozen?, hob7]); (have y4 : w5.cell? ⟨sb, 4, none⟩ = some (.slice saIn snIn scIn) := by simp [World.cell?, hob7]); (have f4 : w5.frozen? ⟨sb, 4, none⟩ = false := by simp [World.frozen?, hob7]); (have y5 : w5.cell? ⟨sb, 5, none⟩ = some (.slice saTk snTk scTk) := by simp [World.cell?, hob7]); (have f5 : w5.frozen? ⟨sb, 5, none⟩ = false := by simp [World.frozen?, hob7]); (have y6 : w5.cell? ⟨sb, 6, none⟩ = some (.slice saJb snJb scJb) := by simp [World.cell?, hob7]); (have f6 : w5.frozen? ⟨sb, 6, none⟩ = false := by simp [World.frozen?, hob7]); (have y7 : w5.cell? ⟨sb, 7, none⟩ = some (.slice saTm snTm scTm) := by simp [World.cell?, hob7]); (have f7 : w5.frozen? ⟨sb, 7, none⟩ = false := by simp [World.frozen?, hob7]); (have y8 : w5.cell? ⟨sb, 8, none⟩ = some (.slice saSb snSb scSb) := by simp [World.cell?, hob7]); (have f8 : w5.frozen? ⟨sb, 8, none⟩ = false := by simp [World.frozen?, hob7]); (have y9 : w5.cell? ⟨sb, 9, none⟩ = some (.slice saKp snKp scKp) := by simp [World.cell?, hob7]); (have f9 : w5.frozen? ⟨sb, 9, none⟩ = false := by simp [World.frozen?, hob7]); (have y10 : w5.cell? ⟨sb, 10, none⟩ = some (.slice saLs snLs scLs) := by simp [World.cell?, hob7]); (have f10 : w5.frozen? ⟨sb, 10, none⟩ = false := by simp [World.frozen?, hob7]); (have y11 : w5.cell? ⟨sb, 11, none⟩ = some (.slice saMs snMs scMs) := by simp [World.cell?, hob7]); (have f11 : w5.frozen? ⟨sb, 11, none⟩ = false := by simp [World.frozen?, hob7]); (have hN := HT.out.next (v' := .slice (some ⟨lg, lo + 1, none⟩) ls'.length (lc - 1)) (ls' := ls') (left' := left - 1) HRr.out hb5 HQ.out.2.1 hO (hE.trans HQ.out.2.2) (fun e => if_pos e)); obtain ⟨⟨qaDe, qnDe, qcDe, qhDe⟩, ⟨qaIn, qnIn, qcIn, qhIn⟩, ⟨qaTk, qnTk, qcTk, qhTk⟩, ⟨qaJb, qnJb, qcJb, qhJb⟩, ⟨qaTm, qnTm, qcTm, qhTm⟩, ⟨qaSb, qnSb, qcSb, qhSb⟩, ⟨qaKp, qnKp, qcKp, qhKp⟩, ⟨qaLs, qnLs, qcLs, qhLs⟩, ⟨qaMs, qnMs, qcMs, qhMs⟩⟩ := St.slices hO; obtain ⟨qpos, qdone, qmade, qvDe, qlDe, qvIn, qlIn, qvTk, qlTk, qvJb, qlJb, qvTm, qlTm, qvSb, qlSb, qvKp, qlKp, qvLs, qlLs, qvMs, qlMs⟩ := t5; simp only at qhDe qhIn qhTk qhJb qhTm qhSb qhKp qhLs qhMs; subst qhDe qhIn qhTk qhJb qhTm qhSb qhKp qhLs qhMs; simp only [St.c] at hN ⊢; unfold set12 at hN; (have HN : Hid _ := hN); clear hO hE hb hob7 hb5 hN CS))
            gi_wp2
            go_roundw
            case rel => exact ⟨ls', now, left - 1, rfl, rfl, by omega, by omega, HN.out⟩
            case measure => first | (simp [lenV, intOf]; done) | (simp [lenV, intOf]; omega)
          · gi_wp2_with ((refine ⟨trivial, ?_⟩; gi_at_call 13; refine (callsIn_wide.2 C2).mono ?_; rintro e w3 ⟨a, c, k1, rfl, h1, h2, h3, h4⟩; obtain ⟨⟨bb, rfl, z5, z3⟩, hwk3, hb3, hs3⟩ := ACT.out a c k1 w3 h1 h3 h2 h4; obtain ⟨p2, d2, h2⟩ := h2; (have H3 : Hid (Wk wr.heap.size w3 g k1 ∧ Below wr.heap.size wr w3 ∧ wr.heap.size ≤ w3.heap.size) := ⟨hwk3, hb3, hs3⟩); (have CS := State_any hwk3 (sz_T h2)); (have HE1 : Hid (k1.s.e = eT p2 d2 s (jR left [119] un)) := h2); (have c0 := HC0.out w3 (HT.out.bel.trans (hb3.mono HT.out.bel.size))); clear h1 h2 h3 h4 hwk3 hb3 hs3 C2))
            gi_wp2_with ((refine ⟨trivial, ?_⟩; gi_at_call 23; refine (callsIn_wide.2 CS).mono ?_; rintro e w5 ⟨t5, rfl, hO, hE, hb⟩; (have CB2 := Begin_any (Own.sv hO) (sz_T (hE.trans HE1.out)) 0 2 un); (have HE5 : Hid (t5.e = eT p2 d2 s (jR left [119] un)) := hE.trans HE1.out); (have HB5 : Hid (Below wr.heap.size wr w5 ∧ wr.heap.size ≤ w5.heap.size) := ⟨H3.out.2.1.trans (hb.mono H3.out.2.2), Nat.le_trans H3.out.2.2 hb.size⟩); obtain ⟨⟨qaDe, qnDe, qcDe, qhDe⟩, ⟨qaIn, qnIn, qcIn, qhIn⟩, ⟨qaTk, qnTk, qcTk, qhTk⟩, ⟨qaJb, qnJb, qcJb, qhJb⟩, ⟨qaTm, qnTm, qcTm, qhTm⟩, ⟨qaSb, qnSb, qcSb, qhSb⟩, ⟨qaKp, qnKp, qcKp, qhKp⟩, ⟨qaLs, qnLs, qcLs, qhLs⟩, ⟨qaMs, qnMs, qcMs, qhMs⟩⟩ := St.slices hO; obtain ⟨qpos, qdone, qmade, qvDe, qlDe, qvIn, qlIn, qvTk, qlTk, qvJb, qlJb, qvTm, qlTm, qvSb, qlSb, qvKp, qlKp, qvLs, qlLs, qvMs, qlMs⟩ := t5; simp only at qhDe qhIn qhTk qhJb qhTm qhSb qhKp qhLs qhMs; subst qhDe qhIn qhTk qhJb qhTm qhSb qhKp qhLs qhMs; simp only [St.c] at CB2 ⊢; clear hO hE hb CS))
            gi_wp2_with ((refine ⟨trivial, ?_⟩; gi_at_call 10; refine (callsIn_wide.2 CB2).mono ?_; rintro e w6 ⟨g6, t6, rfl, hE, hW, hb⟩; (have CL := turn_late (k := ⟨t6, 0, 2, un, .slice none 0 0, []⟩) hW hb.size (hE.trans HE5.out) (Nat.zero_le _)); (have HB6 : Hid (Below wr.heap.size wr w6 ∧ wr.heap.size ≤ w6.heap.size ∧ Wk w5.heap.size w6 g6 ⟨t6, 0, 2, un, .slice none 0 0, []⟩ ∧ w5.heap.size ≤ w6.heap.size) := ⟨HB5.out.1.trans (hb.mono HB5.out.2), Nat.le_trans HB5.out.2 hb.size, hW, hb.size⟩); clear hE hW hb CB2))
            gi_wp2_with ((refine ⟨trivial, ?_⟩; gi_at_call 18; refine (callsIn_wide.2 CL).mono ?_; rintro e w4 ⟨rfl, k2, q1, p3, d3, q2⟩; (have HQ : Hid (Below wr.heap.size wr w4 ∧ wr.heap.size ≤ w4.heap.size ∧ k2.s.e = eT p3 d3 s (jR left [] 0)) := ⟨HB6.out.1.trans ((q1.bel HB6.out.2.2.1 HB6.out.2.2.2).mono HB5.out.2), Nat.le_trans HB6.out.2.1 q1.ch.size, q2⟩); (have CS := State_any q1.wk (sz_T q2)); clear q1 q2 CL))
            clear HE5 HB5 HE1
            gi_wp2_with ((refine ⟨trivial, ?_⟩; gi_at_call 23; refine (callsIn_wide.2 CS).mono ?_; rintro e w5 ⟨t5, rfl, hO, hE, hb⟩; (have hb5 : Below wr.heap.size wr w5 := HQ.out.1.trans (hb.mono HQ.out.2.1)); (have hob7 := HOb.out w5 hb5); (have y0 : w5.cell? ⟨sb, 0, none⟩ = some (.int .u64 (spos : Int)) := by simp [World.cell?, hob7]); (have f0 : w5.frozen? ⟨sb, 0, none⟩ = false := by simp [World.frozen?, hob7]); (have y1 : w5.cell? ⟨sb, 1, none⟩ = some (.int .u64 (sdone : Int)) := by simp [World.cell?, hob7]); (have f1 : w5.frozen? ⟨sb, 1, none⟩ = false := by simp [World.frozen?, hob7]); (have y2 : w5.cell? ⟨sb, 2, none⟩ = some (.int .u64 (smade : Int)) := by simp [World.cell?, hob7]); (have f2 : w5.frozen? ⟨sb, 2, none⟩ = false := by simp [World.frozen?, hob7]); (have y3 : w5.cell? ⟨sb, 3, none⟩ = some (.slice saDe snDe scDe) := by simp [World.cell?, hob7]); (have f3 : w5.frozen? ⟨sb, 3, none⟩ = false := by simp [World.frozen?, hob7]); (have y4 : w5.cell? ⟨sb, 4, none⟩ = some (.slice saIn snIn scIn) := by simp [World.cell?, hob7]); (have f4 : w5.frozen? ⟨sb, 4, none⟩ = false := by simp [World.frozen?, hob7]); (have y5 : w5.cell? ⟨sb, 5, none⟩ = some (.slice saTk snTk scTk) := by simp [World.cell?, hob7]); (have f5 : w5.frozen? ⟨sb, 5, none⟩ = false := by simp [World.frozen?, hob7]); (have y6 : w5.cell? ⟨sb, 6, none⟩ = some (.slice saJb snJb scJb) := by simp [World.cell?, hob7]); (have f6 : w5.frozen? ⟨sb, 6, none⟩ = false := by simp [World.frozen?, hob7]); (have y7 : w5.cell? ⟨sb, 7, none⟩ = some (.slice saTm snTm scTm) := by simp [World.cell?, hob7]); (have f7 : w5.frozen? ⟨sb, 7, none⟩ = false := by simp [World.frozen?, hob7]); (have y8 : w5.cell? ⟨sb, 8, none⟩ = some (.slice saSb snSb scSb) := by simp [World.cell?, hob7]); (have f8 : w5.frozen? ⟨sb, 8, none⟩ = false := by simp [World.frozen?, hob7]); (have y9 : w5.cell? ⟨sb, 9, none⟩ = some (.slice saKp snKp scKp) := by simp [World.cell?, hob7]); (have f9 : w5.frozen? ⟨sb, 9, none⟩ = false := by simp [World.frozen?, hob7]); (have y10 : w5.cell? ⟨sb, 10, none⟩ = some (.slice saLs snLs scLs) := by simp [World.cell?, hob7]); (have f10 : w5.frozen? ⟨sb, 10, none⟩ = false := by simp [World.frozen?, hob7]); (have y11 : w5.cell? ⟨sb, 11, none⟩ = some (.slice saMs snMs scMs) := by simp [World.cell?, hob7]); (have f11 : w5.frozen? ⟨sb, 11, none⟩ = false := by simp [World.frozen?, hob7]); (have hN := HT.out.next (v' := .slice (some ⟨lg, lo + 1, none⟩) ls'.length (lc - 1)) (ls' := ls') (left' := left) HRr.out hb5 HQ.out.2.1 hO (hE.trans HQ.out.2.2) (fun e => absurd e (by omega))); obtain ⟨⟨qaDe, qnDe, qcDe, qhDe⟩, ⟨qaIn, qnIn, qcIn, qhIn⟩, ⟨qaTk, qnTk, qcTk, qhTk⟩, ⟨qaJb, qnJb, qcJb, qhJb⟩, ⟨qaTm, qnTm, qcTm, qhTm⟩, ⟨qaSb, qnSb, qcSb, qhSb⟩, ⟨qaKp, qnKp, qcKp, qhKp⟩, ⟨qaLs, qnLs, qcLs, qhLs⟩, ⟨qaMs, qnMs, qcMs, qhMs⟩⟩ := St.slices hO; obtain ⟨qpos, qdone, qmade, qvDe, qlDe, qvIn, qlIn, qvTk, qlTk, qvJb, qlJb, qvTm, qlTm, qvSb, qlSb, qvKp, qlKp, qvLs, qlLs, qvMs, qlMs⟩ := t5; simp only at qhDe qhIn qhTk qhJb qhTm qhSb qhKp qhLs qhMs; subst qhDe qhIn qhTk qhJb qhTm qhSb qhKp qhLs qhMs; simp only [St.c] at hN ⊢; unfold set12 at hN; (have HN : Hid _ := hN); clear hO hE hb hob7 hb5 hN CS))
            gi_wp2
            go_roundw
            case rel => exact ⟨ls', un, left, rfl, rfl, by omega, by omega, HN.out⟩
            case measure => first | (simp [lenV, intOf]; done) | (simp [lenV, intOf]; omega)
    · obtain rfl : left = 0 := by omega
      obtain ⟨t, p, d, s, hob, hsv, hte, hst⟩ := HT.out.st
      obtain rfl := hst rfl
      have hsz := sz_T hte
      have hsbl := (Array.getElem?_eq_some_iff.1 hob).1
      have CB := Begin_any hsv hsz 0 9 now
      have HTE : Hid (t.e = eT p d [106, 111, 98] (jR 0 [] 0)) := hte
      have htk : t.tokens = [tR [106, 111, 98]] := show t.e.tokens = _ by rw [hte]; rfl
      have hrt := hsv.rTk
      rw [htk] at hrt
      obtain ⟨tb, toff, tcap, htv, htc, htl, hcell⟩ := hrt.at (i := 0) (by simp)
      have HTk : Hid (∀ W, Below wr.heap.size wr W → W.cell? ⟨tb, toff + 5, none⟩ = some (.string ⟨#[106, 111, 98]⟩)) := fun W hW => by
        have := hcell W hW 0 (by simp) 5 _ rfl
        have h2 : W.cell? ⟨tb, toff + 5, none⟩ = some (.string (S (tR [106, 111, 98]).stuck)) := by simpa using this
        exact h2
      have hsl := Sv.slices hsv
      clear hsv hst hsz hte htk hrt hcell
      obtain ⟨⟨saDe, snDe, scDe, shDe⟩, ⟨saIn, snIn, scIn, shIn⟩, ⟨saTk, snTk, scTk, shTk⟩, ⟨saJb, snJb, scJb, shJb⟩, ⟨saTm, snTm, scTm, shTm⟩, ⟨saSb, snSb, scSb, shSb⟩, ⟨saKp, snKp, scKp, shKp⟩, ⟨saLs, snLs, scLs, shLs⟩, ⟨saMs, snMs, scMs, shMs⟩⟩ := hsl
      obtain ⟨spos, sdone, smade, svDe, slDe, svIn, slIn, svTk, slTk, svJb, slJb, svTm, slTm, svSb, slSb, svKp, slKp, svLs, slLs, svMs, slMs⟩ := t
      simp only at shDe shIn shTk shJb shTm shSb shKp shLs shMs
      subst shDe shIn shTk shJb shTm shSb shKp shLs shMs
      simp only [St.c] at CB hob htv
      obtain ⟨rfl, rfl, rfl⟩ : saTk = some ⟨tb, toff, none⟩ ∧ snTk = 1 ∧ scTk = tcap := by
        injection htv with e1 e2 e3
        exact ⟨e1, by simpa using e2, e3⟩
      have x0 : wr.cell? ⟨sb, 0, none⟩ = some (.int .u64 (spos : Int)) := by simp [World.cell?, hob]
      have x1 : wr.cell? ⟨sb, 1, none⟩ = some (.int .u64 (sdone : Int)) := by simp [World.cell?, hob]
      have x2 : wr.cell? ⟨sb, 2, none⟩ = some (.int .u64 (smade : Int)) := by simp [World.cell?, hob]
      have x3 : wr.cell? ⟨sb, 3, none⟩ = some (.slice saDe snDe scDe) := by simp [World.cell?, hob]
      have x4 : wr.cell? ⟨sb, 4, none⟩ = some (.slice saIn snIn scIn) := by simp [World.cell?, hob]
      have x5 : wr.cell? ⟨sb, 5, none⟩ = some (.slice (some ⟨tb, toff, none⟩) 1 scTk) := by simp [World.cell?, hob]
      have x6 : wr.cell? ⟨sb, 6, none⟩ = some (.slice saJb snJb scJb) := by simp [World.cell?, hob]
      have x7 : wr.cell? ⟨sb, 7, none⟩ = some (.slice saTm snTm scTm) := by simp [World.cell?, hob]
      have x8 : wr.cell? ⟨sb, 8, none⟩ = some (.slice saSb snSb scSb) := by simp [World.cell?, hob]
      have x9 : wr.cell? ⟨sb, 9, none⟩ = some (.slice saKp snKp scKp) := by simp [World.cell?, hob]
      have x10 : wr.cell? ⟨sb, 10, none⟩ = some (.slice saLs snLs scLs) := by simp [World.cell?, hob]
      have x11 : wr.cell? ⟨sb, 11, none⟩ = some (.slice saMs snMs scMs) := by simp [World.cell?, hob]
      have HC5 : Hid (∀ W, Below wr.heap.size wr W → W.cell? ⟨sb, 5, none⟩ = some (.slice (some ⟨tb, toff, none⟩) 1 scTk)) := fun W hW => (hW.cell (p := ⟨sb, 5, none⟩) hsbl).trans x5
      clear hob hsbl htv
      gi_wp2_with ((refine ⟨trivial, ?_⟩; gi_at_call 10; refine (callsIn_wide.2 CB).mono ?_; rintro e w2 ⟨g, t2, rfl, hE, hW, hb⟩; (have H2 : Hid (Below wr.heap.size wr w2) := hb); (have C2 := turn_none hW hb.size (hE.trans HTE.out) rfl HW.out.1 HW.out.2.1); clear hE hW hb CB))
      gi_wp2_with ((refine ⟨trivial, ?_⟩; gi_at_call 13; refine (callsIn_wide.2 C2).mono ?_; rintro e w3 ⟨a, c, rfl, hb⟩; (have hb3 : Below wr.heap.size wr w3 := H2.out.trans hb); (have c5 := HC5.out w3 hb3); (have c6 := HTk.out w3 hb3); (have H3 : Hid (Below wr.heap.size wr w3) := hb3); clear hb hb3 C2))
      refine bodyPost_ret (results_tmp rfl _ _ _) rfl ?_
      exact ⟨by simp, HT.out.bel.trans (H3.out.mono HT.out.bel.size)⟩
end Go.Proofs.YtbegpbaklagcpaaGreat.f13

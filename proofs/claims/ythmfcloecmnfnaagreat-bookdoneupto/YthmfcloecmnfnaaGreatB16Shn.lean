/-
  The document's example: it comes out as it is said.
-/
import Derived.Test.YthmfcloecmnfnaaGreatB16Act
import Derived.Test.YthmfcloecmnfnaaGreatB16Lat
namespace Go.Proofs.YthmfcloecmnfnaaGreat.f13
open Go.RowKit Go.Shelf Go.Sort
open Go.Lib hiding intOf

open Go.Proofs.YthmfcloecmnfnaaGreat
def jA : Jb := ⟨2, 1, [112, 97, 121], 3, [], 0⟩
def jT : Jb := ⟨2, 1, [112, 97, 121], 3, [119], 110⟩
def tA : Tk := ⟨1, 0, 0, 0, 0, []⟩
def eA (p d : Nat) (l : List Jb) : St := ⟨p, d, 0, .slice none 0 0, [], .slice none 0 0, [], .slice none 0 0, [tA], .slice none 0 0, l, .slice none 0 0, [], .slice none 0 0, [], .slice none 0 0, [], .slice none 0 0, [], .slice none 0 0, []⟩
def sA (n : Nat) : St := ⟨0, 0, 0, .slice none 0 0, [], .slice none 0 0, [], .slice (some ⟨n, 0, none⟩) 1 1, [tA], .slice (some ⟨n + 1, 0, none⟩) 1 1, [jA], .slice none 0 0, [], .slice none 0 0, [], .slice none 0 0, [], .slice none 0 0, [], .slice none 0 0, []⟩
theorem sA_e (n : Nat) : (sA n).e = eA 0 0 [jA] := rfl
theorem Rr.single {α : Type} {k : Nat} {c : α → List Value} {W : World} {b : Nat} {t : TypeId} {x : α} (h : W.heap[b]? = some (.cells (c x).toArray t (0, 0))) : Rr k c W (.slice (some ⟨b, 0, none⟩) 1 1) [x] := by
  refine ⟨_, 1, rfl, ⟨Nat.le_refl _, fun e => by cases e⟩, .inr ⟨b, 0, rfl, (Array.getElem?_eq_some_iff.1 h).1, fun j hj i u hu => ?_⟩⟩
  obtain rfl : j = 0 := by simp at hj; omega
  simp only [List.getElem_cons_zero] at hu
  simp only [World.cell?, h, Nat.zero_add, Nat.zero_mul]
  simpa using hu
theorem sz_A {t : St} {p d : Nat} {l : List Jb} (h : t.e = eA p d l) (hl : l.length ≤ 1) : Sz t := by
  refine Sz.of_e' ?_
  rw [h]
  refine ⟨by show 0 * 32 ≤ _; decide, by show 0 * 48 ≤ _; decide, by show 1 * 56 ≤ _; decide, by show l.length * 64 ≤ _; omega, by show 0 * 24 ≤ _; decide, by show 0 * 64 ≤ _; decide, by show 0 * 24 ≤ _; decide, by show 0 * 88 ≤ _; decide, by show 0 * 112 ≤ _; decide, ?_, ?_, ?_, ?_⟩ <;> intro x hx <;> exact absurd hx List.not_mem_nil
theorem jobs_A {t : St} {p d : Nat} {l : List Jb} (h : t.e = eA p d l) : t.jobs = l := show t.e.jobs = l by rw [h]; rfl
theorem act_A : actS 1 [119] 110 (eA 0 0 [jA]) [(jA, 0)] = eA 1 1 [jT] := by kernel_rfl
theorem rdy_A : (rdyT [112, 97, 121] [jA] [jA].length).take (5 : Int).toNat = [(jA, 0)] := by kernel_rfl
theorem rdy_T : (rdyT [112, 97, 121] [jT] [jT].length).take (5 : Int).toNat = [] := by kernel_rfl
theorem nx_T : nx (eA 1 1 [jT]) 1 = eA 2 1 [jT] := by kernel_rfl
theorem wrap_A : IntKind.i64.wrap ((100 : Int) + 10) = 110 := by kernel_rfl
theorem late_A {k : Wo} (h : k.s.jobs = [jT]) (hn : k.nw = 109) : lateE k 2 = 12 := by unfold lateE; rw [h, hn]; rfl
theorem late_B {k : Wo} (h : k.s.jobs = [jT]) (hn : k.nw = 110) : lateE k 2 = 0 := by unfold lateE; rw [h, hn]; rfl
/-- the first one gets the job -/
theorem first_A {B : Nat} {w : World} {g : Nat} {k : Wo} (h : Wk B w g k) (hB : B ≤ w.heap.size) (hs : k.s.e = eA 0 0 [jA]) (hn : k.nw = 100) (hp : k.ps = 1) (hl : k.el.length = 0) :
    Calls Tryz.prog 14 #[.pointer (some ⟨g, 0, none⟩), .string ⟨#[112, 97, 121]⟩, .string ⟨#[119]⟩, .int .i64 5, .int .i64 10] w fun e w' => ∃ (a : Option Addr) (c : Nat) (k' : Wo), e = .returned (.tuple #[.slice a 1 c, .int .i64 0]) ∧ Wkr B w g k k' w' ∧ k'.s.e = eA 1 1 [jT] ∧ k'.el.length = 1 ∧ w'.ownsRow w.heap.size 46 6 (.slice a 1 c) 1 (Jb.c jT) ∧ (∀ b, (Value.slice a 1 c).ownBlock = some b → ¬ k'.has g b) := by
  refine (act_yes (kind := [112, 97, 121]) (wk := [119]) (mo := 5) (wt := 10) h hB (sz_A hs (Nat.le_refl _)) (by rw [hl]; decide) (by kernel_rfl) (by kernel_rfl) (by decide) (by decide) (by decide) (by decide)).mono ?_
  rintro e w' ⟨gv, k', rfl, h1, h2, h3, h4, h5⟩
  rw [jobs_A hs, rdy_A, hn, wrap_A] at h3 h4
  obtain ⟨a, c, rfl, -⟩ := row_slice h4
  refine ⟨a, c, k', rfl, h1, ?_, ?_, by simpa [actJ, jA, jT] using h4, h5⟩
  · rw [h3.st, hs, hp]; exact act_A
  · have := congrArg List.length h3.el
    simpa [hl] using this
/-- then there is none -/
theorem second_A {B : Nat} {w : World} {g : Nat} {k : Wo} (h : Wk B w g k) (hB : B ≤ w.heap.size) (hs : k.s.e = eA 1 1 [jT]) (hp : k.ps = 1) (hl : k.el.length = 1) :
    Calls Tryz.prog 14 #[.pointer (some ⟨g, 0, none⟩), .string ⟨#[112, 97, 121]⟩, .string ⟨#[119]⟩, .int .i64 5, .int .i64 10] w fun e w' => ∃ (a : Option Addr) (c : Nat) (k' : Wo), e = .returned (.tuple #[.slice a 0 c, .int .i64 0]) ∧ Wkr B w g k k' w' ∧ k'.s.e = eA 2 1 [jT] := by
  refine (act_yes (kind := [112, 97, 121]) (wk := [119]) (mo := 5) (wt := 10) h hB (sz_A hs (Nat.le_refl _)) (by rw [hl]; decide) (by kernel_rfl) (by kernel_rfl) (by decide) (by decide) (by decide) (by decide)).mono ?_
  rintro e w' ⟨gv, k', rfl, h1, h2, h3, h4, h5⟩
  rw [jobs_A hs, rdy_T] at h3 h4
  obtain ⟨a, c, rfl, -⟩ := row_slice h4
  refine ⟨a, c, k', rfl, h1, ?_⟩
  rw [h3.st, hs, hp]; exact nx_T

theorem hel0 : ((([] : List Rc).length + 1) + (([] : List Rc).length + 1) / 4 + 192) * 144 ≤ 281474976710656 := of_decide_eq_true (by kernel_rfl)
theorem lateA {B : Nat} {w : World} {g : Nat} {t : St} {nw er : Int} (h : Wk B w g ⟨t, 0, 2, nw, .slice none 0 0, []⟩) (hB : B ≤ w.heap.size) (he : t.e = eA 2 1 [jT]) (hr : lateE ⟨t, 0, 2, nw, .slice none 0 0, []⟩ 2 = er) :
    Calls Tryz.prog 17 #[.pointer (some ⟨g, 0, none⟩), .int .u64 2] w fun e w' => e = .returned (.int .i64 er) ∧ Below B w w' := by
  refine (Late_any (k := ⟨t, 0, 2, nw, .slice none 0 0, []⟩) 2 h hB (sz_A he (Nat.le_refl _)) hel0).mono ?_
  rintro e w' ⟨rfl, hh⟩
  rw [hr]
  refine ⟨rfl, ?_⟩
  rcases hh with ⟨-, hb⟩ | ⟨-, k', hk, -⟩
  · exact hb.mono hB
  · exact hk.ch.below hB (fun y hy e => by
      rcases e with e | e
      · have := h.lt.1; omega
      · cases e)
theorem Wkr.bel {B : Nat} {w : World} {g : Nat} {k k' : Wo} {w' : World} (h : Wkr B w g k k' w') (hk : Wk B w g k) (hB : B ≤ w.heap.size) : Below B w w' :=
  h.ch.below hB (fun y hy e => by
    rcases e with e | e
    · have := hk.lt.1; omega
    · have := (hk.has_lt (Wo.has_ev e)).1; omega)
theorem row_one {W : World} {B c : Nat} {a : Option Addr} (h : W.ownsRow B 46 6 (.slice a 1 c) 1 (Jb.c jT)) : ∃ bb, a = some ⟨bb, 0, none⟩ ∧ W.cell? ⟨bb, 4, none⟩ = some (.string ⟨#[119]⟩) ∧ W.cell? ⟨bb, 5, none⟩ = some (.int .i64 110) := by
  rcases h.2 with ⟨e, h0⟩ | ⟨g, cap', cur, e, -⟩
  · cases h0
  · cases e
    exact ⟨g, rfl, row_cell h rfl, row_cell h rfl⟩
set_option maxHeartbeats 8000000 in
set_option maxRecDepth 100000 in
theorem shown_any (w : World) : Calls Tryz.prog 6 #[] w fun e w' => e = .returned (.bool true) ∧ Below w.heap.size w w' := by
  obtain ⟨W3, hW3⟩ : ∃ W3, (((w.alloc (.cells #[.int .u64 1, .int .u64 0, .int .u64 0, .int .i64 0, .int .i64 0, .string ⟨#[]⟩] 66)).alloc (.cells #[.int .u64 2, .int .u64 1, .string ⟨#[112, 97, 121]⟩, .int .i64 3, .string ⟨#[]⟩, .int .i64 0] 46)).alloc (.cells #[.int .u64 0, .int .u64 0, .int .u64 0, .slice none 0 0, .slice none 0 0, .slice (some ⟨w.heap.size, 0, none⟩) 1 1, .slice (some ⟨w.heap.size + 1, 0, none⟩) 1 1, .slice none 0 0, .slice none 0 0, .slice none 0 0, .slice none 0 0, .slice none 0 0] 33)) = W3 := ⟨_, rfl⟩
  have hb3 : Below w.heap.size w W3 := by rw [← hW3]; exact (((Below.refl _ w).alloc (Nat.le_refl _) _).alloc (by simp) _).alloc (by simp; omega) _
  have hs3 : W3.heap.size = w.heap.size + 3 := by rw [← hW3]; simp
  have ho1 : W3.heap[w.heap.size]? = some (.cells (Tk.c tA).toArray 66 (0, 0)) := by
    rw [← hW3]
    exact (Below.heap_alloc _ _ _ (by simp; omega)).trans ((Below.heap_alloc _ _ _ (by simp)).trans (heap_alloc_new w _))
  have ho2 : W3.heap[w.heap.size + 1]? = some (.cells (Jb.c jA).toArray 46 (0, 0)) := by
    rw [← hW3]
    have := heap_alloc_new (w.alloc (.cells #[.int .u64 1, .int .u64 0, .int .u64 0, .int .i64 0, .int .i64 0, .string ⟨#[]⟩] 66)) (.cells #[.int .u64 2, .int .u64 1, .string ⟨#[112, 97, 121]⟩, .int .i64 3, .string ⟨#[]⟩, .int .i64 0] 46)
    rw [World.size_alloc] at this
    exact (Below.heap_alloc _ _ _ (by simp)).trans this
  have ho3 : W3.heap[w.heap.size + 1 + 1]? = some (.cells #[.int .u64 0, .int .u64 0, .int .u64 0, .slice none 0 0, .slice none 0 0, .slice (some ⟨w.heap.size, 0, none⟩) 1 1, .slice (some ⟨w.heap.size + 1, 0, none⟩) 1 1, .slice none 0 0, .slice none 0 0, .slice none 0 0, .slice none 0 0, .slice none 0 0] 33 (0, 0)) := by
    rw [← hW3]
    have := heap_alloc_new ((w.alloc (.cells #[.int .u64 1, .int .u64 0, .int .u64 0, .int .i64 0, .int .i64 0, .string ⟨#[]⟩] 66)).alloc (.cells #[.int .u64 2, .int .u64 1, .string ⟨#[112, 97, 121]⟩, .int .i64 3, .string ⟨#[]⟩, .int .i64 0] 46)) (.cells #[.int .u64 0, .int .u64 0, .int .u64 0, .slice none 0 0, .slice none 0 0, .slice (some ⟨w.heap.size, 0, none⟩) 1 1, .slice (some ⟨w.heap.size + 1, 0, none⟩) 1 1, .slice none 0 0, .slice none 0 0, .slice none 0 0, .slice none 0 0, .slice none 0 0] 33)
    rw [World.size_alloc, World.size_alloc] at this
    exact this
  have hsv : Sv W3 (sA w.heap.size) := ⟨Rr.nil _, Rr.nil _, Rr.single ho1, Rr.single ho2, Rr.nil _, Rr.nil _, Rr.nil _, Rr.nil _, Rr.nil _, fun _ hx => absurd hx List.not_mem_nil, fun _ hx => absurd hx List.not_mem_nil, fun _ hx => absurd hx List.not_mem_nil, fun _ hx => absurd hx List.not_mem_nil⟩
  have CB := Begin_any hsv (sz_A (sA_e w.heap.size) (Nat.le_refl _)) 0 1 100
  simp only [St.c, sA] at CB
  have x0 : W3.cell? ⟨w.heap.size + 1 + 1, 0, none⟩ = some (.int .u64 0) := by simp [World.cell?, ho3]
  have x1 : W3.cell? ⟨w.heap.size + 1 + 1, 1, none⟩ = some (.int .u64 0) := by simp [World.cell?, ho3]
  have x2 : W3.cell? ⟨w.heap.size + 1 + 1, 2, none⟩ = some (.int .u64 0) := by simp [World.cell?, ho3]
  have x3 : W3.cell? ⟨w.heap.size + 1 + 1, 3, none⟩ = some (.slice none 0 0) := by simp [World.cell?, ho3]
  have x4 : W3.cell? ⟨w.heap.size + 1 + 1, 4, none⟩ = some (.slice none 0 0) := by simp [World.cell?, ho3]
  have x5 : W3.cell? ⟨w.heap.size + 1 + 1, 5, none⟩ = some (.slice (some ⟨w.heap.size, 0, none⟩) 1 1) := by simp [World.cell?, ho3]
  have x6 : W3.cell? ⟨w.heap.size + 1 + 1, 6, none⟩ = some (.slice (some ⟨w.heap.size + 1, 0, none⟩) 1 1) := by simp [World.cell?, ho3]
  have x7 : W3.cell? ⟨w.heap.size + 1 + 1, 7, none⟩ = some (.slice none 0 0) := by simp [World.cell?, ho3]
  have x8 : W3.cell? ⟨w.heap.size + 1 + 1, 8, none⟩ = some (.slice none 0 0) := by simp [World.cell?, ho3]
  have x9 : W3.cell? ⟨w.heap.size + 1 + 1, 9, none⟩ = some (.slice none 0 0) := by simp [World.cell?, ho3]
  have x10 : W3.cell? ⟨w.heap.size + 1 + 1, 10, none⟩ = some (.slice none 0 0) := by simp [World.cell?, ho3]
  have x11 : W3.cell? ⟨w.heap.size + 1 + 1, 11, none⟩ = some (.slice none 0 0) := by simp [World.cell?, ho3]
  have HB3 : Hid (Below w.heap.size w W3 ∧ w.heap.size ≤ W3.heap.size) := ⟨hb3, hb3.size⟩
  have HW3 : Hid (_ = W3) := hW3
  clear hb3 hs3 ho1 ho2 ho3 hsv hW3 x0 x1 x2 x3 x4 x5 x6 x7 x8 x9 x10 x11
  refine (callsIn_wide (n := 9)).1 ?_
  refine callsIn_of_wp Tryz.func6 rfl trivial ?_ rfl
  simp only [Tryz.ntmps6, List.size_toArray, List.length_nil, Nat.reduceSub, Array.replicate_succ, Array.replicate_zero, List.push_toArray, List.append_toArray, List.nil_append, List.cons_append]
  gi_wp2_with ((refine ⟨trivial, ?_⟩; gi_at_call 12; rw [HW3.out]; refine (callsIn_wide.2 CB).mono ?_; rintro e w1 ⟨g, t, rfl, hE, hW, hb⟩; (have H1 : Hid (Wk W3.heap.size w1 g ⟨t, 0, 1, 100, .slice none 0 0, []⟩ ∧ Below w.heap.size w w1 ∧ W3.heap.size ≤ w1.heap.size) := ⟨hW, HB3.out.1.trans (hb.mono HB3.out.2), hb.size⟩); (have C2 := first_A hW hb.size hE rfl rfl rfl); clear hE hW hb CB))
  gi_wp2_with ((refine ⟨trivial, ?_⟩; gi_at_call 14; refine (callsIn_wide.2 C2).mono ?_; rintro e w2 ⟨a, c, k1, rfl, h1, h2, h3, h4, h5⟩; (have hl12 : w1.heap.size ≤ w2.heap.size := h1.ch.size); (have H2 : Hid (Wk W3.heap.size w2 g k1 ∧ Below w.heap.size w w2 ∧ W3.heap.size ≤ w2.heap.size) := ⟨h1.wk, H1.out.2.1.trans ((h1.bel H1.out.1 H1.out.2.2).mono HB3.out.2), Nat.le_trans H1.out.2.2 hl12⟩); (have HG : Hid (w2.ownsRow w1.heap.size 46 6 (.slice a 1 c) 1 (Jb.c jT) ∧ (∀ b, (Value.slice a 1 c).ownBlock = some b → ¬ k1.has g b)) := ⟨h4, h5⟩); (have C3 := second_A h1.wk (Nat.le_trans H1.out.2.2 hl12) h2 h1.ps h3); clear h1 h2 h3 h4 h5 hl12 C2))
  gi_wp2_with ((refine ⟨trivial, ?_⟩; gi_at_call 14; refine (callsIn_wide.2 C3).mono ?_; rintro e w3 ⟨a3, c3, k2, rfl, q1, q2⟩; (have hl23 : w2.heap.size ≤ w3.heap.size := q1.ch.size); (have H3 : Hid (Wk W3.heap.size w3 g k2 ∧ Below w.heap.size w w3 ∧ k2.s.e = eA 2 1 [jT] ∧ W3.heap.size ≤ w3.heap.size) := ⟨q1.wk, H2.out.2.1.trans ((q1.bel H2.out.1 H2.out.2.2).mono HB3.out.2), q2, Nat.le_trans H2.out.2.2 hl23⟩); (have HG3 : Hid (w3.ownsRow w1.heap.size 46 6 (.slice a 1 c) 1 (Jb.c jT)) := q1.ch.row HG.out.1 (fun y hy e => e.elim (fun e => HG.out.2 y hy (e ▸ k1.has_g g)) (fun e => HG.out.2 y hy (Wo.has_ev e)))); (have C4 : Hid (∀ W, Below w3.heap.size w3 W → _) := fun W hb => State_any (q1.wk.up hb) (sz_A q2 (Nat.le_refl _))); clear q1 q2 hl23 C3))
  gi_wp2_with ((refine ⟨trivial, ?_⟩; gi_at_call 13; refine (callsIn_wide.2 (C4.out _ (Below.refl _ _))).mono ?_; rintro e w4 ⟨t4, rfl, hO, hE, hb⟩; (have CB := Begin_any (Own.sv hO) (sz_A (hE.trans H3.out.2.2.1) (Nat.le_refl _)) 0 2 109); (have HE4 : Hid (t4.e = eA 2 1 [jT]) := hE.trans H3.out.2.2.1); (have hbb : Below w3.heap.size w3 w4 := bel_of (Below.refl _ _) hb (Nat.le_refl _)); (have HB4 : Hid (Below w3.heap.size w3 w4) := hbb); obtain ⟨⟨u4aDe, u4nDe, u4cDe, u4hDe⟩, ⟨u4aIn, u4nIn, u4cIn, u4hIn⟩, ⟨u4aTk, u4nTk, u4cTk, u4hTk⟩, ⟨u4aJb, u4nJb, u4cJb, u4hJb⟩, ⟨u4aTm, u4nTm, u4cTm, u4hTm⟩, ⟨u4aSb, u4nSb, u4cSb, u4hSb⟩, ⟨u4aKp, u4nKp, u4cKp, u4hKp⟩, ⟨u4aLs, u4nLs, u4cLs, u4hLs⟩, ⟨u4aMs, u4nMs, u4cMs, u4hMs⟩⟩ := St.slices hO; obtain ⟨u4pos, u4done, u4made, u4vDe, u4lDe, u4vIn, u4lIn, u4vTk, u4lTk, u4vJb, u4lJb, u4vTm, u4lTm, u4vSb, u4lSb, u4vKp, u4lKp, u4vLs, u4lLs, u4vMs, u4lMs⟩ := t4; simp only at u4hDe u4hIn u4hTk u4hJb u4hTm u4hSb u4hKp u4hLs u4hMs; subst u4hDe u4hIn u4hTk u4hJb u4hTm u4hSb u4hKp u4hLs u4hMs; simp only [St.c] at CB ⊢; clear hO hE hb hbb))
  gi_wp2_with ((refine ⟨trivial, ?_⟩; gi_at_call 12; refine (callsIn_wide.2 CB).mono ?_; rintro e w5 ⟨g4, t4, rfl, hE, hW, hb⟩; (have hE2 : t4.e = eA 2 1 [jT] := hE.trans HE4.out); (have CL := lateA hW hb.size hE2 (late_A (jobs_A hE2) rfl)); (have HB4b : Hid (Below w3.heap.size w3 w5 ∧ w4.heap.size ≤ w5.heap.size) := ⟨bel_of HB4.out hb (Nat.le_refl _), hb.size⟩); clear hE hW hb hE2 CB))
  gi_wp2_with ((refine ⟨trivial, ?_⟩; gi_at_call 17; refine (callsIn_wide.2 CL).mono ?_; rintro e w6 ⟨rfl, hb⟩; (have hbb : Below w3.heap.size w3 w6 := HB4b.out.1.trans (hb.mono (HB4.out.size))); (have HB6 : Hid (Below w3.heap.size w3 w6) := hbb); clear hbb; clear hb CL))
  gi_wp2_with ((refine ⟨trivial, ?_⟩; gi_at_call 13; refine (callsIn_wide.2 (C4.out _ HB6.out)).mono ?_; rintro e w7 ⟨t7, rfl, hO, hE, hb⟩; (have CB := Begin_any (Own.sv hO) (sz_A (hE.trans H3.out.2.2.1) (Nat.le_refl _)) 0 2 110); (have HE7 : Hid (t7.e = eA 2 1 [jT]) := hE.trans H3.out.2.2.1); (have hbb : Below w3.heap.size w3 w7 := bel_of HB6.out hb (Nat.le_refl _)); (have HB7 : Hid (Below w3.heap.size w3 w7) := hbb); obtain ⟨⟨u7aDe, u7nDe, u7cDe, u7hDe⟩, ⟨u7aIn, u7nIn, u7cIn, u7hIn⟩, ⟨u7aTk, u7nTk, u7cTk, u7hTk⟩, ⟨u7aJb, u7nJb, u7cJb, u7hJb⟩, ⟨u7aTm, u7nTm, u7cTm, u7hTm⟩, ⟨u7aSb, u7nSb, u7cSb, u7hSb⟩, ⟨u7aKp, u7nKp, u7cKp, u7hKp⟩, ⟨u7aLs, u7nLs, u7cLs, u7hLs⟩, ⟨u7aMs, u7nMs, u7cMs, u7hMs⟩⟩ := St.slices hO; obtain ⟨u7pos, u7done, u7made, u7vDe, u7lDe, u7vIn, u7lIn, u7vTk, u7lTk, u7vJb, u7lJb, u7vTm, u7lTm, u7vSb, u7lSb, u7vKp, u7lKp, u7vLs, u7lLs, u7vMs, u7lMs⟩ := t7; simp only at u7hDe u7hIn u7hTk u7hJb u7hTm u7hSb u7hKp u7hLs u7hMs; subst u7hDe u7hIn u7hTk u7hJb u7hTm u7hSb u7hKp u7hLs u7hMs; simp only [St.c] at CB ⊢; clear hO hE hb hbb))
  gi_wp2_with ((refine ⟨trivial, ?_⟩; gi_at_call 12; refine (callsIn_wide.2 CB).mono ?_; rintro e w8 ⟨g7, t7, rfl, hE, hW, hb⟩; (have hE2 : t7.e = eA 2 1 [jT] := hE.trans HE7.out); (have CL := lateA hW hb.size hE2 (late_B (jobs_A hE2) rfl)); (have HB7b : Hid (Below w3.heap.size w3 w8 ∧ w7.heap.size ≤ w8.heap.size) := ⟨bel_of HB7.out hb (Nat.le_refl _), hb.size⟩); clear hE hW hb hE2 CB))
  gi_wp2_with ((refine ⟨trivial, ?_⟩; gi_at_call 17; refine (callsIn_wide.2 CL).mono ?_; rintro e w9 ⟨rfl, hb⟩; (have hbb : Below w3.heap.size w3 w9 := HB7b.out.1.trans (hb.mono (HB7.out.size))); (have HB9 : Hid (Below w3.heap.size w3 w9) := hbb); (have hrow9 := (Ch.of_below (X := fun _ => False) hbb).row HG3.out (fun _ _ e => e)); obtain ⟨bb, rfl, z4, z5⟩ := row_one hrow9; clear hrow9 hbb; clear hb CL))
  have e1 : ((⟨#[119]⟩ : ByteArray).toList == (⟨#[119]⟩ : ByteArray).toList) = true := by simp
  gi_wp2
  refine bodyPost_ret (results_tmp rfl _ _ _) rfl ?_
  exact ⟨rfl, H3.out.2.1.trans (HB9.out.mono (Nat.le_trans HB3.out.2 H3.out.2.2.2))⟩
end Go.Proofs.YthmfcloecmnfnaaGreat.f13

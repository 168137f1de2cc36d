/-
  A job that goes from worker to worker: what each call makes of a state of one token, one job.
-/
import Derived.Test.YtbegpbaklagcpaaGreatB16Fai
import Derived.Test.YtbegpbaklagcpaaGreatB16Shn
namespace Go.Proofs.YtbegpbaklagcpaaGreat.f13
open Go.RowKit Go.Shelf Go.Sort
open Go.Lib hiding intOf

open Go.Proofs.YtbegpbaklagcpaaGreat
def jR (left : Int) (wk : List UInt8) (un : Int) : Jb := ⟨2, 1, [112, 97, 121], left, wk, un⟩
def tR (st : List UInt8) : Tk := ⟨1, 0, 0, 0, 0, st⟩
def eT (p d : Nat) (st : List UInt8) (j : Jb) : St := ⟨p, d, 0, .slice none 0 0, [], .slice none 0 0, [], .slice none 0 0, [tR st], .slice none 0 0, [j], .slice none 0 0, [], .slice none 0 0, [], .slice none 0 0, [], .slice none 0 0, [], .slice none 0 0, []⟩
theorem sz_T {t : St} {p d : Nat} {st : List UInt8} {j : Jb} (h : t.e = eT p d st j) : Sz t := by
  refine Sz.of_e' ?_
  rw [h]
  refine ⟨by show 0 * 32 ≤ _; decide, by show 0 * 48 ≤ _; decide, by show 1 * 56 ≤ _; decide, by show 1 * 64 ≤ _; decide, by show 0 * 24 ≤ _; decide, by show 0 * 64 ≤ _; decide, by show 0 * 24 ≤ _; decide, by show 0 * 88 ≤ _; decide, by show 0 * 112 ≤ _; decide, ?_, ?_, ?_, ?_⟩ <;> intro x hx <;> exact absurd hx List.not_mem_nil
theorem jobs_T {t : St} {p d : Nat} {st : List UInt8} {j : Jb} (h : t.e = eT p d st j) : t.jobs = [j] := show t.e.jobs = [j] by rw [h]; rfl
theorem hel33 {k : Wo} (h : k.el.length ≤ 1) : ((k.el.length + 33) + (k.el.length + 33) / 4 + 192) * 144 ≤ 281474976710656 := by
  have : k.el.length = 0 ∨ k.el.length = 1 := by omega
  rcases this with e | e <;> rw [e] <;> decide
theorem hel01 {k : Wo} (h : k.el.length ≤ 1) : ((k.el.length + 1) + (k.el.length + 1) / 4 + 192) * 144 ≤ 281474976710656 := by
  have : k.el.length = 0 ∨ k.el.length = 1 := by omega
  rcases this with e | e <;> rw [e] <;> decide
theorem rdy_yes {left : Int} (h : 0 < left) : (rdyT [112, 97, 121] [jR left [] 0] [jR left [] 0].length).take (9 : Int).toNat = [(jR left [] 0, 0)] := by
  have : rdyq [112, 97, 121] (jR left [] 0) = true := by simp [rdyq, jR, h]
  simp [rdyT, List.zipIdx_cons, this]
theorem rdy_none : (rdyT [112, 97, 121] [jR 0 [] 0] [jR 0 [] 0].length).take (9 : Int).toNat = [] := by kernel_rfl
theorem act_T (p d ps : Nat) (st : List UInt8) (left un : Int) : actS ps [119] un (eT p d st (jR left [] 0)) [(jR left [] 0, 0)] = eT (up1 p) (max d ps) st (jR left [119] un) := by rfl
theorem back_T (p d ps : Nat) (st : List UInt8) (left un n : Int) (r : Rc) (h1 : r.k1 = 2) (h2 : r.n = n) : eBack (nx (eT p d st (jR left [119] un)) ps) r = eT (up1 p) (max d ps) st (jR n [] 0) := by
  unfold eBack
  rw [h1, h2]
  rfl
theorem stuck_T (p d ps : Nat) (st : List UInt8) (j : Jb) (r : Rc) (h1 : r.k1 = 1) (h2 : r.a = [106, 111, 98]) : eStuck (nx (eT p d st j) ps) r = eT (up1 p) (max d ps) [106, 111, 98] j := by
  unfold eStuck
  rw [h1, h2]
  rfl
theorem tkn_T (left un : Int) : tkn [jR left [119] un] 2 = (jR left [119] un, 0) := by rfl
theorem turn_act {B : Nat} {w : World} {g : Nat} {k : Wo} {p d : Nat} {st : List UInt8} {left wt : Int} (h : Wk B w g k) (hB : B ≤ w.heap.size) (hs : k.s.e = eT p d st (jR left [] 0)) (hl : k.el.length = 0) (hle : 0 < left) (h1 : 1 ≤ wt) (h2 : wt ≤ 1048576) :
    Calls Tryz.prog 13 #[.pointer (some ⟨g, 0, none⟩), .string ⟨#[112, 97, 121]⟩, .string ⟨#[119]⟩, .int .i64 9, .int .i64 wt] w fun e w' => ∃ (a : Option Addr) (c : Nat) (k' : Wo), e = .returned (.tuple #[.slice a 1 c, .int .i64 0]) ∧ Wkr B w g k k' w' ∧ (∃ p d, k'.s.e = eT p d st (jR left [119] (IntKind.i64.wrap (k.nw + wt)))) ∧ k'.el.length = 1 ∧ w'.ownsRow w.heap.size 70 6 (.slice a 1 c) 1 (Jb.c (jR left [119] (IntKind.i64.wrap (k.nw + wt)))) := by
  refine (act_yes (kind := [112, 97, 121]) (wk := [119]) (mo := 9) (wt := wt) h hB (sz_T hs) (hel33 (by omega)) (by kernel_rfl) (by kernel_rfl) (by decide) (by decide) h1 h2).mono ?_
  rintro e w' ⟨gv, k', rfl, q1, q2, q3, q4, q5⟩
  rw [jobs_T hs, rdy_yes hle] at q3 q4
  obtain ⟨a, c, rfl, -⟩ := row_slice q4
  refine ⟨a, c, k', rfl, q1, ⟨up1 p, max d k.ps, ?_⟩, ?_, by simpa [actJ, jR] using q4⟩
  · rw [q3.st, hs]; exact act_T p d k.ps st left _
  · have := congrArg List.length q3.el
    simpa [hl] using this
theorem turn_none {B : Nat} {w : World} {g : Nat} {k : Wo} {p d : Nat} {st : List UInt8} {wt : Int} (h : Wk B w g k) (hB : B ≤ w.heap.size) (hs : k.s.e = eT p d st (jR 0 [] 0)) (hl : k.el.length = 0) (h1 : 1 ≤ wt) (h2 : wt ≤ 1048576) :
    Calls Tryz.prog 13 #[.pointer (some ⟨g, 0, none⟩), .string ⟨#[112, 97, 121]⟩, .string ⟨#[119]⟩, .int .i64 9, .int .i64 wt] w fun e w' => ∃ (a : Option Addr) (c : Nat), e = .returned (.tuple #[.slice a 0 c, .int .i64 0]) ∧ Below B w w' := by
  refine (act_yes (kind := [112, 97, 121]) (wk := [119]) (mo := 9) (wt := wt) h hB (sz_T hs) (hel33 (by omega)) (by kernel_rfl) (by kernel_rfl) (by decide) (by decide) h1 h2).mono ?_
  rintro e w' ⟨gv, k', rfl, q1, q2, q3, q4, q5⟩
  rw [jobs_T hs, rdy_none] at q4
  obtain ⟨a, c, rfl, -⟩ := row_slice q4
  exact ⟨a, c, rfl, q1.bel h hB⟩
/-- one who fails -/
theorem turn_fail {B : Nat} {w : World} {g : Nat} {k : Wo} {p d : Nat} {st : List UInt8} {left un n : Int} (h : Wk B w g k) (hB : B ≤ w.heap.size) (hs : k.s.e = eT p d st (jR left [119] un)) (hl : k.el.length ≤ 1) (h0 : 0 ≤ n) (h9 : n ≤ 9) :
    Calls Tryz.prog 16 #[.pointer (some ⟨g, 0, none⟩), .int .u64 2, .int .i64 n] w fun e w' => e = .returned (.int .i64 0) ∧ ∃ k' : Wo, Wkr B w g k k' w' ∧ ∃ p d, k'.s.e = eT p d (if n = 0 then [106, 111, 98] else st) (jR n [] 0) := by
  by_cases hn : n = 0
  · subst hn
    refine (fail_last 2 h hB (sz_T hs) (hel33 hl) (by rw [jobs_T hs]; exact tkn_T left un)).mono ?_
    rintro e w' ⟨rfl, k', q1, q2, -⟩
    refine ⟨rfl, k', q1, up1 (up1 p), max (max d k.ps) k.ps, ?_⟩
    rw [q2, hs, if_pos rfl, back_T p d k.ps st left un 0 _ rfl rfl]
    exact stuck_T _ _ _ st _ _ rfl rfl
  · refine (fail_some 2 h hB (sz_T hs) (hel01 hl) ⟨h0, h9⟩ hn (by rw [jobs_T hs]; exact tkn_T left un)).mono ?_
    rintro e w' ⟨rfl, k', q1, q2, -⟩
    refine ⟨rfl, k', q1, up1 p, max d k.ps, ?_⟩
    rw [q2, hs, if_neg hn]
    exact back_T p d k.ps st left un n _ rfl rfl
/-- one who is late -/
theorem turn_late {B : Nat} {w : World} {g : Nat} {k : Wo} {p d : Nat} {st : List UInt8} {left : Int} (h : Wk B w g k) (hB : B ≤ w.heap.size) (hs : k.s.e = eT p d st (jR left [119] k.nw)) (hl : k.el.length ≤ 1) :
    Calls Tryz.prog 18 #[.pointer (some ⟨g, 0, none⟩), .int .u64 2] w fun e w' => e = .returned (.int .i64 0) ∧ ∃ k' : Wo, Wkr B w g k k' w' ∧ ∃ p d, k'.s.e = eT p d st (jR left [] 0) := by
  have hr : lateE k 2 = 0 := by
    unfold lateE
    rw [jobs_T hs, tkn_T]
    simp [jR]
  refine (Late_any 2 h hB (sz_T hs) (hel01 hl)).mono ?_
  rintro e w' ⟨rfl, hh⟩
  rw [hr]
  rcases hh with ⟨e, -⟩ | ⟨-, k', q1, q2, -⟩
  · exact absurd hr e
  · refine ⟨rfl, k', q1, up1 p, max d k.ps, ?_⟩
    have e2 : lateR k 2 = ⟨0, 8, 0, 0, 2, 0, 0, left, 0, [], [], [], .slice none 0 0, []⟩ := by unfold lateR; rw [jobs_T hs, tkn_T]; rfl
    rw [q2, e2]
    have := back_T p d k.ps st left k.nw left ⟨0, 8, 0, 0, 2, 0, 0, left, 0, [], [], [], .slice none 0 0, []⟩ rfl rfl
    rw [← hs] at this
    exact this
end Go.Proofs.YtbegpbaklagcpaaGreat.f13

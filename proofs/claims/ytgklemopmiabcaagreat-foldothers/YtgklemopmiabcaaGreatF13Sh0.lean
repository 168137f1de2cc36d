/-
  The document's example, as the statements run it.
-/
import Derived.Test.YtgklemopmiabcaaGreatF13Tk2
namespace Go.Proofs.YtgklemopmiabcaaGreat.f13
open Go.RowKit Go.Shelf Go.Sort
open Go.Lib hiding intOf

theorem Sz.of_e {s : St} (h : Sz s.e) : Sz s := by
  refine ⟨h.nDe, by simpa [St.e] using h.nIn, h.nTk, h.nJb, h.nTm, h.nSb, h.nKp, by simpa [St.e] using h.nLs, by simpa [St.e] using h.nMs, fun x hx => ?_, fun x hx => ?_, fun x hx => ?_, fun x hx => ?_⟩
  · exact h.mIn x.e (List.mem_map_of_mem hx)
  · exact h.mLs x.e (List.mem_map_of_mem hx)
  · exact h.mMs x.e (List.mem_map_of_mem hx)
  · exact h.kMs x.e (List.mem_map_of_mem hx)
def s0 : St := ⟨0, 0, 0, .slice none 0 0, [], .slice none 0 0, [], .slice none 0 0, [], .slice none 0 0, [], .slice none 0 0, [], .slice none 0 0, [], .slice none 0 0, [], .slice none 0 0, [], .slice none 0 0, []⟩
theorem s0_sv (w : World) : Sv w s0 := ⟨Rr.nil w, Rr.nil w, Rr.nil w, Rr.nil w, Rr.nil w, Rr.nil w, Rr.nil w, Rr.nil w, Rr.nil w, fun _ hx => absurd hx List.not_mem_nil, fun _ hx => absurd hx List.not_mem_nil, fun _ hx => absurd hx List.not_mem_nil, fun _ hx => absurd hx List.not_mem_nil⟩
def q1 : Rc := ⟨2, 2, 1, 0, 7, 0, 0, 0, 0, [112], [], [], .slice none 0 0, []⟩
def q2 : Rc := ⟨2, 3, 1, 0, 8, 7, 0, 2, -1, [], [], [], .slice none 0 0, []⟩
def q3 : Rc := ⟨2, 4, 1, 0, 8, 0, 0, 0, 0, [], [], [], .slice none 0 0, []⟩
def T1 : St := ⟨1, 1, 1, .slice none 0 0, [], .slice none 0 0, [⟨7, [112], .slice none 0 0, []⟩], .slice none 0 0, [], .slice none 0 0, [], .slice none 0 0, [], .slice none 0 0, [], .slice none 0 0, [], .slice none 0 0, [], .slice none 0 0, []⟩
def T2 : St := ⟨2, 1, 2, .slice none 0 0, [], .slice none 0 0, [⟨7, [112], .slice none 0 0, []⟩], .slice none 0 0, [⟨8, 7, 0, 2, -1, []⟩], .slice none 0 0, [], .slice none 0 0, [], .slice none 0 0, [], .slice none 0 0, [], .slice none 0 0, [], .slice none 0 0, []⟩
def T3 : St := ⟨3, 1, 2, .slice none 0 0, [], .slice none 0 0, [⟨7, [112], .slice none 0 0, []⟩], .slice none 0 0, [], .slice none 0 0, [], .slice none 0 0, [], .slice none 0 0, [], .slice none 0 0, [], .slice none 0 0, [], .slice none 0 0, []⟩
theorem T1_eq : eBegan { s0.e with pos := 1, done := max s0.done q1.fr } q1 = T1 := by kernel_rfl
theorem T2_eq : eEntered { T1 with pos := 2, done := max 1 q2.fr } q2 = T2 := by kernel_rfl
theorem T3_eq : eLeft { T2 with pos := 3, done := max 1 q3.fr } q3 = T3 := by kernel_rfl
theorem sz_s0 : Sz s0 := by refine ⟨by decide, by decide, by decide, by decide, by decide, by decide, by decide, by decide, by decide, ?_, ?_, ?_, ?_⟩ <;> intro x hx <;> exact absurd hx List.not_mem_nil
theorem sz_T1 : Sz T1 := by
  refine ⟨by decide, by decide, by decide, by decide, by decide, by decide, by decide, by decide, by decide, ?_, ?_, ?_, ?_⟩ <;> intro x hx <;> simp [T1] at hx
  subst hx; decide
theorem sz_T2 : Sz T2 := by
  refine ⟨by decide, by decide, by decide, by decide, by decide, by decide, by decide, by decide, by decide, ?_, ?_, ?_, ?_⟩ <;> intro x hx <;> simp [T2] at hx
  subst hx; decide
theorem A1_any (w : World) : Calls Tryz.prog 11 #[.agg s0.c.toArray, .int .u64 ((1 : Nat) : Int), .agg q1.cs.toArray] w (Apd w T1) :=
  Apply_event 61 eBegan (s0_sv w) sz_s0 (Rr.nil w) ⟨rfl, by decide⟩ (by kernel_rfl) (by kernel_rfl) (enters_of Tryz.func61 (by kernel_rfl) rfl)
    (fun _ _ _ _ hS hB he hr => began_any hS hB (by have := congrArg (fun z => z.insts.length) he; simp only [St.e, s0, List.length_map, List.map_nil, List.length_nil] at this; rw [this]; omega) hr (by decide)) T1_eq.symm
theorem A2_any {w : World} {s : St} (h : Sv w s) (he : s.e = T1) : Calls Tryz.prog 11 #[.agg s.c.toArray, .int .u64 ((2 : Nat) : Int), .agg q2.cs.toArray] w (Apd w T2) := by
  have hd : s.done = 1 := congrArg St.done he
  refine Apply_event 62 eEntered h (Sz.of_e (by rw [he]; exact sz_T1)) (Rr.nil w) ⟨rfl, by decide⟩ (by kernel_rfl) (by kernel_rfl) (enters_of Tryz.func62 (by kernel_rfl) rfl)
    (fun _ _ _ _ hS hB he' hr => entered_any hS hB ?_ hr) ?_
  · have := congrArg (fun z => z.tokens.length) he'
    rw [he] at this
    simp only [St.e, T1, List.length_nil] at this
    rw [this]; omega
  · rw [he, hd]; exact T2_eq.symm
theorem A3_any {w : World} {s : St} (h : Sv w s) (he : s.e = T2) : Calls Tryz.prog 11 #[.agg s.c.toArray, .int .u64 ((3 : Nat) : Int), .agg q3.cs.toArray] w (Apd w T3) := by
  have hd : s.done = 1 := congrArg St.done he
  have aux : ∀ {t : St}, t.e = { s.e with pos := 3, done := max s.done q3.fr } → t.tokens.length = 1 ∧ t.jobs.length = 0 ∧ t.timers.length = 0 ∧ t.subs.length = 0 := by
    intro t he'
    rw [he] at he'
    have h1 := congrArg (fun z => z.tokens.length) he'
    have h2 := congrArg (fun z => z.jobs.length) he'
    have h3 := congrArg (fun z => z.timers.length) he'
    have h4 := congrArg (fun z => z.subs.length) he'
    exact ⟨h1, h2, h3, h4⟩
  refine Apply_event 63 eLeft h (Sz.of_e (by rw [he]; exact sz_T2)) (Rr.nil w) ⟨rfl, by decide⟩ (by kernel_rfl) (by kernel_rfl) (enters_of Tryz.func63 (by kernel_rfl) rfl)
    (fun _ _ _ _ hS hB he' hr => left_any hS hB (by rw [(aux he').1]; omega) (by rw [(aux he').2.1]; omega) (by rw [(aux he').2.2.1]; omega) (by rw [(aux he').2.2.2]; omega) hr) ?_
  rw [he, hd]; exact T3_eq.symm
end Go.Proofs.YtgklemopmiabcaaGreat.f13

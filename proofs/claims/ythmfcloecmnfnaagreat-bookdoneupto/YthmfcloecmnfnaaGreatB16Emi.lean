/-
  Package flow's Emit of a job that is taken, is back, of a token that is stuck, of nothing.
-/
import Derived.Test.YthmfcloecmnfnaaGreatB16Emt
import Derived.Test.YthmfcloecmnfnaaGreatGStk
import Derived.Test.YthmfcloecmnfnaaGreatF13Ap2
namespace Go.Proofs.YthmfcloecmnfnaaGreat.f13
open Go.RowKit Go.Shelf Go.Sort
open Go.Lib hiding intOf

theorem Sz.of_e' {s : St} (h : Sz s.e) : Sz s := by
  refine ⟨h.nDe, by simpa [St.e] using h.nIn, h.nTk, h.nJb, h.nTm, h.nSb, h.nKp, by simpa [St.e] using h.nLs, by simpa [St.e] using h.nMs, fun x hx => ?_, fun x hx => ?_, fun x hx => ?_, fun x hx => ?_⟩
  · exact h.mIn x.e (List.mem_map_of_mem hx)
  · exact h.mLs x.e (List.mem_map_of_mem hx)
  · exact h.mMs x.e (List.mem_map_of_mem hx)
  · exact h.kMs x.e (List.mem_map_of_mem hx)
theorem Sz.to_e' {s : St} (h : Sz s) : Sz s.e := by
  refine ⟨h.nDe, by simpa [St.e] using h.nIn, h.nTk, h.nJb, h.nTm, h.nSb, h.nKp, by simpa [St.e] using h.nLs, by simpa [St.e] using h.nMs, fun x hx => ?_, fun x hx => ?_, fun x hx => ?_, fun x hx => ?_⟩
  · obtain ⟨y, hy, rfl⟩ := List.mem_map.1 hx; exact h.mIn y hy
  · obtain ⟨y, hy, rfl⟩ := List.mem_map.1 hx; exact h.mLs y hy
  · obtain ⟨y, hy, rfl⟩ := List.mem_map.1 hx; exact h.mMs y hy
  · obtain ⟨y, hy, rfl⟩ := List.mem_map.1 hx; exact h.kMs y hy
theorem chgL_len {α : Type} {q : α → Bool} {f : α → α} : ∀ {l : List α}, (chgL q f l).length = l.length
  | [] => rfl
  | x :: t => by unfold chgL; split; · rfl
                 · rw [List.length_cons, List.length_cons, chgL_len]
/-- the sizes hang on how many there are, not on what jobs, tokens say -/
theorem Sz.jt {s t : St} (h : Sz s) {p d : Nat} {jl : List Jb} {tl : List Tk} (he : t.e = { s.e with pos := p, done := d, jobs := jl, tokens := tl }) (hj : jl.length = s.jobs.length) (ht : tl.length = s.tokens.length) : Sz t := by
  refine Sz.of_e' ?_
  rw [he]
  have h' := Sz.to_e' h
  exact ⟨h'.nDe, h'.nIn, by show tl.length * 56 ≤ _; rw [ht]; exact h.nTk, by show jl.length * 64 ≤ _; rw [hj]; exact h.nJb, h'.nTm, h'.nSb, h'.nKp, h'.nLs, h'.nMs, h'.mIn, h'.mLs, h'.mMs, h'.kMs⟩

theorem Emit_7 {B : Nat} {w : World} {g : Nat} {k : Wo} {r : Rc} (h : Wk B w g k) (hB : B ≤ w.heap.size) (hz : Sz k.s) (hr : Rr 4 Vr.c w r.vv r.v) (hn : r.v.length * 48 ≤ 211106232528000) (hel : ((k.el.length + 1) + (k.el.length + 1) / 4 + 192) * 144 ≤ 281474976710656) (hk : r.kd = 7) :
    Calls Tryz.prog 27 #[.pointer (some ⟨g, 0, none⟩), .agg r.cs.toArray] w fun e w' => e = .returned (.tuple #[]) ∧ ∃ (t : St) (ev' v' : Value), t.e = eTaken { k.s.e with pos := up1 k.s.pos, done := max k.s.done k.ps } r ∧ Wk B w' g ⟨t, k.pt, k.ps, k.nw, ev', k.el ++ [{ r with cl := 2, fr := k.ps, tm := k.nw, vv := v' }]⟩ ∧ Ch (fun b => b = g ∨ k.ev.ownBlock = some b) w w' ∧ (∀ b, ev'.ownBlock = some b → k.ev.ownBlock = some b ∨ w.heap.size ≤ b) ∧ (∀ b, Wo.has ⟨t, k.pt, k.ps, k.nw, ev', k.el ++ [{ r with cl := 2, fr := k.ps, tm := k.nw, vv := v' }]⟩ g b → Wo.has k g b ∨ w.heap.size ≤ b) :=
  Emit_any h hB hr hn hel (fun W v' hs hr' => Apply_event 63 eTaken (r := { r with cl := 2, fr := k.ps, tm := k.nw, vv := v' }) hs hz hr' ⟨rfl, by show (-9223372036854775808 : Int) ≤ r.kd ∧ r.kd ≤ 9223372036854775807; rw [hk]; omega⟩ (by show effD.atKey (.int .i64 r.kd) _ = _; rw [hk]; kernel_rfl) (by show Go.Maps.has effD (.int .i64 r.kd) = true; rw [hk]; kernel_rfl) (enters_of Tryz.func63 (by kernel_rfl) rfl)
    (fun _ _ _ _ hS hB' he hr9 => jobTaken_any hS hB' (by have h1 := congrArg (fun z => z.jobs.length) he; simp only [St.e] at h1; have h2 := hz.nJb; omega) hr9) rfl)

theorem Emit_8 {B : Nat} {w : World} {g : Nat} {k : Wo} {r : Rc} (h : Wk B w g k) (hB : B ≤ w.heap.size) (hz : Sz k.s) (hr : Rr 4 Vr.c w r.vv r.v) (hn : r.v.length * 48 ≤ 211106232528000) (hel : ((k.el.length + 1) + (k.el.length + 1) / 4 + 192) * 144 ≤ 281474976710656) (hk : r.kd = 8) :
    Calls Tryz.prog 27 #[.pointer (some ⟨g, 0, none⟩), .agg r.cs.toArray] w fun e w' => e = .returned (.tuple #[]) ∧ ∃ (t : St) (ev' v' : Value), t.e = eBack { k.s.e with pos := up1 k.s.pos, done := max k.s.done k.ps } r ∧ Wk B w' g ⟨t, k.pt, k.ps, k.nw, ev', k.el ++ [{ r with cl := 2, fr := k.ps, tm := k.nw, vv := v' }]⟩ ∧ Ch (fun b => b = g ∨ k.ev.ownBlock = some b) w w' ∧ (∀ b, ev'.ownBlock = some b → k.ev.ownBlock = some b ∨ w.heap.size ≤ b) ∧ (∀ b, Wo.has ⟨t, k.pt, k.ps, k.nw, ev', k.el ++ [{ r with cl := 2, fr := k.ps, tm := k.nw, vv := v' }]⟩ g b → Wo.has k g b ∨ w.heap.size ≤ b) :=
  Emit_any h hB hr hn hel (fun W v' hs hr' => Apply_event 64 eBack (r := { r with cl := 2, fr := k.ps, tm := k.nw, vv := v' }) hs hz hr' ⟨rfl, by show (-9223372036854775808 : Int) ≤ r.kd ∧ r.kd ≤ 9223372036854775807; rw [hk]; omega⟩ (by show effD.atKey (.int .i64 r.kd) _ = _; rw [hk]; kernel_rfl) (by show Go.Maps.has effD (.int .i64 r.kd) = true; rw [hk]; kernel_rfl) (enters_of Tryz.func64 (by kernel_rfl) rfl)
    (fun _ _ _ _ hS hB' he hr9 => jobBack_any hS hB' (by have h1 := congrArg (fun z => z.jobs.length) he; simp only [St.e] at h1; have h2 := hz.nJb; omega) hr9) rfl)

theorem Emit_13 {B : Nat} {w : World} {g : Nat} {k : Wo} {r : Rc} (h : Wk B w g k) (hB : B ≤ w.heap.size) (hz : Sz k.s) (hr : Rr 4 Vr.c w r.vv r.v) (hn : r.v.length * 48 ≤ 211106232528000) (hel : ((k.el.length + 1) + (k.el.length + 1) / 4 + 192) * 144 ≤ 281474976710656) (hk : r.kd = 13) :
    Calls Tryz.prog 27 #[.pointer (some ⟨g, 0, none⟩), .agg r.cs.toArray] w fun e w' => e = .returned (.tuple #[]) ∧ ∃ (t : St) (ev' v' : Value), t.e = eStuck { k.s.e with pos := up1 k.s.pos, done := max k.s.done k.ps } r ∧ Wk B w' g ⟨t, k.pt, k.ps, k.nw, ev', k.el ++ [{ r with cl := 2, fr := k.ps, tm := k.nw, vv := v' }]⟩ ∧ Ch (fun b => b = g ∨ k.ev.ownBlock = some b) w w' ∧ (∀ b, ev'.ownBlock = some b → k.ev.ownBlock = some b ∨ w.heap.size ≤ b) ∧ (∀ b, Wo.has ⟨t, k.pt, k.ps, k.nw, ev', k.el ++ [{ r with cl := 2, fr := k.ps, tm := k.nw, vv := v' }]⟩ g b → Wo.has k g b ∨ w.heap.size ≤ b) :=
  Emit_any h hB hr hn hel (fun W v' hs hr' => Apply_event 69 eStuck (r := { r with cl := 2, fr := k.ps, tm := k.nw, vv := v' }) hs hz hr' ⟨rfl, by show (-9223372036854775808 : Int) ≤ r.kd ∧ r.kd ≤ 9223372036854775807; rw [hk]; omega⟩ (by show effD.atKey (.int .i64 r.kd) _ = _; rw [hk]; kernel_rfl) (by show Go.Maps.has effD (.int .i64 r.kd) = true; rw [hk]; kernel_rfl) (enters_of Tryz.func69 (by kernel_rfl) rfl)
    (fun _ _ _ _ hS hB' he hr9 => stuck_any hS hB' (by have h1 := congrArg (fun z => z.tokens.length) he; simp only [St.e] at h1; have h2 := hz.nTk; omega) hr9) rfl)

theorem Emit_24 {B : Nat} {w : World} {g : Nat} {k : Wo} {r : Rc} (h : Wk B w g k) (hB : B ≤ w.heap.size) (hz : Sz k.s) (hr : Rr 4 Vr.c w r.vv r.v) (hn : r.v.length * 48 ≤ 211106232528000) (hel : ((k.el.length + 1) + (k.el.length + 1) / 4 + 192) * 144 ≤ 281474976710656) (hk : r.kd = 24) :
    Calls Tryz.prog 27 #[.pointer (some ⟨g, 0, none⟩), .agg r.cs.toArray] w fun e w' => e = .returned (.tuple #[]) ∧ ∃ (t : St) (ev' v' : Value), t.e = { k.s.e with pos := up1 k.s.pos, done := max k.s.done k.ps } ∧ Wk B w' g ⟨t, k.pt, k.ps, k.nw, ev', k.el ++ [{ r with cl := 2, fr := k.ps, tm := k.nw, vv := v' }]⟩ ∧ Ch (fun b => b = g ∨ k.ev.ownBlock = some b) w w' ∧ (∀ b, ev'.ownBlock = some b → k.ev.ownBlock = some b ∨ w.heap.size ≤ b) ∧ (∀ b, Wo.has ⟨t, k.pt, k.ps, k.nw, ev', k.el ++ [{ r with cl := 2, fr := k.ps, tm := k.nw, vv := v' }]⟩ g b → Wo.has k g b ∨ w.heap.size ≤ b) :=
  Emit_any h hB hr hn hel (fun W v' hs hr' => Apply_none (r := { r with cl := 2, fr := k.ps, tm := k.nw, vv := v' }) hs hz hr' ⟨rfl, by show (-9223372036854775808 : Int) ≤ r.kd ∧ r.kd ≤ 9223372036854775807; rw [hk]; omega⟩ (by show kinds.contains r.kd = false; rw [hk]; kernel_rfl) rfl)
end Go.Proofs.YthmfcloecmnfnaaGreat.f13

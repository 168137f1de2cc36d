/-
  Package book's Ready.
-/
import Derived.Test.YthmfcloecmnfnaaGreatB16Rdy
import Derived.Test.YthmfcloecmnfnaaGreatB16Beg
import Derived.Test.YthmfcloecmnfnaaGreatF13Own
namespace Go.Proofs.YthmfcloecmnfnaaGreat.f13
open Go.RowKit Go.Shelf Go.Sort
open Go.Lib hiding intOf

open Go.Proofs.YthmfcloecmnfnaaGreat
set_option maxHeartbeats 1000000 in
set_option maxRecDepth 100000 in
theorem cloneJb_any {w : World} {v : Value} {l : List Jb} (h : Rr 6 Jb.c w v l) (hn : l.length * 64 ≤ 211106232528000) :
    Calls Tryz.prog 21 #[v] w fun e w' => ∃ v', e = .returned v' ∧ w'.ownsRow w.heap.size 46 6 v' l.length (l.flatMap Jb.c) ∧ Below w.heap.size w w' := by
  have heq := fun (w : World) a n c => run_eql_slice_nil (P := Tryz.prog) w 26 46 a n c 0 0 Tryz.underlying26
  obtain ⟨a, cap, rfl, hcp, -⟩ := id h
  cases a with
  | none =>
    have hl : l = [] := List.eq_nil_of_length_eq_zero (by have := hcp.1; have := hcp.2 rfl; omega)
    subst hl
    obtain rfl := hcp.2 rfl
    have H2 : Hid (w.ownsRow w.heap.size 46 6 (.slice none 0 0) 0 []) := World.ownsRow_nil w w.heap.size 46 6
    clear h hn hcp
    go_enter Tryz.func21, Tryz.ntmps21
    go_wp2
    go_ret
    exact ⟨_, rfl, H2.out, Below.refl _ _⟩
  | some ad =>
    obtain ⟨v', w', hrun, ⟨a1, n1, c1, rfl⟩, r1, b1⟩ := lit_app Jb.k (by decide) Tryz.underlying26 infoJb rfl h Jb.one (by omega) (by omega) 26
    have H1 : Hid (w'.ownsRow w.heap.size 46 6 (.slice a1 n1 c1) l.length (l.flatMap Jb.c) ∧ Below w.heap.size w w') := ⟨r1, b1⟩
    clear h hn hcp r1 b1
    go_enter Tryz.func21, Tryz.ntmps21
    go_wp2_with (at_builtin; refine Lib.wpList_append_run _ rfl _ _ _ _ rfl _ _ rfl rfl _ _ hrun ?_)
    go_ret
    exact ⟨_, rfl, H1.out⟩
set_option maxHeartbeats 4000000 in
set_option maxRecDepth 100000 in
theorem Ready_any {w : World} {s : St} {kind : List UInt8} (h : Sv w s) (hn : s.jobs.length * 64 ≤ 211106232528000) :
    Calls Tryz.prog 11 #[.agg s.c.toArray, .string (S kind)] w fun e w' => ∃ (f : Value) (X : Nat → Prop), e = .returned f ∧ Sq encJ w' f (rdyT kind s.jobs s.jobs.length) X ∧ (∀ x, X x → w.heap.size ≤ x) ∧ Below w.heap.size w w' := by
  have hsl := Sv.slices h
  obtain ⟨W2, hW2⟩ : ∃ W2, (w.alloc (.cells s.c.toArray 33)).alloc (.cells #[.string (S kind)] 9) = W2 := ⟨_, rfl⟩
  have hb0 : Below w.heap.size w W2 := by rw [← hW2]; exact ((Below.refl _ w).alloc (Nat.le_refl _) _).alloc (by simp) _
  have hs2 : W2.heap.size = w.heap.size + 2 := by rw [← hW2]; simp
  have ho1 : W2.heap[w.heap.size]? = some (.cells s.c.toArray 33 (0, 0)) := by rw [← hW2]; exact (Below.heap_alloc _ _ _ (by simp)).trans (heap_alloc_new w _)
  have ho2 : Bx W2 (w.heap.size + 1) (.string (S kind)) 9 := by
    rw [← hW2]
    have := heap_alloc_new (w.alloc (.cells s.c.toArray 33)) (.cells #[.string (S kind)] 9)
    simp only [World.size_alloc] at this
    exact this
  have CC := cloneJb_any (h.rJb.up hb0) hn
  have hX : W2.cell? ⟨w.heap.size, 6, none⟩ = some s.vJb := by simp [World.cell?, ho1, St.c]
  have HJ : Hid (s.jobs.length < 4611686018427387904) := by show _ < _; omega
  clear h hn
  generalize hjl : s.jobs = jobs at *
  obtain ⟨⟨saDe, snDe, scDe, shDe⟩, ⟨saIn, snIn, scIn, shIn⟩, ⟨saTk, snTk, scTk, shTk⟩, ⟨saJb, snJb, scJb, shJb⟩, ⟨saTm, snTm, scTm, shTm⟩, ⟨saSb, snSb, scSb, shSb⟩, ⟨saKp, snKp, scKp, shKp⟩, ⟨saLs, snLs, scLs, shLs⟩, ⟨saMs, snMs, scMs, shMs⟩⟩ := hsl
  obtain ⟨spos, sdone, smade, svDe, slDe, svIn, slIn, svTk, slTk, svJb, slJb, svTm, slTm, svSb, slSb, svKp, slKp, svLs, slLs, svMs, slMs⟩ := s
  simp only at shDe shIn shTk shJb shTm shSb shKp shLs shMs
  subst shDe shIn shTk shJb shTm shSb shKp shLs shMs
  simp only at hX CC
  simp only [St.c] at hW2 ⊢
  have HB : Hid (Below w.heap.size w W2 ∧ W2.heap.size = w.heap.size + 2 ∧ Bx W2 (w.heap.size + 1) (.string (S kind)) 9) := ⟨hb0, hs2, ho2⟩
  clear hb0 hs2 ho2 ho1 hjl
  go_enter Tryz.func11, Tryz.ntmps11
  go_wp2_with (go_at_call 21; (try rw [hW2]); refine CC.mono ?_; rintro e w3 ⟨v3, rfl, hr3, hb3⟩; obtain ⟨a3, c3, rfl, -⟩ := row_slice hr3; (have H3 : Hid (w3.ownsRow W2.heap.size 46 6 (.slice a3 jobs.length c3) jobs.length (jobs.flatMap Jb.c) ∧ Below W2.heap.size W2 w3) := ⟨hr3, hb3⟩); clear hr3 hb3 CC)
  go_ret
  obtain ⟨hr3, hb3⟩ := H3.out
  obtain ⟨hb0, hs2, ho2⟩ := HB.out
  have hs3 := hb3.size
  have hBw : Below w.heap.size w w3 := hb0.trans (hb3.mono (by omega))
  have ho3 : Bx w3 (w.heap.size + 1) (.string (S kind)) 9 := ho2.below hb3 (by omega)
  have hb4 : Below w3.heap.size w3 (w3.alloc (.cells #[.slice a3 jobs.length c3] 26)) := (Below.refl _ w3).alloc (Nat.le_refl _) _
  have hx3 : ∀ x, (Value.slice a3 jobs.length c3).ownBlock = some x → W2.heap.size ≤ x ∧ x < w3.heap.size := fun x hx => hr3.lt x hx
  have r4 : (w3.alloc (.cells #[.slice a3 jobs.length c3] 26)).ownsRow W2.heap.size 46 6 (.slice a3 jobs.length c3) jobs.length (jobs.flatMap Jb.c) := (Ch.of_below (X := fun _ => False) hb4).row hr3 (fun _ _ e => e)
  refine ⟨_, fun x => ((Value.slice a3 jobs.length c3).ownBlock = some x) ∨ x = w3.heap.size ∨ x = w.heap.size + 1, rfl, ⟨22, #[.pointer (some ⟨w3.heap.size, 0, none⟩), .pointer (some ⟨w.heap.size + 1, 0, none⟩)], rfl, enters_of Tryz.func22 (by kernel_rfl) rfl, ?_, fun W1 hW => ?_⟩, ?_, hBw.alloc hBw.size _⟩
  · rintro x (hx | rfl | rfl)
    · have := (hx3 x hx).2; simp; omega
    · simp
    · simp; omega
  · exact ready1_runs (kq_bx hW (.inr (.inl rfl)) (Bx.new w3 _ _)) (kq_bx hW (.inr (.inr rfl)) (ho3.below hb4 ho3.lt)) (kq_row hW r4 (fun k hk => .inl hk)) (fun x hx => hx) HJ.out
  · rintro x (hx | rfl | rfl)
    · have := (hx3 x hx).1; omega
    · omega
    · omega
end Go.Proofs.YthmfcloecmnfnaaGreat.f13

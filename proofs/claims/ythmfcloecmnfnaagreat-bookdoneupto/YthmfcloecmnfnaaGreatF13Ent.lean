/-
  Package fold's entered: a token more, or another one.
-/
import Derived.Test.YthmfcloecmnfnaaGreatF13Beg
import Derived.Test.YthmfcloecmnfnaaGreatF13Pu2
namespace Go.Proofs.YthmfcloecmnfnaaGreat.f13
open Go.RowKit Go.Shelf Go.Sort
open Go.Lib hiding intOf

/-- the list of one kind becomes another one (with nothing within) -/
theorem Sx.toTk {B : Nat} {w w2 : World} {sb : Nat} {s : St} {l : List Tk} {v : Value} (h : Sx B w sb s) (hp : w2.ownsRow B 66 6 v l.length (l.flatMap Tk.c)) (hc : Ch (fun g => s.vTk.ownBlock = some g) w w2) (hn : ∀ g, v.ownBlock = some g → s.vTk.ownBlock = some g ∨ w.heap.size ≤ g) :
    Sx B (w2.setCell ⟨sb, 5, none⟩ v) sb { s with vTk := v, tokens := l } ∧ (∀ (j : Nat) (u : Value), s.c[j]? = some u → w2.cell? ⟨sb, j, none⟩ = some u) ∧ (∀ j : Nat, w2.frozen? ⟨sb, j, none⟩ = false) := by
  have h2 := Own.perm (M := Tk.rw s.vTk s.tokens :: (bx sb s.c :: (De.rw s.vDe s.procs :: In.rw s.vIn s.insts :: Jb.rw s.vJb s.jobs :: Tm.rw s.vTm s.timers :: Sb.rw s.vSb s.subs :: Kp.rw s.vKp s.kept :: Ls.rw s.vLs s.listed :: Ms.rw s.vMs s.msgs :: s.inner))) h (perm_ac fun z => by
    simp only [St.rows, St.main, List.count_append, List.count_cons, List.count_nil, Nat.zero_add]
    ac_rfl)
  have h3 := h2.turn (r' := Tk.rw v l) hc hp hn
  have h4 := h3.perm (M := bx sb s.c :: (De.rw s.vDe s.procs :: In.rw s.vIn s.insts :: Tk.rw v l :: Jb.rw s.vJb s.jobs :: Tm.rw s.vTm s.timers :: Sb.rw s.vSb s.subs :: Kp.rw s.vKp s.kept :: Ls.rw s.vLs s.listed :: Ms.rw s.vMs s.msgs :: s.inner)) (perm_ac fun z => by
    simp only [List.count_cons]
    ac_rfl)
  exact ⟨bx.put h4 5 v, fun j u hj => bx.cell h4 (List.mem_cons_self ..) hj, fun j => bx.fro h4 (List.mem_cons_self ..) j⟩

set_option maxHeartbeats 8000000 in
set_option maxRecDepth 100000 in
theorem entered_any {B : Nat} {w : World} {sb : Nat} {s : St} {r : Rc} (h : Sx B w sb s) (hB : B ≤ w.heap.size) (hz : (s.tokens.length + 1) * 56 ≤ 211106232528000) (hr : Rr 4 Vr.c w r.vv r.v) :
    Calls Tryz.prog 60 #[.pointer (some ⟨sb, 0, none⟩), .agg r.cs.toArray] w fun e w' => e = .returned (.tuple #[]) ∧ Eff B w sb (eEntered s.e r) w' := by
  obtain ⟨ra, rp, hra, -⟩ := id hr
  obtain ⟨r0, r1, r2, r3, r4, r5, r6, r7, r8, r9, r10, r11, rvv, rv⟩ := r
  simp only at hra hr
  subst hra
  clear hr
  simp only [Rc.cs]
  generalize hrn : rv.length = rn at *
  have hbw : Below w.heap.size w ((w.alloc (.cells #[.int .i64 r0, .int .i64 r1, .int .u64 (r2 : Int), .int .i64 r3, .int .u64 (r4 : Int), .int .u64 (r5 : Int), .int .u64 (r6 : Int), .int .i64 r7, .int .i64 r8, .string (S r9), .string (S r10), .string (S r11), .slice ra rn rp] 63)).alloc (.cells #[.int .u64 (r4 : Int), .int .u64 (r5 : Int), .int .u64 (r6 : Int), .int .i64 r7, .int .i64 r8, .string ⟨#[]⟩] 66)) := ((Below.refl _ w).alloc (Nat.le_refl _) _).alloc (by simp) _
  have hS' := h.up hbw
  obtain ⟨aI, cI, hsI, -⟩ := row_slice hS'.rTk
  have CP : Hid (Calls Tryz.prog 87 #[s.vTk, .agg (Tk.c ⟨r4, r5, r6, r7, r8, []⟩).toArray, .func (.func 88) #[] #[], .func (.func 86) #[] #[]] ((w.alloc (.cells #[.int .i64 r0, .int .i64 r1, .int .u64 (r2 : Int), .int .i64 r3, .int .u64 (r4 : Int), .int .u64 (r5 : Int), .int .u64 (r6 : Int), .int .i64 r7, .int .i64 r8, .string (S r9), .string (S r10), .string (S r11), .slice ra rn rp] 63)).alloc (.cells #[.int .u64 (r4 : Int), .int .u64 (r5 : Int), .int .u64 (r6 : Int), .int .i64 r7, .int .i64 r8, .string ⟨#[]⟩] 66)).drew (PtTk B ((w.alloc (.cells #[.int .i64 r0, .int .i64 r1, .int .u64 (r2 : Int), .int .i64 r3, .int .u64 (r4 : Int), .int .u64 (r5 : Int), .int .u64 (r6 : Int), .int .i64 r7, .int .i64 r8, .string (S r9), .string (S r10), .string (S r11), .slice ra rn rp] 63)).alloc (.cells #[.int .u64 (r4 : Int), .int .u64 (r5 : Int), .int .u64 (r6 : Int), .int .i64 r7, .int .i64 r8, .string ⟨#[]⟩] 66)).drew s.vTk (putL Tk.kk ltU s.tokens ⟨r4, r5, r6, r7, r8, []⟩))) := putTk_any ⟨r4, r5, r6, r7, r8, []⟩ (w := ((w.alloc (.cells #[.int .i64 r0, .int .i64 r1, .int .u64 (r2 : Int), .int .i64 r3, .int .u64 (r4 : Int), .int .u64 (r5 : Int), .int .u64 (r6 : Int), .int .i64 r7, .int .i64 r8, .string (S r9), .string (S r10), .string (S r11), .slice ra rn rp] 63)).alloc (.cells #[.int .u64 (r4 : Int), .int .u64 (r5 : Int), .int .u64 (r6 : Int), .int .i64 r7, .int .i64 r8, .string ⟨#[]⟩] 66)).drew) hS'.rTk (Nat.le_trans hB hbw.size) hz
  have HE : Hid (∀ v3 w3, w3.ownsRow B 66 6 v3 (putL Tk.kk ltU s.tokens ⟨r4, r5, r6, r7, r8, []⟩).length ((putL Tk.kk ltU s.tokens ⟨r4, r5, r6, r7, r8, []⟩).flatMap Tk.c) → Ch (fun g => s.vTk.ownBlock = some g) ((w.alloc (.cells #[.int .i64 r0, .int .i64 r1, .int .u64 (r2 : Int), .int .i64 r3, .int .u64 (r4 : Int), .int .u64 (r5 : Int), .int .u64 (r6 : Int), .int .i64 r7, .int .i64 r8, .string (S r9), .string (S r10), .string (S r11), .slice ra rn rp] 63)).alloc (.cells #[.int .u64 (r4 : Int), .int .u64 (r5 : Int), .int .u64 (r6 : Int), .int .i64 r7, .int .i64 r8, .string ⟨#[]⟩] 66)).drew w3 → (∀ g, v3.ownBlock = some g → s.vTk.ownBlock = some g ∨ ((w.alloc (.cells #[.int .i64 r0, .int .i64 r1, .int .u64 (r2 : Int), .int .i64 r3, .int .u64 (r4 : Int), .int .u64 (r5 : Int), .int .u64 (r6 : Int), .int .i64 r7, .int .i64 r8, .string (S r9), .string (S r10), .string (S r11), .slice ra rn rp] 63)).alloc (.cells #[.int .u64 (r4 : Int), .int .u64 (r5 : Int), .int .u64 (r6 : Int), .int .i64 r7, .int .i64 r8, .string ⟨#[]⟩] 66)).drew.heap.size ≤ g) → Eff B w sb (eEntered s.e ⟨r0, r1, r2, r3, r4, r5, r6, r7, r8, r9, r10, r11, .slice ra rn rp, rv⟩) ((w3.setCell ⟨sb, 5, none⟩ v3).setCell ⟨sb, 2, none⟩ (.int .u64 (up1 s.made : Int))) ∧ (∀ (j : Nat) (u : Value), s.c[j]? = some u → w3.cell? ⟨sb, j, none⟩ = some u) ∧ (∀ j : Nat, w3.frozen? ⟨sb, j, none⟩ = false)) := by
    intro v3 w3 hr3 hc3 hn3
    obtain ⟨k1, k2, k3⟩ := Sx.toTk (w := ((w.alloc (.cells #[.int .i64 r0, .int .i64 r1, .int .u64 (r2 : Int), .int .i64 r3, .int .u64 (r4 : Int), .int .u64 (r5 : Int), .int .u64 (r6 : Int), .int .i64 r7, .int .i64 r8, .string (S r9), .string (S r10), .string (S r11), .slice ra rn rp] 63)).alloc (.cells #[.int .u64 (r4 : Int), .int .u64 (r5 : Int), .int .u64 (r6 : Int), .int .i64 r7, .int .i64 r8, .string ⟨#[]⟩] 66)).drew) (w2 := w3) (h.up hbw.drew) hr3 hc3 hn3
    have hb3 : Below B w w3 := (hbw.drew.mono hB).trans ((Own.ge hc3 (Nat.le_trans hB hbw.size) (fun g hg => (hS'.rTk.lt g hg).1)))
    have hl := h.lt
    refine ⟨⟨{ s with vTk := v3, tokens := putL Tk.kk ltU s.tokens ⟨r4, r5, r6, r7, r8, []⟩, made := up1 s.made }, bx.put k1 2 (.int .u64 (up1 s.made : Int)), rfl, ?_⟩, k2, k3⟩
    exact (hb3.trans (Ch.below (((Ch.refl (fun b => b = sb) w3).setCell ⟨sb, 5, none⟩ v3 (fun _ => rfl)).setCell ⟨sb, 2, none⟩ _ (fun _ => rfl)) (Nat.le_trans hB (Nat.le_trans hbw.size hc3.size)) (fun g hg e => by omega)))
  have m4 := hS'.cell (j := 5) (u := s.vTk) rfl
  have f4 := hS'.fro 5
  have z0 : ((w.alloc (.cells #[.int .i64 r0, .int .i64 r1, .int .u64 (r2 : Int), .int .i64 r3, .int .u64 (r4 : Int), .int .u64 (r5 : Int), .int .u64 (r6 : Int), .int .i64 r7, .int .i64 r8, .string (S r9), .string (S r10), .string (S r11), .slice ra rn rp] 63)).alloc (.cells #[.int .u64 (r4 : Int), .int .u64 (r5 : Int), .int .u64 (r6 : Int), .int .i64 r7, .int .i64 r8, .string ⟨#[]⟩] 66)).cell? ⟨w.heap.size + 1, 0, none⟩ = some (.int .u64 (r4 : Int)) := by go_simp
  have z1 : ((w.alloc (.cells #[.int .i64 r0, .int .i64 r1, .int .u64 (r2 : Int), .int .i64 r3, .int .u64 (r4 : Int), .int .u64 (r5 : Int), .int .u64 (r6 : Int), .int .i64 r7, .int .i64 r8, .string (S r9), .string (S r10), .string (S r11), .slice ra rn rp] 63)).alloc (.cells #[.int .u64 (r4 : Int), .int .u64 (r5 : Int), .int .u64 (r6 : Int), .int .i64 r7, .int .i64 r8, .string ⟨#[]⟩] 66)).cell? ⟨w.heap.size + 1, 1, none⟩ = some (.int .u64 (r5 : Int)) := by go_simp
  have z2 : ((w.alloc (.cells #[.int .i64 r0, .int .i64 r1, .int .u64 (r2 : Int), .int .i64 r3, .int .u64 (r4 : Int), .int .u64 (r5 : Int), .int .u64 (r6 : Int), .int .i64 r7, .int .i64 r8, .string (S r9), .string (S r10), .string (S r11), .slice ra rn rp] 63)).alloc (.cells #[.int .u64 (r4 : Int), .int .u64 (r5 : Int), .int .u64 (r6 : Int), .int .i64 r7, .int .i64 r8, .string ⟨#[]⟩] 66)).cell? ⟨w.heap.size + 1, 2, none⟩ = some (.int .u64 (r6 : Int)) := by go_simp
  have z3 : ((w.alloc (.cells #[.int .i64 r0, .int .i64 r1, .int .u64 (r2 : Int), .int .i64 r3, .int .u64 (r4 : Int), .int .u64 (r5 : Int), .int .u64 (r6 : Int), .int .i64 r7, .int .i64 r8, .string (S r9), .string (S r10), .string (S r11), .slice ra rn rp] 63)).alloc (.cells #[.int .u64 (r4 : Int), .int .u64 (r5 : Int), .int .u64 (r6 : Int), .int .i64 r7, .int .i64 r8, .string ⟨#[]⟩] 66)).cell? ⟨w.heap.size + 1, 3, none⟩ = some (.int .i64 r7) := by go_simp
  have z4 : ((w.alloc (.cells #[.int .i64 r0, .int .i64 r1, .int .u64 (r2 : Int), .int .i64 r3, .int .u64 (r4 : Int), .int .u64 (r5 : Int), .int .u64 (r6 : Int), .int .i64 r7, .int .i64 r8, .string (S r9), .string (S r10), .string (S r11), .slice ra rn rp] 63)).alloc (.cells #[.int .u64 (r4 : Int), .int .u64 (r5 : Int), .int .u64 (r6 : Int), .int .i64 r7, .int .i64 r8, .string ⟨#[]⟩] 66)).cell? ⟨w.heap.size + 1, 4, none⟩ = some (.int .i64 r8) := by go_simp
  have z5 : ((w.alloc (.cells #[.int .i64 r0, .int .i64 r1, .int .u64 (r2 : Int), .int .i64 r3, .int .u64 (r4 : Int), .int .u64 (r5 : Int), .int .u64 (r6 : Int), .int .i64 r7, .int .i64 r8, .string (S r9), .string (S r10), .string (S r11), .slice ra rn rp] 63)).alloc (.cells #[.int .u64 (r4 : Int), .int .u64 (r5 : Int), .int .u64 (r6 : Int), .int .i64 r7, .int .i64 r8, .string ⟨#[]⟩] 66)).cell? ⟨w.heap.size + 1, 5, none⟩ = some (.string ⟨#[]⟩) := by go_simp
  have hU := up1_wrap s.made
  simp only [Tk.c] at CP
  rw [hsI] at CP HE m4
  clear hS' hbw hz hB
  have HH : Hid (Sx B w sb s) := h
  clear h
  go_enter Tryz.func60, Tryz.ntmps60
  go_wp2
  generalize ((w.alloc (.cells #[.int .i64 r0, .int .i64 r1, .int .u64 (r2 : Int), .int .i64 r3, .int .u64 (r4 : Int), .int .u64 (r5 : Int), .int .u64 (r6 : Int), .int .i64 r7, .int .i64 r8, .string (S r9), .string (S r10), .string (S r11), .slice ra rn rp] 63)).alloc (.cells #[.int .u64 (r4 : Int), .int .u64 (r5 : Int), .int .u64 (r6 : Int), .int .i64 r7, .int .i64 r8, .string ⟨#[]⟩] 66)) = W2 at *
  go_region_with (first
    | (go_at_call 87; refine CP.out.mono ?_; rintro e w3 ⟨v3, rfl, hr3, hc3, hn3⟩; obtain ⟨a3, d3, hs3, -⟩ := row_slice hr3; subst hs3; obtain ⟨k1, k2, k3⟩ := HE.out _ w3 hr3 hc3 hn3; (have K1 : Hid _ := k1); (have m2 := k2 2 _ rfl); (have m5 := k2 5 _ rfl); (have f2 := k3 2); (have f5 := k3 5); clear k1 k2 k3 hr3 hc3 hn3))
  all_goals
    go_wp2
    go_end0
    exact ⟨rfl, K1.out⟩
end Go.Proofs.YthmfcloecmnfnaaGreat.f13

/-
  Elements that are changed.
-/
import Derived.Test.YthmfcloecmnfnaaGreatF13Chg
namespace Go.Proofs.YthmfcloecmnfnaaGreat.f13
open Go.RowKit Go.Shelf Go.Sort
open Go.Lib hiding intOf

/-- the first one that is so is changed -/
def chgL {α : Type} (q : α → Bool) (f : α → α) : List α → List α
  | [] => []
  | x :: t => if q x then f x :: t else x :: chgL q f t
theorem chgL_none {α : Type} {q : α → Bool} {f : α → α} : ∀ {l : List α}, l.findIdx? q = none → chgL q f l = l
  | [], _ => rfl
  | x :: t, h => by
    rw [List.findIdx?_eq_none_iff] at h
    have h1 := h x (List.mem_cons_self ..)
    unfold chgL
    rw [h1, if_neg (by simp), chgL_none (List.findIdx?_eq_none_iff.2 fun y hy => h y (List.mem_cons_of_mem _ hy))]
theorem chgL_some {α : Type} {q : α → Bool} {f : α → α} : ∀ {l : List α} {i : Nat}, l.findIdx? q = some i → (hi : i < l.length) → chgL q f l = l.set i (f l[i])
  | [], i, _, hi => by cases hi
  | x :: t, i, h, hi => by
    unfold chgL
    rw [List.findIdx?_cons] at h
    cases hx : q x with
    | true =>
      rw [hx] at h
      simp only [if_true, Option.some.injEq] at h
      subst h
      rfl
    | false =>
      rw [hx] at h
      cases ht : t.findIdx? q with
      | none => rw [ht] at h; simp at h
      | some j =>
        rw [ht] at h
        simp at h
        subst h
        have hj : j < t.length := by simpa using hi
        rw [if_neg (by simp), chgL_some ht hj]
        rfl

/-- elements of one list are others, in place -/
theorem Sx.inTk {B : Nat} {w w2 : World} {sb : Nat} {s : St} {l : List Tk} (h : Sx B w sb s) (hp : w2.ownsRow B 66 6 s.vTk l.length (l.flatMap Tk.c)) (hc : Ch (fun g => s.vTk.ownBlock = some g) w w2) : Sx B w2 sb { s with tokens := l } := by
  have h2 := Own.perm (M := Tk.rw s.vTk s.tokens :: (bx sb s.c :: (De.rw s.vDe s.procs :: In.rw s.vIn s.insts :: Jb.rw s.vJb s.jobs :: Tm.rw s.vTm s.timers :: Sb.rw s.vSb s.subs :: Kp.rw s.vKp s.kept :: Ls.rw s.vLs s.listed :: Ms.rw s.vMs s.msgs :: s.inner))) h (perm_ac fun z => by
    simp only [St.rows, St.main, List.count_append, List.count_cons, List.count_nil, Nat.zero_add]
    ac_rfl)
  have h3 := h2.turn (r' := Tk.rw s.vTk l) hc hp (fun g hg => .inl hg)
  exact h3.perm (M := bx sb s.c :: (De.rw s.vDe s.procs :: In.rw s.vIn s.insts :: Tk.rw s.vTk l :: Jb.rw s.vJb s.jobs :: Tm.rw s.vTm s.timers :: Sb.rw s.vSb s.subs :: Kp.rw s.vKp s.kept :: Ls.rw s.vLs s.listed :: Ms.rw s.vMs s.msgs :: s.inner)) (perm_ac fun z => by
    simp only [List.count_cons]
    ac_rfl)

set_option maxHeartbeats 1000000 in
theorem stuck1_any (a : List UInt8) {w : World} {b o : Nat} {rb : Nat} (hr9 : w.cell? ⟨rb, 9, none⟩ = some (.string (S a))) (hc5 : ∃ u, w.cell? ⟨b, o + 5, none⟩ = some u) (hf5 : w.frozen? ⟨b, o + 5, none⟩ = false) :
    Calls Tryz.prog 110 #[.pointer (some ⟨b, o, none⟩), .pointer (some ⟨rb, 0, none⟩)] w fun e w' => e = .returned (.tuple #[]) ∧ (w' = (w.setCell ⟨b, o + 5, none⟩ (.string (S a)))) := by
  obtain ⟨u5, hc5⟩ := hc5
  go_enter Tryz.func110, Tryz.ntmps110
  go_wp2
  go_end0
  exact ⟨rfl, by simp⟩

/-- what stuck does -/
def eStuck (s : St) (r : Rc) : St := { s with tokens := chgL (fun x => x.kk == r.k1) (fun x => { x with stuck := r.a }) s.tokens }
set_option maxHeartbeats 4000000 in
set_option maxRecDepth 100000 in
theorem stuck_any {B : Nat} {w : World} {sb : Nat} {s : St} {r : Rc} (h : Sx B w sb s) (hB : B ≤ w.heap.size) (hn : s.tokens.length ≤ 4611686018427387904) (hr : Rr 4 Vr.c w r.vv r.v) :
    Calls Tryz.prog 69 #[.pointer (some ⟨sb, 0, none⟩), .agg r.cs.toArray] w fun e w' => e = .returned (.tuple #[]) ∧ Eff B w sb (eStuck s.e r) w' := by
  obtain ⟨ra, rp, hra, -⟩ := id hr
  obtain ⟨r0, r1, r2, r3, r4, r5, r6, r7, r8, r9, r10, r11, rvv, rv⟩ := r
  simp only at hra hr
  subst hra
  clear hr
  simp only [Rc.cs]
  generalize hrn : rv.length = rn at *
  have hbw : Below w.heap.size w (w.alloc (.cells #[.int .i64 r0, .int .i64 r1, .int .u64 (r2 : Int), .int .i64 r3, .int .u64 (r4 : Int), .int .u64 (r5 : Int), .int .u64 (r6 : Int), .int .i64 r7, .int .i64 r8, .string (S r9), .string (S r10), .string (S r11), .slice ra rn rp] 63)) := (Below.refl _ w).alloc (Nat.le_refl _) _
  have ekO : Ent0 147 := enters_of Tryz.func147 (by kernel_rfl) rfl
  have ekB : Ent0 110 := enters_of Tryz.func110 (by kernel_rfl) rfl
  have hcr : ∀ (j : Nat) (u : Value), ([.int .i64 r0, .int .i64 r1, .int .u64 (r2 : Int), .int .i64 r3, .int .u64 (r4 : Int), .int .u64 (r5 : Int), .int .u64 (r6 : Int), .int .i64 r7, .int .i64 r8, .string (S r9), .string (S r10), .string (S r11), .slice ra rn rp] : List Value)[j]? = some u → (w.alloc (.cells #[.int .i64 r0, .int .i64 r1, .int .u64 (r2 : Int), .int .i64 r3, .int .u64 (r4 : Int), .int .u64 (r5 : Int), .int .u64 (r6 : Int), .int .i64 r7, .int .i64 r8, .string (S r9), .string (S r10), .string (S r11), .slice ra rn rp] 63)).cell? ⟨w.heap.size, j, none⟩ = some u := fun j u hj => by
    rw [World.cell?_alloc_new]; simpa using hj
  have HA : Hid (∀ w1 caps, Below (w.alloc (.cells #[.int .i64 r0, .int .i64 r1, .int .u64 (r2 : Int), .int .i64 r3, .int .u64 (r4 : Int), .int .u64 (r5 : Int), .int .u64 (r6 : Int), .int .i64 r7, .int .i64 r8, .string (S r9), .string (S r10), .string (S r11), .slice ra rn rp] 63)).heap.size (w.alloc (.cells #[.int .i64 r0, .int .i64 r1, .int .u64 (r2 : Int), .int .i64 r3, .int .u64 (r4 : Int), .int .u64 (r5 : Int), .int .u64 (r6 : Int), .int .i64 r7, .int .i64 r8, .string (S r9), .string (S r10), .string (S r11), .slice ra rn rp] 63)) w1 → (∀ x : Tk, Say (fun _ => False) w1 147 caps #[.agg (Tk.c x).toArray] (x.kk == r4)) → Calls Tryz.prog 109 #[s.vTk, .func (.func 147) #[] caps, .func (.func 110) #[] #[.pointer (some ⟨w.heap.size, 0, none⟩)]] w1 fun e w' => e = .returned (.tuple #[]) ∧ Eff B w sb (eStuck s.e ⟨r0, r1, r2, r3, r4, r5, r6, r7, r8, r9, r10, r11, .slice ra rn rp, rv⟩) w') := by
    intro w1 caps hb1 hsay
    have hb1w : Below w.heap.size w w1 := bel_of hbw hb1 (Nat.le_refl _)
    have hS1 := h.up hb1w
    have hcell : ∀ (W : World) (i b off cap : Nat), Below w1.heap.size w1 W → i < s.tokens.length → s.vTk = .slice (some ⟨b, off, none⟩) s.tokens.length cap → off = 0 ∧ W.ownsRow B 66 6 (.slice (some ⟨b, 0, none⟩) s.tokens.length cap) s.tokens.length (s.tokens.flatMap Tk.c) ∧ ∀ n, n < 6 → (∃ u, W.cell? ⟨b, off + i * 6 + n, none⟩ = some u) ∧ W.frozen? ⟨b, off + i * 6 + n, none⟩ = false := by
      intro W i b off cap hW hi hv
      have hrow := (hS1.up hW).rTk
      rw [hv] at hrow
      obtain ⟨g', c', e', -⟩ := row_any hrow (by omega)
      injection e' with e1 _ e2
      injection e1 with e1
      injection e1 with e3 e4
      subst e3 e4 e2
      refine ⟨rfl, hrow, fun n hn => ⟨⟨(Tk.c s.tokens[i])[n]'(by rw [Tk.k]; exact hn), ?_⟩, row_fro hrow _⟩⟩
      rw [Nat.zero_add]
      refine row_cell hrow ?_
      rw [fm_get Tk.k _ i n hn, List.getElem?_eq_getElem hi]
      exact List.getElem?_eq_getElem _
    refine (changeTk_any (X := fun _ => False) (fun x => x.kk == r4) (fun W i W' => ∀ b off cap, s.vTk = .slice (some ⟨b, off, none⟩) s.tokens.length cap → (W' = (W.setCell ⟨b, off + i * 6 + 5, none⟩ (.string (S r9))))) (Rr.row Tk.k hS1.rTk) hn ekO (fun x _ => hsay x) ekB ?_).mono ?_
    · intro W i b off cap hW hi hv
      obtain ⟨-, -, hc⟩ := hcell W i b off cap hW hi hv
      have hWR : Below (w.alloc (.cells #[.int .i64 r0, .int .i64 r1, .int .u64 (r2 : Int), .int .i64 r3, .int .u64 (r4 : Int), .int .u64 (r5 : Int), .int .u64 (r6 : Int), .int .i64 r7, .int .i64 r8, .string (S r9), .string (S r10), .string (S r11), .slice ra rn rp] 63)).heap.size (w.alloc (.cells #[.int .i64 r0, .int .i64 r1, .int .u64 (r2 : Int), .int .i64 r3, .int .u64 (r4 : Int), .int .u64 (r5 : Int), .int .u64 (r6 : Int), .int .i64 r7, .int .i64 r8, .string (S r9), .string (S r10), .string (S r11), .slice ra rn rp] 63)) W := bel_of hb1 hW (Nat.le_refl _)
      refine (stuck1_any (w := W) (b := b) (o := off + i * 6) (a := r9) (rb := w.heap.size) ((hWR.cell (p := ⟨w.heap.size, 9, none⟩) (by simp)).trans (hcr 9 _ rfl)) (hc 5 (by omega)).1 (hc 5 (by omega)).2).mono ?_
      rintro e W' ⟨rfl, hR⟩
      refine ⟨rfl, fun b' off' cap' hv' => ?_⟩
      rw [hv] at hv'
      injection hv' with e1 _ _
      injection e1 with e1
      injection e1 with e3 e4
      subst e3 e4
      exact hR
    · rintro e w' ⟨rfl, hC⟩
      refine ⟨rfl, ?_⟩
      unfold CgTk at hC
      cases hF : s.tokens.findIdx? (fun x => x.kk == r4) with
      | none =>
        rw [hF] at hC
        refine ⟨s, hS1.up hC, ?_, (hb1w.mono hB).trans (hC.mono (Nat.le_trans hB hb1w.size))⟩
        have he9 : eStuck s.e ⟨r0, r1, r2, r3, r4, r5, r6, r7, r8, r9, r10, r11, .slice ra rn rp, rv⟩ = { s.e with tokens := chgL (fun x => x.kk == r4) (fun x => { x with stuck := r9 }) s.tokens } := rfl
        rw [he9, chgL_none hF]
        rfl
      | some i =>
        rw [hF] at hC
        obtain ⟨W, hW, hR⟩ := hC
        have hi := (List.findIdx?_eq_some_iff_getElem.1 hF).1
        obtain ⟨g0, cap0, hv0, -⟩ := row_any (hS1.up hW).rTk (by omega)
        obtain ⟨-, hrow, -⟩ := hcell W i g0 0 cap0 hW hi hv0
        have hwR := hR g0 0 cap0 hv0
        simp only [Nat.zero_add] at hwR
        have hfin : w'.ownsRow B 66 6 s.vTk s.tokens.length ((s.tokens.set i { s.tokens[i] with stuck := r9 }).flatMap Tk.c) ∧ Ch (fun b => s.vTk.ownBlock = some b) W w' := by
          rw [hv0]
          have hl : i < s.tokens.length := hi
          subst hwR
          refine ⟨?_, ((Ch.refl (fun b => (some g0 : Option Nat) = some b) W).setCell ⟨g0, i * 6 + 5, none⟩ (.string (S r9)) (fun _ => rfl))⟩
          have := (row_put hrow (i * 6 + 5) (.string (S r9)))
          rw [fm_set Tk.k s.tokens i 5 hl (by omega) { s.tokens[i] with stuck := r9 } (.string (S r9)) rfl] at this
          exact this
        have hS2 := (hS1.up hW).inTk (l := s.tokens.set i { s.tokens[i] with stuck := r9 }) (by rw [List.length_set]; exact hfin.1) hfin.2
        refine ⟨_, hS2, ?_, ?_⟩
        · have he9 : eStuck s.e ⟨r0, r1, r2, r3, r4, r5, r6, r7, r8, r9, r10, r11, .slice ra rn rp, rv⟩ = { s.e with tokens := chgL (fun x => x.kk == r4) (fun x => { x with stuck := r9 }) s.tokens } := rfl
          rw [he9, chgL_some hF hi]
          rfl
        · have hb2 : Below B w W := (hb1w.mono hB).trans (hW.mono (Nat.le_trans hB hb1w.size))
          exact hb2.trans (Own.ge hfin.2 (Nat.le_trans hB (Nat.le_trans hb1w.size hW.size)) (fun b hb => ((hS1.up hW).rTk.lt b hb).1))
  obtain ⟨aI, cI, hsI, -⟩ := row_slice h.rTk
  have HS : Hid (∀ W, Below (w.alloc (.cells #[.int .i64 r0, .int .i64 r1, .int .u64 (r2 : Int), .int .i64 r3, .int .u64 (r4 : Int), .int .u64 (r5 : Int), .int .u64 (r6 : Int), .int .i64 r7, .int .i64 r8, .string (S r9), .string (S r10), .string (S r11), .slice ra rn rp] 63)).heap.size (w.alloc (.cells #[.int .i64 r0, .int .i64 r1, .int .u64 (r2 : Int), .int .i64 r3, .int .u64 (r4 : Int), .int .u64 (r5 : Int), .int .u64 (r6 : Int), .int .i64 r7, .int .i64 r8, .string (S r9), .string (S r10), .string (S r11), .slice ra rn rp] 63)) W → W.cell? ⟨sb, 5, none⟩ = some s.vTk ∧ W.cell? ⟨w.heap.size, 4, none⟩ = some (.int .u64 (r4 : Int))) := fun W hW => ⟨(h.up (bel_of hbw hW (Nat.le_refl _))).cell (j := 5) rfl, (hW.cell (p := ⟨w.heap.size, 4, none⟩) (by simp)).trans (hcr 4 _ rfl)⟩
  have CO := fun W => ofTk_any r4 W
  rw [hsI] at HA HS
  clear h hn ekO ekB hsI hB
  obtain ⟨m5, m4⟩ := HS.out _ (Below.refl _ _)
  simp only [kU] at CO
  clear hcr
  go_enter Tryz.func69, Tryz.ntmps69
  go_wp2
  generalize (w.alloc (.cells #[.int .i64 r0, .int .i64 r1, .int .u64 (r2 : Int), .int .i64 r3, .int .u64 (r4 : Int), .int .u64 (r5 : Int), .int .u64 (r6 : Int), .int .i64 r7, .int .i64 r8, .string (S r9), .string (S r10), .string (S r11), .slice ra rn rp] 63)) = W1 at *
  go_region_with (first
    | (go_at_call 90; refine (CO _).mono ?_; rintro e w1 ⟨caps, rfl, hsay, hb1⟩; (have hX : Below W1.heap.size W1 w1 := (Below.refl _ W1).drew.trans (hb1.mono (Nat.le_refl _))); obtain ⟨n5, n4⟩ := HS.out w1 hX; (have CA := HA.out w1 caps hX (fun x => hsay (fun _ => False) (fun _ e => e.elim) x)); clear hsay hb1 CO HA)
    | (go_at_call 109; refine CA.mono ?_; rintro e w2 ⟨rfl, hE⟩; (have K1 : Hid _ := hE); clear hE CA))
  all_goals
    go_wp2
    go_end0
    exact ⟨rfl, K1.out⟩
end Go.Proofs.YthmfcloecmnfnaaGreat.f13
namespace Go.Proofs.YthmfcloecmnfnaaGreat.f13
open Go.RowKit Go.Shelf Go.Sort
open Go.Lib hiding intOf

/-- elements of one list are others, in place -/
theorem Sx.inJb {B : Nat} {w w2 : World} {sb : Nat} {s : St} {l : List Jb} (h : Sx B w sb s) (hp : w2.ownsRow B 46 6 s.vJb l.length (l.flatMap Jb.c)) (hc : Ch (fun g => s.vJb.ownBlock = some g) w w2) : Sx B w2 sb { s with jobs := l } := by
  have h2 := Own.perm (M := Jb.rw s.vJb s.jobs :: (bx sb s.c :: (De.rw s.vDe s.procs :: In.rw s.vIn s.insts :: Tk.rw s.vTk s.tokens :: Tm.rw s.vTm s.timers :: Sb.rw s.vSb s.subs :: Kp.rw s.vKp s.kept :: Ls.rw s.vLs s.listed :: Ms.rw s.vMs s.msgs :: s.inner))) h (perm_ac fun z => by
    simp only [St.rows, St.main, List.count_append, List.count_cons, List.count_nil, Nat.zero_add]
    ac_rfl)
  have h3 := h2.turn (r' := Jb.rw s.vJb l) hc hp (fun g hg => .inl hg)
  exact h3.perm (M := bx sb s.c :: (De.rw s.vDe s.procs :: In.rw s.vIn s.insts :: Tk.rw s.vTk s.tokens :: Jb.rw s.vJb l :: Tm.rw s.vTm s.timers :: Sb.rw s.vSb s.subs :: Kp.rw s.vKp s.kept :: Ls.rw s.vLs s.listed :: Ms.rw s.vMs s.msgs :: s.inner)) (perm_ac fun z => by
    simp only [List.count_cons]
    ac_rfl)

set_option maxHeartbeats 1000000 in
theorem jobTaken1_any (a : List UInt8) (n : Int) {w : World} {b o : Nat} {rb : Nat} (_hne1 : ¬ rb = b) (_hne2 : ¬ b = rb) (hr9 : w.cell? ⟨rb, 9, none⟩ = some (.string (S a))) (hr7 : w.cell? ⟨rb, 7, none⟩ = some (.int .i64 n)) (hc4 : ∃ u, w.cell? ⟨b, o + 4, none⟩ = some u) (hf4 : w.frozen? ⟨b, o + 4, none⟩ = false) (hc5 : ∃ u, w.cell? ⟨b, o + 5, none⟩ = some u) (hf5 : w.frozen? ⟨b, o + 5, none⟩ = false) :
    Calls Tryz.prog 95 #[.pointer (some ⟨b, o, none⟩), .pointer (some ⟨rb, 0, none⟩)] w fun e w' => e = .returned (.tuple #[]) ∧ (w' = ((w.setCell ⟨b, o + 4, none⟩ (.string (S a))).setCell ⟨b, o + 5, none⟩ (.int .i64 n)).drew ∨ w' = ((w.setCell ⟨b, o + 5, none⟩ (.int .i64 n)).setCell ⟨b, o + 4, none⟩ (.string (S a))).drew) := by
  obtain ⟨u4, hc4⟩ := hc4
  obtain ⟨u5, hc5⟩ := hc5
  go_enter Tryz.func95, Tryz.ntmps95
  go_wp2
  go_region
  all_goals
    go_wp2
    go_end0
    exact ⟨rfl, by simp⟩

/-- what jobTaken does -/
def eTaken (s : St) (r : Rc) : St := { s with jobs := chgL (fun x => x.kk == r.k1) (fun x => { x with wkr := r.a, unt := r.n }) s.jobs }
set_option maxHeartbeats 4000000 in
set_option maxRecDepth 100000 in
theorem jobTaken_any {B : Nat} {w : World} {sb : Nat} {s : St} {r : Rc} (h : Sx B w sb s) (hB : B ≤ w.heap.size) (hn : s.jobs.length ≤ 4611686018427387904) (hr : Rr 4 Vr.c w r.vv r.v) :
    Calls Tryz.prog 63 #[.pointer (some ⟨sb, 0, none⟩), .agg r.cs.toArray] w fun e w' => e = .returned (.tuple #[]) ∧ Eff B w sb (eTaken s.e r) w' := by
  obtain ⟨ra, rp, hra, -⟩ := id hr
  obtain ⟨r0, r1, r2, r3, r4, r5, r6, r7, r8, r9, r10, r11, rvv, rv⟩ := r
  simp only at hra hr
  subst hra
  clear hr
  simp only [Rc.cs]
  generalize hrn : rv.length = rn at *
  have hbw : Below w.heap.size w (w.alloc (.cells #[.int .i64 r0, .int .i64 r1, .int .u64 (r2 : Int), .int .i64 r3, .int .u64 (r4 : Int), .int .u64 (r5 : Int), .int .u64 (r6 : Int), .int .i64 r7, .int .i64 r8, .string (S r9), .string (S r10), .string (S r11), .slice ra rn rp] 63)) := (Below.refl _ w).alloc (Nat.le_refl _) _
  have ekO : Ent0 80 := enters_of Tryz.func80 (by kernel_rfl) rfl
  have ekB : Ent0 95 := enters_of Tryz.func95 (by kernel_rfl) rfl
  have hcr : ∀ (j : Nat) (u : Value), ([.int .i64 r0, .int .i64 r1, .int .u64 (r2 : Int), .int .i64 r3, .int .u64 (r4 : Int), .int .u64 (r5 : Int), .int .u64 (r6 : Int), .int .i64 r7, .int .i64 r8, .string (S r9), .string (S r10), .string (S r11), .slice ra rn rp] : List Value)[j]? = some u → (w.alloc (.cells #[.int .i64 r0, .int .i64 r1, .int .u64 (r2 : Int), .int .i64 r3, .int .u64 (r4 : Int), .int .u64 (r5 : Int), .int .u64 (r6 : Int), .int .i64 r7, .int .i64 r8, .string (S r9), .string (S r10), .string (S r11), .slice ra rn rp] 63)).cell? ⟨w.heap.size, j, none⟩ = some u := fun j u hj => by
    rw [World.cell?_alloc_new]; simpa using hj
  have HA : Hid (∀ w1 caps, Below (w.alloc (.cells #[.int .i64 r0, .int .i64 r1, .int .u64 (r2 : Int), .int .i64 r3, .int .u64 (r4 : Int), .int .u64 (r5 : Int), .int .u64 (r6 : Int), .int .i64 r7, .int .i64 r8, .string (S r9), .string (S r10), .string (S r11), .slice ra rn rp] 63)).heap.size (w.alloc (.cells #[.int .i64 r0, .int .i64 r1, .int .u64 (r2 : Int), .int .i64 r3, .int .u64 (r4 : Int), .int .u64 (r5 : Int), .int .u64 (r6 : Int), .int .i64 r7, .int .i64 r8, .string (S r9), .string (S r10), .string (S r11), .slice ra rn rp] 63)) w1 → (∀ x : Jb, Say (fun _ => False) w1 80 caps #[.agg (Jb.c x).toArray] (x.kk == r4)) → Calls Tryz.prog 94 #[s.vJb, .func (.func 80) #[] caps, .func (.func 95) #[] #[.pointer (some ⟨w.heap.size, 0, none⟩)]] w1 fun e w' => e = .returned (.tuple #[]) ∧ Eff B w sb (eTaken s.e ⟨r0, r1, r2, r3, r4, r5, r6, r7, r8, r9, r10, r11, .slice ra rn rp, rv⟩) w') := by
    intro w1 caps hb1 hsay
    have hb1w : Below w.heap.size w w1 := bel_of hbw hb1 (Nat.le_refl _)
    have hS1 := h.up hb1w
    have hlow : ∀ g, s.vJb.ownBlock = some g → g < w.heap.size := fun g hg => (h.rJb.lt g hg).2
    have hcell : ∀ (W : World) (i b off cap : Nat), Below w1.heap.size w1 W → i < s.jobs.length → s.vJb = .slice (some ⟨b, off, none⟩) s.jobs.length cap → off = 0 ∧ W.ownsRow B 46 6 (.slice (some ⟨b, 0, none⟩) s.jobs.length cap) s.jobs.length (s.jobs.flatMap Jb.c) ∧ ∀ n, n < 6 → (∃ u, W.cell? ⟨b, off + i * 6 + n, none⟩ = some u) ∧ W.frozen? ⟨b, off + i * 6 + n, none⟩ = false := by
      intro W i b off cap hW hi hv
      have hrow := (hS1.up hW).rJb
      rw [hv] at hrow
      obtain ⟨g', c', e', -⟩ := row_any hrow (by omega)
      injection e' with e1 _ e2
      injection e1 with e1
      injection e1 with e3 e4
      subst e3 e4 e2
      refine ⟨rfl, hrow, fun n hn => ⟨⟨(Jb.c s.jobs[i])[n]'(by rw [Jb.k]; exact hn), ?_⟩, row_fro hrow _⟩⟩
      rw [Nat.zero_add]
      refine row_cell hrow ?_
      rw [fm_get Jb.k _ i n hn, List.getElem?_eq_getElem hi]
      exact List.getElem?_eq_getElem _
    refine (changeJb_any (X := fun _ => False) (fun x => x.kk == r4) (fun W i W' => ∀ b off cap, s.vJb = .slice (some ⟨b, off, none⟩) s.jobs.length cap → (W' = ((W.setCell ⟨b, off + i * 6 + 4, none⟩ (.string (S r9))).setCell ⟨b, off + i * 6 + 5, none⟩ (.int .i64 r7)).drew ∨ W' = ((W.setCell ⟨b, off + i * 6 + 5, none⟩ (.int .i64 r7)).setCell ⟨b, off + i * 6 + 4, none⟩ (.string (S r9))).drew)) (Rr.row Jb.k hS1.rJb) hn ekO (fun x _ => hsay x) ekB ?_).mono ?_
    · intro W i b off cap hW hi hv
      obtain ⟨-, -, hc⟩ := hcell W i b off cap hW hi hv
      have hWR : Below (w.alloc (.cells #[.int .i64 r0, .int .i64 r1, .int .u64 (r2 : Int), .int .i64 r3, .int .u64 (r4 : Int), .int .u64 (r5 : Int), .int .u64 (r6 : Int), .int .i64 r7, .int .i64 r8, .string (S r9), .string (S r10), .string (S r11), .slice ra rn rp] 63)).heap.size (w.alloc (.cells #[.int .i64 r0, .int .i64 r1, .int .u64 (r2 : Int), .int .i64 r3, .int .u64 (r4 : Int), .int .u64 (r5 : Int), .int .u64 (r6 : Int), .int .i64 r7, .int .i64 r8, .string (S r9), .string (S r10), .string (S r11), .slice ra rn rp] 63)) W := bel_of hb1 hW (Nat.le_refl _)
      refine (jobTaken1_any (w := W) (b := b) (o := off + i * 6) (a := r9) (n := r7) (rb := w.heap.size) (by have := hlow b (by rw [hv]; rfl); omega) (by have := hlow b (by rw [hv]; rfl); omega) ((hWR.cell (p := ⟨w.heap.size, 9, none⟩) (by simp)).trans (hcr 9 _ rfl)) ((hWR.cell (p := ⟨w.heap.size, 7, none⟩) (by simp)).trans (hcr 7 _ rfl)) (hc 4 (by omega)).1 (hc 4 (by omega)).2 (hc 5 (by omega)).1 (hc 5 (by omega)).2).mono ?_
      rintro e W' ⟨rfl, hR⟩
      refine ⟨rfl, fun b' off' cap' hv' => ?_⟩
      rw [hv] at hv'
      injection hv' with e1 _ _
      injection e1 with e1
      injection e1 with e3 e4
      subst e3 e4
      exact hR
    · rintro e w' ⟨rfl, hC⟩
      refine ⟨rfl, ?_⟩
      unfold CgJb at hC
      cases hF : s.jobs.findIdx? (fun x => x.kk == r4) with
      | none =>
        rw [hF] at hC
        refine ⟨s, hS1.up hC, ?_, (hb1w.mono hB).trans (hC.mono (Nat.le_trans hB hb1w.size))⟩
        have he9 : eTaken s.e ⟨r0, r1, r2, r3, r4, r5, r6, r7, r8, r9, r10, r11, .slice ra rn rp, rv⟩ = { s.e with jobs := chgL (fun x => x.kk == r4) (fun x => { x with wkr := r9, unt := r7 }) s.jobs } := rfl
        rw [he9, chgL_none hF]
        rfl
      | some i =>
        rw [hF] at hC
        obtain ⟨W, hW, hR⟩ := hC
        have hi := (List.findIdx?_eq_some_iff_getElem.1 hF).1
        obtain ⟨g0, cap0, hv0, -⟩ := row_any (hS1.up hW).rJb (by omega)
        obtain ⟨-, hrow, -⟩ := hcell W i g0 0 cap0 hW hi hv0
        have hwR := hR g0 0 cap0 hv0
        simp only [Nat.zero_add] at hwR
        have hfin : w'.ownsRow B 46 6 s.vJb s.jobs.length ((s.jobs.set i { s.jobs[i] with wkr := r9, unt := r7 }).flatMap Jb.c) ∧ Ch (fun b => s.vJb.ownBlock = some b) W w' := by
          rw [hv0]
          have hl : i < s.jobs.length := hi
          rcases hwR with rfl | rfl
          · refine ⟨?_, (((Ch.refl (fun b => (some g0 : Option Nat) = some b) W).setCell ⟨g0, i * 6 + 4, none⟩ (.string (S r9)) (fun _ => rfl)).setCell ⟨g0, i * 6 + 5, none⟩ (.int .i64 r7) (fun _ => rfl)).drew⟩
            have := (row_put (row_put hrow (i * 6 + 4) (.string (S r9))) (i * 6 + 5) (.int .i64 r7))
            rw [fm_set Jb.k s.jobs i 4 hl (by omega) { s.jobs[i] with wkr := r9 } (.string (S r9)) rfl] at this
            rw [fm_set Jb.k _ i 5 (by simpa using hl) (by omega) { s.jobs[i] with wkr := r9, unt := r7 } (.int .i64 r7) (by rw [List.getElem_set_self]; rfl), List.set_set] at this
            exact this
          · refine ⟨?_, (((Ch.refl (fun b => (some g0 : Option Nat) = some b) W).setCell ⟨g0, i * 6 + 5, none⟩ (.int .i64 r7) (fun _ => rfl)).setCell ⟨g0, i * 6 + 4, none⟩ (.string (S r9)) (fun _ => rfl)).drew⟩
            have := (row_put (row_put hrow (i * 6 + 5) (.int .i64 r7)) (i * 6 + 4) (.string (S r9)))
            rw [fm_set Jb.k s.jobs i 5 hl (by omega) { s.jobs[i] with unt := r7 } (.int .i64 r7) rfl] at this
            rw [fm_set Jb.k _ i 4 (by simpa using hl) (by omega) { s.jobs[i] with unt := r7, wkr := r9 } (.string (S r9)) (by rw [List.getElem_set_self]; rfl), List.set_set] at this
            exact this
        have hS2 := (hS1.up hW).inJb (l := s.jobs.set i { s.jobs[i] with wkr := r9, unt := r7 }) (by rw [List.length_set]; exact hfin.1) hfin.2
        refine ⟨_, hS2, ?_, ?_⟩
        · have he9 : eTaken s.e ⟨r0, r1, r2, r3, r4, r5, r6, r7, r8, r9, r10, r11, .slice ra rn rp, rv⟩ = { s.e with jobs := chgL (fun x => x.kk == r4) (fun x => { x with wkr := r9, unt := r7 }) s.jobs } := rfl
          rw [he9, chgL_some hF hi]
          rfl
        · have hb2 : Below B w W := (hb1w.mono hB).trans (hW.mono (Nat.le_trans hB hb1w.size))
          exact hb2.trans (Own.ge hfin.2 (Nat.le_trans hB (Nat.le_trans hb1w.size hW.size)) (fun b hb => ((hS1.up hW).rJb.lt b hb).1))
  obtain ⟨aI, cI, hsI, -⟩ := row_slice h.rJb
  have HS : Hid (∀ W, Below (w.alloc (.cells #[.int .i64 r0, .int .i64 r1, .int .u64 (r2 : Int), .int .i64 r3, .int .u64 (r4 : Int), .int .u64 (r5 : Int), .int .u64 (r6 : Int), .int .i64 r7, .int .i64 r8, .string (S r9), .string (S r10), .string (S r11), .slice ra rn rp] 63)).heap.size (w.alloc (.cells #[.int .i64 r0, .int .i64 r1, .int .u64 (r2 : Int), .int .i64 r3, .int .u64 (r4 : Int), .int .u64 (r5 : Int), .int .u64 (r6 : Int), .int .i64 r7, .int .i64 r8, .string (S r9), .string (S r10), .string (S r11), .slice ra rn rp] 63)) W → W.cell? ⟨sb, 6, none⟩ = some s.vJb ∧ W.cell? ⟨w.heap.size, 4, none⟩ = some (.int .u64 (r4 : Int))) := fun W hW => ⟨(h.up (bel_of hbw hW (Nat.le_refl _))).cell (j := 6) rfl, (hW.cell (p := ⟨w.heap.size, 4, none⟩) (by simp)).trans (hcr 4 _ rfl)⟩
  have CO := fun W => ofJb_any r4 W
  rw [hsI] at HA HS
  clear h hn ekO ekB hsI hB
  obtain ⟨m5, m4⟩ := HS.out _ (Below.refl _ _)
  simp only [kU] at CO
  clear hcr
  go_enter Tryz.func63, Tryz.ntmps63
  go_wp2
  generalize (w.alloc (.cells #[.int .i64 r0, .int .i64 r1, .int .u64 (r2 : Int), .int .i64 r3, .int .u64 (r4 : Int), .int .u64 (r5 : Int), .int .u64 (r6 : Int), .int .i64 r7, .int .i64 r8, .string (S r9), .string (S r10), .string (S r11), .slice ra rn rp] 63)) = W1 at *
  go_region_with (first
    | (go_at_call 56; refine (CO _).mono ?_; rintro e w1 ⟨caps, rfl, hsay, hb1⟩; (have hX : Below W1.heap.size W1 w1 := (Below.refl _ W1).drew.trans (hb1.mono (Nat.le_refl _))); obtain ⟨n5, n4⟩ := HS.out w1 hX; (have CA := HA.out w1 caps hX (fun x => hsay (fun _ => False) (fun _ e => e.elim) x)); clear hsay hb1 CO HA)
    | (go_at_call 94; refine CA.mono ?_; rintro e w2 ⟨rfl, hE⟩; (have K1 : Hid _ := hE); clear hE CA))
  all_goals
    go_wp2
    go_end0
    exact ⟨rfl, K1.out⟩
end Go.Proofs.YthmfcloecmnfnaaGreat.f13
namespace Go.Proofs.YthmfcloecmnfnaaGreat.f13
open Go.RowKit Go.Shelf Go.Sort
open Go.Lib hiding intOf

set_option maxHeartbeats 1000000 in
theorem jobBack1_any (n : Int) {w : World} {b o : Nat} {rb : Nat} (hr7 : w.cell? ⟨rb, 7, none⟩ = some (.int .i64 n)) (hc3 : ∃ u, w.cell? ⟨b, o + 3, none⟩ = some u) (hf3 : w.frozen? ⟨b, o + 3, none⟩ = false) (hc4 : ∃ u, w.cell? ⟨b, o + 4, none⟩ = some u) (hf4 : w.frozen? ⟨b, o + 4, none⟩ = false) (hc5 : ∃ u, w.cell? ⟨b, o + 5, none⟩ = some u) (hf5 : w.frozen? ⟨b, o + 5, none⟩ = false) :
    Calls Tryz.prog 96 #[.pointer (some ⟨b, o, none⟩), .pointer (some ⟨rb, 0, none⟩)] w fun e w' => e = .returned (.tuple #[]) ∧ (w' = (((w.setCell ⟨b, o + 3, none⟩ (.int .i64 n)).setCell ⟨b, o + 4, none⟩ (.string ⟨#[]⟩)).setCell ⟨b, o + 5, none⟩ (.int .i64 0))) := by
  obtain ⟨u3, hc3⟩ := hc3
  obtain ⟨u4, hc4⟩ := hc4
  obtain ⟨u5, hc5⟩ := hc5
  go_enter Tryz.func96, Tryz.ntmps96
  go_wp2
  go_end0
  exact ⟨rfl, by simp⟩

/-- what jobBack does -/
def eBack (s : St) (r : Rc) : St := { s with jobs := chgL (fun x => x.kk == r.k1) (fun x => { x with retr := r.n, wkr := [], unt := 0 }) s.jobs }
set_option maxHeartbeats 4000000 in
set_option maxRecDepth 100000 in
theorem jobBack_any {B : Nat} {w : World} {sb : Nat} {s : St} {r : Rc} (h : Sx B w sb s) (hB : B ≤ w.heap.size) (hn : s.jobs.length ≤ 4611686018427387904) (hr : Rr 4 Vr.c w r.vv r.v) :
    Calls Tryz.prog 64 #[.pointer (some ⟨sb, 0, none⟩), .agg r.cs.toArray] w fun e w' => e = .returned (.tuple #[]) ∧ Eff B w sb (eBack s.e r) w' := by
  obtain ⟨ra, rp, hra, -⟩ := id hr
  obtain ⟨r0, r1, r2, r3, r4, r5, r6, r7, r8, r9, r10, r11, rvv, rv⟩ := r
  simp only at hra hr
  subst hra
  clear hr
  simp only [Rc.cs]
  generalize hrn : rv.length = rn at *
  have hbw : Below w.heap.size w (w.alloc (.cells #[.int .i64 r0, .int .i64 r1, .int .u64 (r2 : Int), .int .i64 r3, .int .u64 (r4 : Int), .int .u64 (r5 : Int), .int .u64 (r6 : Int), .int .i64 r7, .int .i64 r8, .string (S r9), .string (S r10), .string (S r11), .slice ra rn rp] 63)) := (Below.refl _ w).alloc (Nat.le_refl _) _
  have ekO : Ent0 80 := enters_of Tryz.func80 (by kernel_rfl) rfl
  have ekB : Ent0 96 := enters_of Tryz.func96 (by kernel_rfl) rfl
  have hcr : ∀ (j : Nat) (u : Value), ([.int .i64 r0, .int .i64 r1, .int .u64 (r2 : Int), .int .i64 r3, .int .u64 (r4 : Int), .int .u64 (r5 : Int), .int .u64 (r6 : Int), .int .i64 r7, .int .i64 r8, .string (S r9), .string (S r10), .string (S r11), .slice ra rn rp] : List Value)[j]? = some u → (w.alloc (.cells #[.int .i64 r0, .int .i64 r1, .int .u64 (r2 : Int), .int .i64 r3, .int .u64 (r4 : Int), .int .u64 (r5 : Int), .int .u64 (r6 : Int), .int .i64 r7, .int .i64 r8, .string (S r9), .string (S r10), .string (S r11), .slice ra rn rp] 63)).cell? ⟨w.heap.size, j, none⟩ = some u := fun j u hj => by
    rw [World.cell?_alloc_new]; simpa using hj
  have HA : Hid (∀ w1 caps, Below (w.alloc (.cells #[.int .i64 r0, .int .i64 r1, .int .u64 (r2 : Int), .int .i64 r3, .int .u64 (r4 : Int), .int .u64 (r5 : Int), .int .u64 (r6 : Int), .int .i64 r7, .int .i64 r8, .string (S r9), .string (S r10), .string (S r11), .slice ra rn rp] 63)).heap.size (w.alloc (.cells #[.int .i64 r0, .int .i64 r1, .int .u64 (r2 : Int), .int .i64 r3, .int .u64 (r4 : Int), .int .u64 (r5 : Int), .int .u64 (r6 : Int), .int .i64 r7, .int .i64 r8, .string (S r9), .string (S r10), .string (S r11), .slice ra rn rp] 63)) w1 → (∀ x : Jb, Say (fun _ => False) w1 80 caps #[.agg (Jb.c x).toArray] (x.kk == r4)) → Calls Tryz.prog 94 #[s.vJb, .func (.func 80) #[] caps, .func (.func 96) #[] #[.pointer (some ⟨w.heap.size, 0, none⟩)]] w1 fun e w' => e = .returned (.tuple #[]) ∧ Eff B w sb (eBack s.e ⟨r0, r1, r2, r3, r4, r5, r6, r7, r8, r9, r10, r11, .slice ra rn rp, rv⟩) w') := by
    intro w1 caps hb1 hsay
    have hb1w : Below w.heap.size w w1 := bel_of hbw hb1 (Nat.le_refl _)
    have hS1 := h.up hb1w
    have hlow : ∀ g, s.vJb.ownBlock = some g → g < w.heap.size := fun g hg => (h.rJb.lt g hg).2
    have hcell : ∀ (W : World) (i b off cap : Nat), Below w1.heap.size w1 W → i < s.jobs.length → s.vJb = .slice (some ⟨b, off, none⟩) s.jobs.length cap → off = 0 ∧ W.ownsRow B 46 6 (.slice (some ⟨b, 0, none⟩) s.jobs.length cap) s.jobs.length (s.jobs.flatMap Jb.c) ∧ ∀ n, n < 6 → (∃ u, W.cell? ⟨b, off + i * 6 + n, none⟩ = some u) ∧ W.frozen? ⟨b, off + i * 6 + n, none⟩ = false := by
      intro W i b off cap hW hi hv
      have hrow := (hS1.up hW).rJb
      rw [hv] at hrow
      obtain ⟨g', c', e', -⟩ := row_any hrow (by omega)
      injection e' with e1 _ e2
      injection e1 with e1
      injection e1 with e3 e4
      subst e3 e4 e2
      refine ⟨rfl, hrow, fun n hn => ⟨⟨(Jb.c s.jobs[i])[n]'(by rw [Jb.k]; exact hn), ?_⟩, row_fro hrow _⟩⟩
      rw [Nat.zero_add]
      refine row_cell hrow ?_
      rw [fm_get Jb.k _ i n hn, List.getElem?_eq_getElem hi]
      exact List.getElem?_eq_getElem _
    refine (changeJb_any (X := fun _ => False) (fun x => x.kk == r4) (fun W i W' => ∀ b off cap, s.vJb = .slice (some ⟨b, off, none⟩) s.jobs.length cap → (W' = (((W.setCell ⟨b, off + i * 6 + 3, none⟩ (.int .i64 r7)).setCell ⟨b, off + i * 6 + 4, none⟩ (.string ⟨#[]⟩)).setCell ⟨b, off + i * 6 + 5, none⟩ (.int .i64 0)))) (Rr.row Jb.k hS1.rJb) hn ekO (fun x _ => hsay x) ekB ?_).mono ?_
    · intro W i b off cap hW hi hv
      obtain ⟨-, -, hc⟩ := hcell W i b off cap hW hi hv
      have hWR : Below (w.alloc (.cells #[.int .i64 r0, .int .i64 r1, .int .u64 (r2 : Int), .int .i64 r3, .int .u64 (r4 : Int), .int .u64 (r5 : Int), .int .u64 (r6 : Int), .int .i64 r7, .int .i64 r8, .string (S r9), .string (S r10), .string (S r11), .slice ra rn rp] 63)).heap.size (w.alloc (.cells #[.int .i64 r0, .int .i64 r1, .int .u64 (r2 : Int), .int .i64 r3, .int .u64 (r4 : Int), .int .u64 (r5 : Int), .int .u64 (r6 : Int), .int .i64 r7, .int .i64 r8, .string (S r9), .string (S r10), .string (S r11), .slice ra rn rp] 63)) W := bel_of hb1 hW (Nat.le_refl _)
      refine (jobBack1_any (w := W) (b := b) (o := off + i * 6) (n := r7) (rb := w.heap.size) ((hWR.cell (p := ⟨w.heap.size, 7, none⟩) (by simp)).trans (hcr 7 _ rfl)) (hc 3 (by omega)).1 (hc 3 (by omega)).2 (hc 4 (by omega)).1 (hc 4 (by omega)).2 (hc 5 (by omega)).1 (hc 5 (by omega)).2).mono ?_
      rintro e W' ⟨rfl, hR⟩
      refine ⟨rfl, fun b' off' cap' hv' => ?_⟩
      rw [hv] at hv'
      injection hv' with e1 _ _
      injection e1 with e1
      injection e1 with e3 e4
      subst e3 e4
      exact hR
    · rintro e w' ⟨rfl, hC⟩
      refine ⟨rfl, ?_⟩
      unfold CgJb at hC
      cases hF : s.jobs.findIdx? (fun x => x.kk == r4) with
      | none =>
        rw [hF] at hC
        refine ⟨s, hS1.up hC, ?_, (hb1w.mono hB).trans (hC.mono (Nat.le_trans hB hb1w.size))⟩
        have he9 : eBack s.e ⟨r0, r1, r2, r3, r4, r5, r6, r7, r8, r9, r10, r11, .slice ra rn rp, rv⟩ = { s.e with jobs := chgL (fun x => x.kk == r4) (fun x => { x with retr := r7, wkr := [], unt := 0 }) s.jobs } := rfl
        rw [he9, chgL_none hF]
        rfl
      | some i =>
        rw [hF] at hC
        obtain ⟨W, hW, hR⟩ := hC
        have hi := (List.findIdx?_eq_some_iff_getElem.1 hF).1
        obtain ⟨g0, cap0, hv0, -⟩ := row_any (hS1.up hW).rJb (by omega)
        obtain ⟨-, hrow, -⟩ := hcell W i g0 0 cap0 hW hi hv0
        have hwR := hR g0 0 cap0 hv0
        simp only [Nat.zero_add] at hwR
        have hfin : w'.ownsRow B 46 6 s.vJb s.jobs.length ((s.jobs.set i { s.jobs[i] with retr := r7, wkr := [], unt := 0 }).flatMap Jb.c) ∧ Ch (fun b => s.vJb.ownBlock = some b) W w' := by
          rw [hv0]
          have hl : i < s.jobs.length := hi
          subst hwR
          refine ⟨?_, ((((Ch.refl (fun b => (some g0 : Option Nat) = some b) W).setCell ⟨g0, i * 6 + 3, none⟩ (.int .i64 r7) (fun _ => rfl)).setCell ⟨g0, i * 6 + 4, none⟩ (.string ⟨#[]⟩) (fun _ => rfl)).setCell ⟨g0, i * 6 + 5, none⟩ (.int .i64 0) (fun _ => rfl))⟩
          have := (row_put (row_put (row_put hrow (i * 6 + 3) (.int .i64 r7)) (i * 6 + 4) (.string ⟨#[]⟩)) (i * 6 + 5) (.int .i64 0))
          rw [fm_set Jb.k s.jobs i 3 hl (by omega) { s.jobs[i] with retr := r7 } (.int .i64 r7) rfl] at this
          rw [fm_set Jb.k _ i 4 (by simpa using hl) (by omega) { s.jobs[i] with retr := r7, wkr := [] } (.string ⟨#[]⟩) (by rw [List.getElem_set_self]; rfl), List.set_set] at this
          rw [fm_set Jb.k _ i 5 (by simpa using hl) (by omega) { s.jobs[i] with retr := r7, wkr := [], unt := 0 } (.int .i64 0) (by rw [List.getElem_set_self]; rfl), List.set_set] at this
          exact this
        have hS2 := (hS1.up hW).inJb (l := s.jobs.set i { s.jobs[i] with retr := r7, wkr := [], unt := 0 }) (by rw [List.length_set]; exact hfin.1) hfin.2
        refine ⟨_, hS2, ?_, ?_⟩
        · have he9 : eBack s.e ⟨r0, r1, r2, r3, r4, r5, r6, r7, r8, r9, r10, r11, .slice ra rn rp, rv⟩ = { s.e with jobs := chgL (fun x => x.kk == r4) (fun x => { x with retr := r7, wkr := [], unt := 0 }) s.jobs } := rfl
          rw [he9, chgL_some hF hi]
          rfl
        · have hb2 : Below B w W := (hb1w.mono hB).trans (hW.mono (Nat.le_trans hB hb1w.size))
          exact hb2.trans (Own.ge hfin.2 (Nat.le_trans hB (Nat.le_trans hb1w.size hW.size)) (fun b hb => ((hS1.up hW).rJb.lt b hb).1))
  obtain ⟨aI, cI, hsI, -⟩ := row_slice h.rJb
  have HS : Hid (∀ W, Below (w.alloc (.cells #[.int .i64 r0, .int .i64 r1, .int .u64 (r2 : Int), .int .i64 r3, .int .u64 (r4 : Int), .int .u64 (r5 : Int), .int .u64 (r6 : Int), .int .i64 r7, .int .i64 r8, .string (S r9), .string (S r10), .string (S r11), .slice ra rn rp] 63)).heap.size (w.alloc (.cells #[.int .i64 r0, .int .i64 r1, .int .u64 (r2 : Int), .int .i64 r3, .int .u64 (r4 : Int), .int .u64 (r5 : Int), .int .u64 (r6 : Int), .int .i64 r7, .int .i64 r8, .string (S r9), .string (S r10), .string (S r11), .slice ra rn rp] 63)) W → W.cell? ⟨sb, 6, none⟩ = some s.vJb ∧ W.cell? ⟨w.heap.size, 4, none⟩ = some (.int .u64 (r4 : Int))) := fun W hW => ⟨(h.up (bel_of hbw hW (Nat.le_refl _))).cell (j := 6) rfl, (hW.cell (p := ⟨w.heap.size, 4, none⟩) (by simp)).trans (hcr 4 _ rfl)⟩
  have CO := fun W => ofJb_any r4 W
  rw [hsI] at HA HS
  clear h hn ekO ekB hsI hB
  obtain ⟨m5, m4⟩ := HS.out _ (Below.refl _ _)
  simp only [kU] at CO
  clear hcr
  go_enter Tryz.func64, Tryz.ntmps64
  go_wp2
  generalize (w.alloc (.cells #[.int .i64 r0, .int .i64 r1, .int .u64 (r2 : Int), .int .i64 r3, .int .u64 (r4 : Int), .int .u64 (r5 : Int), .int .u64 (r6 : Int), .int .i64 r7, .int .i64 r8, .string (S r9), .string (S r10), .string (S r11), .slice ra rn rp] 63)) = W1 at *
  go_region_with (first
    | (go_at_call 56; refine (CO _).mono ?_; rintro e w1 ⟨caps, rfl, hsay, hb1⟩; (have hX : Below W1.heap.size W1 w1 := (Below.refl _ W1).drew.trans (hb1.mono (Nat.le_refl _))); obtain ⟨n5, n4⟩ := HS.out w1 hX; (have CA := HA.out w1 caps hX (fun x => hsay (fun _ => False) (fun _ e => e.elim) x)); clear hsay hb1 CO HA)
    | (go_at_call 94; refine CA.mono ?_; rintro e w2 ⟨rfl, hE⟩; (have K1 : Hid _ := hE); clear hE CA))
  all_goals
    go_wp2
    go_end0
    exact ⟨rfl, K1.out⟩
end Go.Proofs.YthmfcloecmnfnaaGreat.f13

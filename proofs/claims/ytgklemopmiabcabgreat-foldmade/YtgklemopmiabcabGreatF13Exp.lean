/-
  Package fold's expired.
-/
import Derived.Test.YtgklemopmiabcabGreatGLef
import Derived.Test.YtgklemopmiabcabGreatF13De2
namespace Go.Proofs.YtgklemopmiabcabGreat.f13
open Go.RowKit Go.Shelf Go.Sort
open Go.Lib hiding intOf

/-- of one list some are left (with what is within them) -/
theorem Sx.flMs {B : Nat} {w w2 : World} {sb : Nat} {s : St} {q : Ms → Bool} {v : Value} (h : Sx B w sb s) (hp : w2.ownsRow B 90 7 v (s.msgs.filter q).length ((s.msgs.filter q).flatMap Ms.c)) (hc : Ch (fun g => s.vMs.ownBlock = some g) w w2) (hn : ∀ g, v.ownBlock = some g → s.vMs.ownBlock = some g ∨ w.heap.size ≤ g) :
    Sx B (w2.setCell ⟨sb, 11, none⟩ v) sb { s with vMs := v, msgs := s.msgs.filter q } ∧ (∀ (j : Nat) (u : Value), s.c[j]? = some u → w2.cell? ⟨sb, j, none⟩ = some u) ∧ (∀ j : Nat, w2.frozen? ⟨sb, j, none⟩ = false) := by
  have h2 := Own.perm (M := Ms.rw s.vMs s.msgs :: (bx sb s.c :: (De.rw s.vDe s.procs :: In.rw s.vIn s.insts :: Tk.rw s.vTk s.tokens :: Jb.rw s.vJb s.jobs :: Tm.rw s.vTm s.timers :: Sb.rw s.vSb s.subs :: Kp.rw s.vKp s.kept :: Ls.rw s.vLs s.listed :: s.inner))) h (perm_ac fun z => by
    simp only [St.rows, St.main, List.count_append, List.count_cons, List.count_nil, Nat.zero_add]
    ac_rfl)
  have h3 := h2.turn (r' := Ms.rw v (s.msgs.filter q)) hc hp hn
  have h4 := h3.of_count (M := bx sb s.c :: (De.rw s.vDe s.procs :: In.rw s.vIn s.insts :: Tk.rw s.vTk s.tokens :: Jb.rw s.vJb s.jobs :: Tm.rw s.vTm s.timers :: Sb.rw s.vSb s.subs :: Kp.rw s.vKp s.kept :: Ls.rw s.vLs s.listed :: Ms.rw v (s.msgs.filter q) :: (s.insts.map In.r ++ (s.listed.map Ls.r ++ ((s.msgs.filter q).map Ms.r ++ (s.msgs.filter q).map Ms.q))))) (fun z => by
    have h7 := (List.filter_sublist (p := q) (l := s.msgs)).map Ms.r |>.count_le z
    have h8 := (List.filter_sublist (p := q) (l := s.msgs)).map Ms.q |>.count_le z
    simp only [St.inner, List.count_append, List.count_cons]
    omega)
  exact ⟨bx.put h4 11 v, fun j u hj => bx.cell h4 (List.mem_cons_self ..) hj, fun j => bx.fro h4 (List.mem_cons_self ..) j⟩

/-- what expired does -/
def eExpired (s : St) (r : Rc) : St := { s with msgs := s.msgs.filter fun x => !(x.kk == r.k1) }
set_option maxHeartbeats 4000000 in
set_option maxRecDepth 100000 in
theorem expired_any {B : Nat} {w : World} {sb : Nat} {s : St} {r : Rc} (h : Sx B w sb s) (hB : B ≤ w.heap.size) (hn : s.msgs.length ≤ 4611686018427387904) (hr : Rr 4 Vr.c w r.vv r.v) :
    Calls Tryz.prog 43 #[.pointer (some ⟨sb, 0, none⟩), .agg r.cs.toArray] w fun e w' => e = .returned (.tuple #[]) ∧ Eff B w sb (eExpired s.e r) w' := by
  obtain ⟨ra, rp, hra, -⟩ := id hr
  obtain ⟨r0, r1, r2, r3, r4, r5, r6, r7, r8, r9, r10, r11, rvv, rv⟩ := r
  simp only at hra hr
  subst hra
  clear hr
  simp only [Rc.cs]
  generalize hrn : rv.length = rn at *
  have hbw : Below w.heap.size w (w.alloc (.cells #[.int .i64 r0, .int .i64 r1, .int .u64 (r2 : Int), .int .i64 r3, .int .u64 (r4 : Int), .int .u64 (r5 : Int), .int .u64 (r6 : Int), .int .i64 r7, .int .i64 r8, .string (S r9), .string (S r10), .string (S r11), .slice ra rn rp] 39)) := (Below.refl _ w).alloc (Nat.le_refl _) _
  have ekO : Ent0 151 := enters_of Tryz.func151 (by kernel_rfl) rfl
  have hcr : (w.alloc (.cells #[.int .i64 r0, .int .i64 r1, .int .u64 (r2 : Int), .int .i64 r3, .int .u64 (r4 : Int), .int .u64 (r5 : Int), .int .u64 (r6 : Int), .int .i64 r7, .int .i64 r8, .string (S r9), .string (S r10), .string (S r11), .slice ra rn rp] 39)).cell? ⟨w.heap.size, 4, none⟩ = some (.int .u64 (r4 : Int)) := World.cell?_alloc_new _ _ _ _
  have hszR : (w.alloc (.cells #[.int .i64 r0, .int .i64 r1, .int .u64 (r2 : Int), .int .i64 r3, .int .u64 (r4 : Int), .int .u64 (r5 : Int), .int .u64 (r6 : Int), .int .i64 r7, .int .i64 r8, .string (S r9), .string (S r10), .string (S r11), .slice ra rn rp] 39)).heap.size = w.heap.size + 1 := by simp
  have hsv := Own.sv (Own.sub h (List.sublist_cons_self _ _))
  have HA : Hid (∀ w1 caps, Below (w.alloc (.cells #[.int .i64 r0, .int .i64 r1, .int .u64 (r2 : Int), .int .i64 r3, .int .u64 (r4 : Int), .int .u64 (r5 : Int), .int .u64 (r6 : Int), .int .i64 r7, .int .i64 r8, .string (S r9), .string (S r10), .string (S r11), .slice ra rn rp] 39)).heap.size (w.alloc (.cells #[.int .i64 r0, .int .i64 r1, .int .u64 (r2 : Int), .int .i64 r3, .int .u64 (r4 : Int), .int .u64 (r5 : Int), .int .u64 (r6 : Int), .int .i64 r7, .int .i64 r8, .string (S r9), .string (S r10), .string (S r11), .slice ra rn rp] 39)) w1 → (∀ (X : Nat → Prop), (∀ g, X g → g < w.heap.size + 1) → ∀ x : Ms, x.vv.oneCell' = true → x.iv.oneCell' = true → Say X w1 151 caps #[.agg (Ms.c x).toArray] (x.kk == r4)) → Calls Tryz.prog 92 #[s.vMs, .func (.func 151) #[] caps] w1 fun e w2 => ∃ a n c, e = .returned (.slice a n c) ∧ (∃ u, w2.cell? ⟨sb, 11, none⟩ = some u) ∧ w2.frozen? ⟨sb, 11, none⟩ = false ∧ Eff B w sb (eExpired s.e ⟨r0, r1, r2, r3, r4, r5, r6, r7, r8, r9, r10, r11, .slice ra rn rp, rv⟩) (w2.setCell ⟨sb, 11, none⟩ (.slice a n c))) := by
    intro w1 caps hb1 hsay
    have hb1w : Below w.heap.size w w1 := bel_of hbw hb1 (Nat.le_refl _)
    have hS1 := h.up hb1w
    refine (takeMs_any (B := B) (fun x => x.kk == r4) hS1.rMs hn ekO (fun x hx => hsay (fun g => s.vMs.ownBlock = some g) (fun g hg => by have := (h.rMs.lt g hg).2; omega) x (hsv.iMs x hx).oneCell (hsv.qMs x hx).oneCell) (fun x hx => by obtain ⟨a, c, e, -⟩ := hsv.iMs x hx; exact ⟨a, _, c, e⟩) (fun x hx => by obtain ⟨a, c, e, -⟩ := hsv.qMs x hx; exact ⟨a, _, c, e⟩)).mono ?_
    rintro e w2 ⟨v2, rfl, q2, c2, o2⟩
    obtain ⟨a, c, rfl, -⟩ := row_slice q2
    obtain ⟨k1, k2, k3⟩ := hS1.flMs q2 c2 (fun g hg => .inl (by rw [← o2]; exact hg))
    have hlt := h.lt
    refine ⟨a, _, c, rfl, ⟨_, k2 11 _ rfl⟩, k3 11, _, k1, ?_, ?_⟩
    · simp only [St.e, eExpired, List.filter_map]
      rfl
    · have b1 : Below B w w2 := (hb1w.mono hB).trans (Own.ge c2 (Nat.le_trans hB hb1w.size) (fun g hg => (hS1.rMs.lt g hg).1))
      exact b1.trans (((Ch.refl (fun b => b = sb) w2).setCell ⟨sb, 11, none⟩ _ (fun _ => rfl)).below (Nat.le_trans hB (Nat.le_trans hb1w.size c2.size)) (fun g hg e => by omega))
  obtain ⟨aI, cI, hsI, -⟩ := row_slice h.rMs
  have HS : Hid (∀ W, Below (w.alloc (.cells #[.int .i64 r0, .int .i64 r1, .int .u64 (r2 : Int), .int .i64 r3, .int .u64 (r4 : Int), .int .u64 (r5 : Int), .int .u64 (r6 : Int), .int .i64 r7, .int .i64 r8, .string (S r9), .string (S r10), .string (S r11), .slice ra rn rp] 39)).heap.size (w.alloc (.cells #[.int .i64 r0, .int .i64 r1, .int .u64 (r2 : Int), .int .i64 r3, .int .u64 (r4 : Int), .int .u64 (r5 : Int), .int .u64 (r6 : Int), .int .i64 r7, .int .i64 r8, .string (S r9), .string (S r10), .string (S r11), .slice ra rn rp] 39)) W → W.cell? ⟨sb, 11, none⟩ = some s.vMs ∧ W.frozen? ⟨sb, 11, none⟩ = false ∧ W.cell? ⟨w.heap.size, 4, none⟩ = some (.int .u64 (r4 : Int))) := fun W hW => ⟨(h.up (bel_of hbw hW (Nat.le_refl _))).cell (j := 11) rfl, (h.up (bel_of hbw hW (Nat.le_refl _))).fro 11, (hW.cell (p := ⟨w.heap.size, 4, none⟩) (by simp)).trans hcr⟩
  have CO := fun W => ofMs_any r4 W
  rw [hsI] at HA HS
  clear h ekO hsI hB hsv hn
  obtain ⟨m5, f5, m4⟩ := HS.out _ (Below.refl _ _)
  simp only [kU] at CO
  clear hcr
  go_enter Tryz.func43, Tryz.ntmps43
  go_wp2
  generalize (w.alloc (.cells #[.int .i64 r0, .int .i64 r1, .int .u64 (r2 : Int), .int .i64 r3, .int .u64 (r4 : Int), .int .u64 (r5 : Int), .int .u64 (r6 : Int), .int .i64 r7, .int .i64 r8, .string (S r9), .string (S r10), .string (S r11), .slice ra rn rp] 39)) = W1 at *
  go_region_with (first
    | (go_at_call 93; refine (CO _).mono ?_; rintro e w1 ⟨caps, rfl, hsay, hb1⟩; (have hX : Below W1.heap.size W1 w1 := (Below.refl _ W1).drew.trans (hb1.mono (Nat.le_refl _))); obtain ⟨n5, g5, n4⟩ := HS.out w1 hX; (have CA := HA.out w1 caps hX (fun X hX => hsay X (fun g hg => by (have := hX g hg; show g < W1.heap.size; omega)))); clear hsay hb1 CO HA)
    | (go_at_call 92; refine CA.mono ?_; rintro e w2 ⟨a2, n2, c2, rfl, ⟨u2, p2⟩, g2, hw⟩; (have K1 : Hid _ := hw); clear hw CA))
  all_goals
    go_wp2
    go_end0
    exact ⟨rfl, K1.out⟩
end Go.Proofs.YtgklemopmiabcabGreat.f13

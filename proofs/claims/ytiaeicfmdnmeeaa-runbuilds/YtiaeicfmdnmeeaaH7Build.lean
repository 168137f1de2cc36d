/-
  Package run's Build.
-/
import Derived.Test.YtiaeicfmdnmeeaaH7St
namespace Go.Proofs.Ytiaeicfmdnmeeaa
open Go.RowKit Go.Shelf Go.Sort
open Go.Lib hiding intOf

attribute [local go_sem] Oper.semAt_some

set_option maxRecDepth 100000 in
set_option maxHeartbeats 1000000 in
theorem Build_arg {w : World} {sv : Value} {l : List R7} {Xs : Nat → Prop} (block : Int) (hS : Sn w sv l Xs) (hbl : block < 64 ∨ 4096 < block) :
    Calls Try.prog 14 #[.int .i64 block, sv] w fun e w' => e = .returned (.tuple #[.string (S (bld block l).1), .int .i64 ((bld block l).2 : Int)]) ∧ Below w.heap.size w w' := by
  have HE : Hid (bld block l = ([], 1)) := by show _ = _; unfold bld; rw [if_pos hbl]
  rw [HE.out]
  have hB : Below w.heap.size w ((w.alloc (.cells #[.string ⟨#[]⟩] 9)).alloc (.cells #[.int .i64 1] 24)) := ((Below.refl _ w).alloc (Nat.le_refl _) _).alloc (by simp) _
  rcases hS.form with rfl | ⟨gf, lb, rfl⟩
  all_goals
    rcases hbl with hb | hb
    all_goals
      refine (callsIn_wide (n := 9)).1 ?_
      refine callsIn_of_wp_marks Try.func14 rfl trivial ?_ rfl
      simp only [Try.ntmps14, List.size_toArray, List.length_cons, List.length_nil, Nat.reduceAdd, Nat.reduceSub, Array.replicate_succ, Array.replicate_zero, List.push_toArray, List.append_toArray, List.nil_append, List.cons_append]
      gi_wp2
      exact ⟨.tuple #[.string ⟨#[]⟩, .int .i64 1], by simp [results, Try.results14, go_sem], rfl, hB⟩

/-- the numbers of Build's own blocks -/
structure Bn where
  n : Nat
  r5 : Nat
  wb : Nat
  b6 : Nat
  ba : Nat
  bb : Nat
  b7 : Nat
  m : Nat
def Bn.ok (b : Bn) : Prop := b.n < b.r5 ∧ b.r5 < b.wb ∧ b.wb < b.b6 ∧ b.b6 < b.ba ∧ b.ba < b.bb ∧ b.bb < b.b7 ∧ b.b7 < b.m
/-- what stands in Build's loop -/
structure Bi (w : World) (b : Bn) (blk : Nat) (s : Nat) (pre : List R7) (W : World) : Prop where
  r4 : Bx W b.n (.string ⟨#[]⟩) 9
  r5 : Bx W b.r5 (.int .i64 0) 24
  b6 : Bx W b.b6 (.pointer (some ⟨b.wb, 0, none⟩)) 77
  b7 : Bx W b.b7 (ckv b.ba b.bb) 81
  ck : Ck W b.ba b.bb (las none pre)
  fl : flt none pre = 0
  ws : ∃ bs cur, Ws (fun x => x = b.wb ∨ (s ≤ x ∧ x < W.heap.size)) W b.wb b.wb blk bs cur ∧ St7 blk pre bs cur
  bw : Below b.n w W
  m2 : b.m + 2 ≤ s
  m3 : s ≤ W.heap.size
theorem Bi.sb {w : World} {b : Bn} {blk : Nat} {s : Nat} {pre : List R7} {W W' : World} (h : Bi w b blk s pre W) (ho : b.ok) (hn : b.n ≤ w.heap.size) (hs : Sb b.m s W W') : Bi w b blk s pre W' := by
  have h2 := h.m2
  have h3 := h.m3
  obtain ⟨o1, o2, o3, o4, o5, o6, o7⟩ := ho
  obtain ⟨bs, cur, k1, k2⟩ := h.ws
  refine ⟨hs.bx h.r4 (.inl (by omega)), hs.bx h.r5 (.inl (by omega)), hs.bx h.b6 (.inl (by omega)), hs.bx h.b7 (.inl (by omega)), ⟨hs.bx h.ck.ka (.inl (by omega)), hs.bx h.ck.kb (.inl (by omega))⟩, h.fl, ⟨bs, cur, ?_, k2⟩, hs.below h.bw hn (by omega), h2, Nat.le_trans h3 hs.size⟩
  refine (k1.sb hs ?_).wide (fun x hx hl => hx.imp id (fun h => ⟨h.1, hl⟩))
  rintro x (rfl | hx)
  · left; omega
  · right; exact hx.1
theorem Wt.sb {w w' : World} {B wb blk n s : Nat} {dv sv lv : Value} {D L fk : List UInt8} {sp : List (Nat × List UInt8)} (h : Wt w B wb blk dv sv lv D sp L fk) (hs : Sb n s w w') (hX : ∀ x, wf wb dv sv lv x → x < n ∨ s ≤ x) : Wt w' B wb blk dv sv lv D sp L fk := by
  refine h.ch hs (fun x hx hb => ?_)
  obtain ⟨o, ho, hc⟩ := wf_cells h hx
  rcases hb with ⟨hb1, hb2 | ⟨o', ho', hc'⟩⟩
  · have := hX x hx; omega
  · rw [ho] at ho'; cases ho'; rw [hc] at hc'; cases hc'
/-- what stands where it is left with an error -/
structure Bx7 (w : World) (b : Bn) (er : Nat) (W : World) : Prop where
  r4 : Bx W b.n (.string ⟨#[]⟩) 9
  r5 : Bx W b.r5 (.int .i64 (er : Int)) 24
  bw : Below b.n w W
theorem Bx7.sb {w : World} {b : Bn} {er s : Nat} {W W' : World} (h : Bx7 w b er W) (ho : b.ok) (hn : b.n ≤ w.heap.size) (hs : Sb b.m s W W') : Bx7 w b er W' := by
  obtain ⟨o1, o2, o3, o4, o5, o6, o7⟩ := ho
  exact ⟨hs.bx h.r4 (.inl (by omega)), hs.bx h.r5 (.inl (by omega)), hs.below h.bw hn (by omega)⟩
theorem flt_stop {l pre : List R7} {x : R7} (h : pre ++ [x] <+: l) (h0 : flt none pre = 0) (hc : chk (las none pre) x ≠ 0) : flt none l = chk (las none pre) x := by
  obtain ⟨t, rfl⟩ := h
  rw [List.append_assoc, flt_ok h0, List.singleton_append, flt, if_pos hc]
theorem flt_snoc {pre : List R7} {x : R7} (h0 : flt none pre = 0) (hc : chk (las none pre) x = 0) : flt none (pre ++ [x]) = 0 := by
  rw [flt_ok h0, flt, if_neg (by simpa using hc), flt]

theorem st_fn (u : World) (T : TypeId) (fn : Fn) (c : Array Value) : (store ⟨u.heap.size, 0, none⟩ (.func fn #[] c)).run Try.prog (u.alloc (.cells #[.nilFunc] T)) = .ok () (u.alloc (.cells #[.func fn #[] c] T)) := by
  rw [run_store Try.prog _ _ _ _ rfl]
  go_simp

set_option maxRecDepth 100000 in
set_option maxHeartbeats 4000000 in
theorem Build_ok {w : World} {sv : Value} {l : List R7} {Xs : Nat → Prop} (blk : Nat) (hS : Sn w sv l Xs) (hb1 : 64 ≤ blk) (hb2 : blk ≤ 4096) (hl : ∀ x ∈ l, x.1.length ≤ 4611686018427387904 ∧ x.2.1.length ≤ 4611686018427387904) :
    Calls Try.prog 14 #[.int .i64 (blk : Int), sv] w fun e w' => e = .returned (.tuple #[.string (S (bld blk l).1), .int .i64 ((bld blk l).2 : Int)]) ∧ Below w.heap.size w w' := by
  have hb1' : ¬ (blk : Int) < 64 := by omega
  have hb2' : ¬ (4096 : Int) < (blk : Int) := by omega
  have HE : Hid (bld blk l = if flt none l ≠ 0 then ([], flt none l) else endS (cutB blk [] l)) := by
    show _ = _
    unfold bld endS
    rw [if_neg (by omega), Int.toNat_natCast]
  obtain ⟨W6, hW6⟩ : ∃ W6, W6 = (((w.alloc (.cells #[.string ⟨#[]⟩] 9)).alloc (.cells #[.int .i64 0] 24)).alloc (.cells #[.int .i64 (blk : Int), .slice none 0 0, .slice none 0 0, .slice none 0 0, .string ⟨#[]⟩] 80)).alloc (.cells #[.pointer (some ⟨w.heap.size + 2, 0, none⟩)] 77) := ⟨_, rfl⟩
  have HS : Hid (W6.heap.size = w.heap.size + 4) := by show _ = _; rw [hW6]; simp
  have hB6 : Below w.heap.size w W6 := by rw [hW6]; exact ((((Below.refl _ w).alloc (Nat.le_refl _) _).alloc (by simp) _).alloc (by simp; omega) _).alloc (by simp; omega) _
  have al : ∀ (v : World) (o p : Obj) (k : Nat), v.heap[k]? = some p → (v.alloc o).heap[k]? = some p := fun v o p k h => (Below.heap_alloc v o k (Array.getElem?_eq_some_iff.1 h).1).trans h
  have nw : ∀ (v : World) (o : Obj) (k : Nat), k = v.heap.size → (v.alloc o).heap[k]? = some o := fun v o k h => by subst h; exact heap_alloc_new v o
  have q4 : Bx W6 w.heap.size (.string ⟨#[]⟩) 9 := by rw [hW6]; exact al _ _ _ _ (al _ _ _ _ (al _ _ _ _ (nw _ _ _ rfl)))
  have q5 : Bx W6 (w.heap.size + 1) (.int .i64 0) 24 := by rw [hW6]; exact al _ _ _ _ (al _ _ _ _ (nw _ _ _ (by simp)))
  have qw : W6.heap[w.heap.size + 2]? = some (.cells #[.int .i64 (blk : Int), .slice none 0 0, .slice none 0 0, .slice none 0 0, .string ⟨#[]⟩] 80) := by rw [hW6]; exact al _ _ _ _ (nw _ _ _ (by simp))
  have q6 : Bx W6 (w.heap.size + 3) (.pointer (some ⟨w.heap.size + 2, 0, none⟩)) 77 := by rw [hW6]; exact nw _ _ _ (by simp)
  have hform := hS.form
  have hst := st_fn
  have HXs : Hid (∀ k, Xs k → k < w.heap.size) := hS.1
  have HS6 : Hid (Sn W6 sv l Xs) := hS.below hB6
  clear al nw hS
  refine (callsIn_wide (n := 9)).1 ?_
  refine callsIn_of_wp_marks Try.func14 rfl trivial ?_ rfl
  simp only [Try.ntmps14, List.size_toArray, List.length_cons, List.length_nil, Nat.reduceAdd, Nat.reduceSub, Array.replicate_succ, Array.replicate_zero, List.push_toArray, List.append_toArray, List.nil_append, List.cons_append]
  rcases hform with rfl | ⟨sf, sb, rfl⟩
  all_goals
    gi_wp2_with (first
      | (refine ⟨trivial, ?_⟩; gi_at_call 30; rw [← hW6]; refine (callsIn_wide.2 (checks_any W6)).mono ?_; rintro e w7 ⟨rfl, hck, hB7, hs7⟩; have HS7 : Hid (w7.heap.size = W6.heap.size + 2) := hs7; clear hs7 hW6; simp only [ckv])
      | (refine ⟨trivial, ?_⟩; gi_at_call 31; (obtain ⟨W8, hW8⟩ : ∃ W8, W8 = w7.alloc (.cells #[ckv W6.heap.size (W6.heap.size + 1)] 81) := ⟨_, rfl⟩); (have hB78 : Below w7.heap.size w7 W8 := (by rw [hW8]; exact (Below.refl _ w7).alloc (Nat.le_refl _) _)); (have HS8 : Hid (W8.heap.size = w7.heap.size + 1) := (by show _ = _; rw [hW8]; simp)); (have hB68 : Below W6.heap.size W6 W8 := hB7.trans (hB78.mono hB7.size)); (have bx7 : Bx W8 w7.heap.size (ckv W6.heap.size (W6.heap.size + 1)) 81 := (by rw [hW8]; exact Bx.new w7 _ _)); rw [show (Obj.cells #[Value.func (.func 49) #[] #[.pointer (some ⟨W6.heap.size + 1, 0, none⟩), .pointer (some ⟨W6.heap.size, 0, none⟩)]] 81) = Obj.cells #[ckv W6.heap.size (W6.heap.size + 1)] 81 from rfl, ← hW8]; refine (callsIn_wide.2 (Keep_nil (HS6.out.below hB68))).mono ?_; rintro e w9 ⟨f, Y, rfl, hSf, hY, hB9⟩; have HSf : Hid (Sq encc w9 f l Y) := hSf; obtain ⟨gf, lb, rfl, -⟩ := hSf))
    obtain ⟨b, hb⟩ : ∃ b : Bn, b = ⟨w.heap.size, w.heap.size + 1, w.heap.size + 1 + 1, w.heap.size + 1 + 1 + 1, W6.heap.size, W6.heap.size + 1, w7.heap.size, w9.heap.size⟩ := ⟨_, rfl⟩
    have hs6 := HS.out
    have hs7 := HS7.out
    have hs8 := HS8.out
    have hs9 := hB9.size
    have ho : b.ok := by rw [hb]; refine ⟨?_, ?_, ?_, ?_, ?_, ?_, ?_⟩ <;> (simp only; omega)
    have hB69 : Below W6.heap.size W6 w9 := hB68.trans (hB9.mono (by omega))
    have hBw9 : Below w.heap.size w w9 := hB6.trans (hB69.mono (by omega))
    have hi9 : ∀ W0, Below w9.heap.size w9 W0 → w9.heap.size + 2 ≤ W0.heap.size → Bi w b blk W0.heap.size [] W0 := by
      intro W0 hB h0
      have hB60 : Below W6.heap.size W6 W0 := hB69.trans (hB.mono (by omega))
      have hck0 := hck.ch (X := fun _ => False) (Ch.of_below (hB78.trans ((hB9.mono (by omega)).trans (hB.mono (by omega))))) id id
      refine ⟨by rw [hb]; exact q4.below hB60 (by omega), by rw [hb]; exact q5.below hB60 (by omega), by rw [hb]; exact q6.below hB60 (by omega), by rw [hb]; exact bx7.below (hB9.trans (hB.mono hs9)) (by omega), by rw [hb]; exact hck0, rfl, ⟨[], [], ?_, St7.nil blk⟩, by rw [hb]; exact hBw9.trans (hB.mono hBw9.size), by rw [hb]; exact h0, Nat.le_refl _⟩
      refine ⟨.slice none 0 0, .slice none 0 0, .slice none 0 0, [], ⟨?_, World.ownsRow_nil _ _ _ _, World.ownsRow_nil _ _ _ _, World.ownsRow_nil _ _ _ _, (fun x hx => by cases hx), Nat.le_refl _⟩, fun h => absurd rfl h, ?_⟩
      · rw [hb]; exact (hB60.block (w.heap.size + 2) (by omega)).trans qw
      · rintro x (hx | hx | hx | hx)
        · exact .inl hx
        · cases hx
        · cases hx
        · cases hx
    have HI9 : Hid _ := hi9
    have HO : Hid _ := ho
    have HB : Hid _ := hb
    have HY : Hid (∀ k, Y k → Xs k ∨ W8.heap.size ≤ k) := hY
    clear hi9 ho hb hY q4 q5 q6 qw hck bx7 hB6 hB7 hB78 hB68 hB9 hB69 hBw9 hs6 hs7 hs8
    have HS9 : Hid (W8.heap.size ≤ w9.heap.size) := hs9
    clear hs9
    refine range_kc (r1 := 8) (r2 := 9) rfl HSf.out (fun s pre W => Bi w b blk s pre W) (fun s c pre W => c = .ret ∧ flt none l ≠ 0 ∧ Bx7 w b (flt none l) W)
      ?hI ?hIx ?hIs ?start ?assign ?body ?done ?stop
    case hI =>
      rintro s pre A B h hs
      exact h.sb HO.out (by rw [HB.out]; exact Nat.le_refl _) (by rw [HB.out]; exact hs)
    case hIx =>
      rintro s c pre A B ⟨h0, h1, h2⟩ hs
      exact ⟨h0, h1, h2.sb HO.out (by rw [HB.out]; exact Nat.le_refl _) (by rw [HB.out]; exact hs)⟩
    case hIs => exact fun s pre W h => h.m3
    case start => exact HI9.out
    case assign =>
      intro mm l' x W K hK
      simp only [cbx, cv] at hK ⊢
      gi_wp2
      exact hK
    case body =>
      rintro mm l' s c pre x Wp W h hsb hc hcb hnx
      have hi := h.sb HO.out (by rw [HB.out]; exact Nat.le_refl _) (by rw [HB.out]; exact hsb)
      obtain ⟨bs, cur, ⟨dv, sv, lv, fk, t1, t2, t3⟩, st⟩ := h.ws
      have hord := HO.out
      have hxl := hl x (by obtain ⟨t, rfl⟩ := hnx; simp)
      have heb := HB.out
      subst heb
      simp only at hord
      have m2 := h.m2
      have m3 := h.m3
      simp only at m2 t1 t2 t3
      have t1W := t1.sb hsb (fun x hx => by rcases t3 x hx with h | h <;> omega)
      obtain ⟨i4, i5, i6, i7, ick, ifl, -, ibw, -, -⟩ := hi
      simp only at i4 i5 i6 i7 ick ibw
      have hsw := hsb.size
      have g6 := i6.cell
      have g7 := i7.cell
      have g4 := i4.cell
      have f4 := i4.fro
      have g5 := i5.cell
      have f5 := i5.fro
      have hx0 : W.cell? ⟨c, 0, none⟩ = some (.string (S x.2.1)) := by simp [World.cell?, hcb, cbx]
      have hx1 : W.cell? ⟨c, 1, none⟩ = some (.bool x.2.2) := by simp [World.cell?, hcb, cbx]
      have hchk := chk_any ick x hxl.1 hxl.2
      simp only [encc, cv, List.append_toArray, List.cons_append, List.nil_append] at hchk
      simp only [ckv] at g7
      have ent : Ent0 49 := enters_of Try.func49 (by kernel_rfl) rfl
      unfold Ent0 at ent
      have ZC : Hid (∀ k, (k = W6.heap.size ∨ k = W6.heap.size + 1 ∨ wf (w.heap.size + 1 + 1) dv sv lv k) → (∃ o : Obj, W.heap[k]? = some o ∧ o.isCells = true) ∧ ¬ (Y k ∨ (w9.heap.size + 2 ≤ k ∧ k < s) ∨ (Wp.heap.size ≤ k ∧ k < c)) ∧ (k < w9.heap.size ∨ s ≤ k) ∧ w.heap.size + 2 ≤ k ∧ k < Wp.heap.size) := by
        have hs6 := HS.out
        have hs7 := HS7.out
        have hs8 := HS8.out
        have hs9 := HS9.out
        have nY : ∀ k, (w.heap.size ≤ k ∧ k < W8.heap.size) ∨ w9.heap.size ≤ k → ¬ Y k := fun k hk hy => by
          have h1 := HY.out k hy
          have h2 : k < w9.heap.size := by obtain ⟨_, _, _, _, h2, _⟩ := HSf.out; exact h2 k hy
          rcases h1 with h1 | h1
          · have := HXs.out k h1; omega
          · omega
        have nZ : ∀ k, (w.heap.size ≤ k ∧ k < W8.heap.size) ∨ (s ≤ k ∧ k < Wp.heap.size) → ¬ (Y k ∨ (w9.heap.size + 2 ≤ k ∧ k < s) ∨ (Wp.heap.size ≤ k ∧ k < c)) := fun k hk h => by
          rcases h with h | h | h
          · exact nY k (by omega) h
          · omega
          · omega
        rintro k (rfl | rfl | hk)
        · exact ⟨⟨_, ick.ka, rfl⟩, nZ _ (.inl (by omega)), .inl (by omega), by omega, by omega⟩
        · exact ⟨⟨_, ick.kb, rfl⟩, nZ _ (.inl (by omega)), .inl (by omega), by omega, by omega⟩
        · have t4 := t3 k hk
          exact ⟨wf_cells t1W hk, nZ _ (by omega), by omega, by omega, by omega⟩
      have HFT : Hid (∀ y, wf (w.heap.size + 1 + 1) dv sv lv y → y = w.heap.size + 1 + 1 ∨ (s ≤ y ∧ y < Wp.heap.size)) := t3
      have TW : Hid (Wt W (w.heap.size + 1 + 1) (w.heap.size + 1 + 1) blk dv sv lv (fbs bs) (bs.map spn) (ld cur) fk ∧ (cur ≠ [] → fk = key1 cur)) := ⟨t1W, t2⟩
      have ST : Hid (St7 blk pre bs cur ∧ flt none pre = 0 ∧ pre ++ [x] <+: l) := ⟨st, ifl, hnx⟩
      have IB : Hid (Bi w _ blk s pre Wp ∧ Sb w9.heap.size s Wp W) := ⟨h, hsb⟩
      have IBW : Hid (Below w.heap.size w W ∧ Wp.heap.size ≤ W.heap.size ∧ s ≤ Wp.heap.size) := ⟨ibw, hsw, m3⟩
      have HBX : Hid (Bx W w.heap.size (.string ⟨#[]⟩) 9 ∧ Bx W (w.heap.size + 1) (.int .i64 0) 24 ∧ Bx W (w.heap.size + 1 + 1 + 1) (.pointer (some ⟨w.heap.size + 1 + 1, 0, none⟩)) 77 ∧ Bx W w7.heap.size (ckv W6.heap.size (W6.heap.size + 1)) 81) := ⟨i4, i5, i6, i7⟩
      clear t1 t2 t3 t1W st ifl hnx h hsb hcb ick ibw i4 i5 i6 i7
      simp only [List.setIfInBounds_toArray, List.set_cons_succ, List.set_cons_zero, cv]
      by_cases hc0 : chk (las none pre) x = 0
      · rw [hc0] at hchk
        have HAD : Hid (∀ W1 : World, Ch (fun k => k = W6.heap.size ∨ k = W6.heap.size + 1) W W1 → Ck W1 W6.heap.size (W6.heap.size + 1) (some x.1) →
            W1.cell? ⟨w.heap.size + 1 + 1 + 1, 0, none⟩ = some (.pointer (some ⟨w.heap.size + 1 + 1, 0, none⟩)) ∧ W1.cell? ⟨c, 0, none⟩ = some (.string (S x.2.1)) ∧ W1.cell? ⟨c, 1, none⟩ = some (.bool x.2.2) ∧
            Calls Try.prog 32 #[.pointer (some ⟨w.heap.size + 1 + 1, 0, none⟩), .string (S x.1), cv x.2] W1 fun e W2 => (∃ v, e = .returned v) ∧ KeepsFrom w9.heap.size W W2 ∧ Kq (fun k => Y k ∨ (w9.heap.size + 2 ≤ k ∧ k < s) ∨ (Wp.heap.size ≤ k ∧ k < c)) W W2 ∧ Bi w ⟨w.heap.size, w.heap.size + 1, w.heap.size + 1 + 1, w.heap.size + 1 + 1 + 1, W6.heap.size, W6.heap.size + 1, w7.heap.size, w9.heap.size⟩ blk s (pre ++ [x]) W2) := by
          intro W1 hc1 hck1
          have zc := ZC.out
          have ick2 := HFT.out
          have hs6 := HS.out
          have hs7 := HS7.out
          have hs8 := HS8.out
          have hs9 := HS9.out
          have hmay := chk_may hc0
          have tW1 : Wt W1 (w.heap.size + 1 + 1) (w.heap.size + 1 + 1) blk dv sv lv (fbs bs) (bs.map spn) (ld cur) fk := TW.out.1.ch hc1 (fun y hy hb => by
            have h2 := ick2 y hy
            omega)
          refine ⟨(hc1.cell g6 (by simp only; omega)), hc1.cell hx0 (by simp only; omega), hc1.cell hx1 (by simp only; omega), ?_⟩
          obtain ⟨bw, z1, z2⟩ := IBW.out
          obtain ⟨i4, i5, i6, i7⟩ := HBX.out
          obtain ⟨st, ifl, hnx⟩ := ST.out
          have hsz1 := hc1.size
          refine (add_any x (X := wf (w.heap.size + 1 + 1) dv sv lv) (bs := bs) (cur := cur) ⟨dv, sv, lv, fk, tW1, TW.out.2, fun _ h => h⟩ hmay (by omega) st.D (by have := st.L; omega) (by omega) (fun y hy => (tW1.foot hy).1)).mono ?_
          rintro e W2 ⟨hv, hWs, hc2⟩
          have hc : Ch (fun k => k = W6.heap.size ∨ k = W6.heap.size + 1 ∨ wf (w.heap.size + 1 + 1) dv sv lv k) W W2 := (hc1.mono (fun k _ hk => hk.imp id .inl)).join hc2 (fun _ _ h => .inr (.inr h))
          have hno : ∀ k, k < w.heap.size + 2 ∨ k = w.heap.size + 3 ∨ k = w7.heap.size → ¬ (k = W6.heap.size ∨ k = W6.heap.size + 1 ∨ wf (w.heap.size + 1 + 1) dv sv lv k) := fun k hk h => by
            rcases h with h | h | h
            · omega
            · omega
            · have := ick2 k h; omega
          refine ⟨hv, KeepsFrom.of_ch hc (fun k hk => (zc k hk).1), Kq.of_ch hc (fun k hk hz => (zc k hz).2.1 hk), ?_⟩
          refine ⟨i4.ch hc (hno _ (by omega)), i5.ch hc (hno _ (by omega)), i6.ch hc (hno _ (by omega)), i7.ch hc (hno _ (by omega)), ?_, flt_snoc ifl hc0, ⟨_, _, ?_, st.step (by omega) (by omega) hmay⟩, bw.trans (hc.below (by have := bw.size; omega) (fun k hk => hno k (by omega))), by simp only; omega, by have := hc.size; omega⟩
          · rw [las_snoc]
            exact hck1.ch hc2 (fun h => by have := ick2 _ h; omega) (fun h => by have := ick2 _ h; omega)
          · refine hWs.wide (fun y hy hyl => ?_)
            rcases hy with hy | hy
            · exact (ick2 y hy).imp id (fun h => ⟨h.1, hyl⟩)
            · exact .inr ⟨by omega, hyl⟩
        gi_wp2
        refine ⟨trivial, (fun h => by cases h), ?_⟩
        refine CallsIn.mono (CallsIn.inRound _ (callsIn_wide.2 hchk)) ?_
        rintro e W1 ⟨rfl, hck1, hc1⟩
        obtain ⟨k6, kx0, kx1, hadd⟩ := HAD.out W1 hc1 (hck1 trivial)
        simp only [cv] at hadd
        clear hck1 hc1
        gi_wp2
        refine ⟨trivial, (fun h => by cases h), ?_⟩
        refine CallsIn.mono (CallsIn.inRound _ (callsIn_wide.2 hadd)) ?_
        rintro e W2 ⟨⟨v, rfl⟩, hk1, hk2, hbi⟩
        have HF : Hid _ := And.intro hk1 (And.intro hk2 hbi)
        clear hk1 hk2 hbi
        gi_wp2
        exact HF.out
      · have hne : ((chk (las none pre) x : Int) != 0) = true := by rw [bne_iff_ne]; omega
        have HER : Hid (∀ W1 : World, Ch (fun k => k = W6.heap.size ∨ k = W6.heap.size + 1) W W1 →
            W1.cell? ⟨w.heap.size, 0, none⟩ = some (.string ⟨#[]⟩) ∧ W1.frozen? ⟨w.heap.size, 0, none⟩ = false ∧ W1.cell? ⟨w.heap.size + 1, 0, none⟩ = some (.int .i64 0) ∧ W1.frozen? ⟨w.heap.size + 1, 0, none⟩ = false ∧
            KeepsFrom w9.heap.size W ((W1.setCell ⟨w.heap.size, 0, none⟩ (.string ⟨#[]⟩)).setCell ⟨w.heap.size + 1, 0, none⟩ (.int .i64 (chk (las none pre) x : Int))) ∧ Kq (fun k => Y k ∨ (w9.heap.size + 2 ≤ k ∧ k < s) ∨ (Wp.heap.size ≤ k ∧ k < c)) W ((W1.setCell ⟨w.heap.size, 0, none⟩ (.string ⟨#[]⟩)).setCell ⟨w.heap.size + 1, 0, none⟩ (.int .i64 (chk (las none pre) x : Int))) ∧ Code.ret = Code.ret ∧ flt none l ≠ 0 ∧ Bx7 w ⟨w.heap.size, w.heap.size + 1, w.heap.size + 1 + 1, w.heap.size + 1 + 1 + 1, W6.heap.size, W6.heap.size + 1, w7.heap.size, w9.heap.size⟩ (flt none l) ((W1.setCell ⟨w.heap.size, 0, none⟩ (.string ⟨#[]⟩)).setCell ⟨w.heap.size + 1, 0, none⟩ (.int .i64 (chk (las none pre) x : Int)))) := by
          intro W1 hc1
          have zc := ZC.out
          have hs6 := HS.out
          have hs7 := HS7.out
          have hs8 := HS8.out
          have hs9 := HS9.out
          obtain ⟨bw, z1, z2⟩ := IBW.out
          obtain ⟨i4, i5, i6, i7⟩ := HBX.out
          obtain ⟨st, ifl, hnx⟩ := ST.out
          have hfl := flt_stop hnx ifl hc0
          have j4 := i4.ch hc1 (by omega)
          have j5 := i5.ch hc1 (by omega)
          have c1 : Ch (fun k => k = w.heap.size) W1 (W1.setCell ⟨w.heap.size, 0, none⟩ (.string ⟨#[]⟩)) := (Ch.refl _ W1).setCell _ _ (fun _ => rfl)
          have k4 := one0 j4 (.string ⟨#[]⟩)
          have k5 := j5.ch c1 (by omega)
          have c2 : Ch (fun k => k = w.heap.size + 1) (W1.setCell ⟨w.heap.size, 0, none⟩ (.string ⟨#[]⟩)) ((W1.setCell ⟨w.heap.size, 0, none⟩ (.string ⟨#[]⟩)).setCell ⟨w.heap.size + 1, 0, none⟩ (.int .i64 (chk (las none pre) x : Int))) := (Ch.refl _ _).setCell _ _ (fun _ => rfl)
          have hc : Ch (fun k => (k = W6.heap.size ∨ k = W6.heap.size + 1) ∨ k = w.heap.size ∨ k = w.heap.size + 1) W ((W1.setCell ⟨w.heap.size, 0, none⟩ (.string ⟨#[]⟩)).setCell ⟨w.heap.size + 1, 0, none⟩ (.int .i64 (chk (las none pre) x : Int))) := ((hc1.mono (fun k _ h => .inl h)).join c1 (fun k _ h => .inr (.inl h))).join c2 (fun k _ h => .inr (.inr h))
          have nY : ∀ k, w.heap.size ≤ k ∧ k < W8.heap.size → ¬ Y k := fun k hk hy => by
            rcases HY.out k hy with h1 | h1
            · have := HXs.out k h1; omega
            · omega
          refine ⟨j4.cell, j4.fro, j5.cell, j5.fro, KeepsFrom.of_ch hc (fun k hk => ?_), Kq.of_ch hc (fun k hk hz => ?_), rfl, by rw [hfl]; exact hc0, k4.ch c2 (by omega), by rw [hfl]; exact one0 k5 _, bw.trans (hc.below bw.size (fun k hk h => by omega))⟩
          · rcases hk with (hk | hk) | hk | hk
            · exact (zc k (.inl hk)).1
            · exact (zc k (.inr (.inl hk))).1
            · subst hk; exact ⟨_, i4, rfl⟩
            · subst hk; exact ⟨_, i5, rfl⟩
          · rcases hk with hk | hk | hk
            · exact nY k (by omega) hk
            · omega
            · omega
        clear hc0
        gi_wp2
        refine ⟨trivial, (fun h => by cases h), ?_⟩
        refine CallsIn.mono (CallsIn.inRound _ (callsIn_wide.2 hchk)) ?_
        rintro e W1 ⟨rfl, -, hc1⟩
        obtain ⟨k4, kf4, k5, kf5, k6⟩ := HER.out W1 hc1
        have K6 : Hid _ := k6
        clear k6 hc1
        gi_wp2
        exact ⟨K6.out.1, K6.out.2.1, rfl, K6.out.2.2.2⟩
    case done =>
      rintro s W h hD
      obtain ⟨bs, cur, hws, st⟩ := h.ws
      have hord := HO.out
      have heb := HB.out
      subst heb
      simp only at hord
      have m2 := h.m2
      have m3 := h.m3
      have i4 := h.r4
      have i5 := h.r5
      have i6 := h.b6
      have ibw := h.bw
      have ifl := h.fl
      simp only at m2 hws i4 i5 i6 ibw
      have HEND := end_any hws st.D (by have := st.L; omega) st.keys (by omega)
      rw [st.fin] at HEND
      have HV : Hid (bld blk l = endS (cutB blk [] l)) := by show _ = _; rw [HE.out, if_neg (by simpa using ifl)]
      have g6 := i6.cell
      have HI : Hid (Bx W w.heap.size (.string ⟨#[]⟩) 9 ∧ Bx W (w.heap.size + 1) (.int .i64 0) 24 ∧ Below w.heap.size w W ∧ w9.heap.size + 2 ≤ s) := ⟨i4, i5, ibw, m2⟩
      have HDD : Hid (W.heap[w9.heap.size]? = some (.deferred (some []))) := hD
      generalize endS (cutB blk [] l) = er at *
      obtain ⟨eb, en⟩ := er
      simp only at HEND
      clear h hws st i4 i5 i6 ibw ifl hD m2
      gi_wp2_with (first
        | (refine ⟨trivial, ?_⟩; gi_at_call 33; refine (callsIn_wide.2 HEND).mono ?_; rintro e w10 ⟨rfl, hc10⟩; obtain ⟨i4, i5, ibw, m2⟩ := HI.out; have j4 := i4.ch hc10 (by omega); have j5 := i5.ch hc10 (by omega); have c4 := j4.cell; have f4 := j4.fro; have c1 : Ch (fun k => k = w.heap.size) w10 (w10.setCell ⟨w.heap.size, 0, none⟩ (.string (S eb))) := (Ch.refl _ w10).setCell _ _ (fun _ => rfl); have k5 := j5.ch c1 (by omega); have c5 := k5.cell; have f5 := k5.fro; have JJ : Hid (Bx w10 w.heap.size (.string ⟨#[]⟩) 9 ∧ Bx (w10.setCell ⟨w.heap.size, 0, none⟩ (.string (S eb))) (w.heap.size + 1) (.int .i64 0) 24) := ⟨j4, k5⟩; have HC10 : Hid _ := hc10; clear hc10 j4 j5 k5 c1 i4 i5 ibw m2))
      obtain ⟨i4, i5, ibw, m2⟩ := HI.out
      obtain ⟨j4, k5⟩ := JJ.out
      have c1 : Ch (fun k => k = w.heap.size) w10 (w10.setCell ⟨w.heap.size, 0, none⟩ (.string (S eb))) := (Ch.refl _ w10).setCell _ _ (fun _ => rfl)
      have c2 : Ch (fun k => k = w.heap.size + 1) (w10.setCell ⟨w.heap.size, 0, none⟩ (.string (S eb))) ((w10.setCell ⟨w.heap.size, 0, none⟩ (.string (S eb))).setCell ⟨w.heap.size + 1, 0, none⟩ (.int .i64 (en : Int))) := (Ch.refl _ _).setCell _ _ (fun _ => rfl)
      have hD2 : ((w10.setCell ⟨w.heap.size, 0, none⟩ (.string (S eb))).setCell ⟨w.heap.size + 1, 0, none⟩ (.int .i64 (en : Int))).heap[w9.heap.size]? = some (.deferred (some [])) := c2.obj (c1.obj (HC10.out.obj HDD.out (by omega)) (by omega)) (by omega)
      have l4 := (one0 j4 (.string (S eb))).ch c2 (by omega)
      have l5 := one0 k5 (.int .i64 (en : Int))
      have n4 : Bx (((w10.setCell ⟨w.heap.size, 0, none⟩ (.string (S eb))).setCell ⟨w.heap.size + 1, 0, none⟩ (.int .i64 (en : Int))).putObj w9.heap.size (.deferred none)) w.heap.size (.string (S eb)) 9 := (World.putObj_heap_other (by omega)).trans l4
      have n5 : Bx (((w10.setCell ⟨w.heap.size, 0, none⟩ (.string (S eb))).setCell ⟨w.heap.size + 1, 0, none⟩ (.int .i64 (en : Int))).putObj w9.heap.size (.deferred none)) (w.heap.size + 1) (.int .i64 (en : Int)) 24 := (World.putObj_heap_other (by omega)).trans l5
      have p4 := n4.cell
      have p5 := n5.cell
      have hbl : Below w.heap.size w ((w10.setCell ⟨w.heap.size, 0, none⟩ (.string (S eb))).setCell ⟨w.heap.size + 1, 0, none⟩ (.int .i64 (en : Int))) := ((ibw.trans (HC10.out.below ibw.size (fun k hk h => by omega))).setCell (Nat.le_refl _) _).setCell (by simp) _
      refine ⟨by simp, .inl ⟨_, _, rfl, takes hD2, ?_⟩⟩
      refine ⟨.tuple #[.string (S eb), .int .i64 (en : Int)], ?res, by rw [HV.out], below_take hbl (Nat.le_refl _) (by omega) _⟩
      case res => simp [results, Try.results14, go_sem, p4, p5]
    case stop =>
      rintro s c pre W ⟨rfl, hne, h⟩ hD
      have hord := HO.out
      have heb := HB.out
      subst heb
      simp only at hord
      have HV : Hid (bld blk l = ([], flt none l)) := by show _ = _; rw [HE.out, if_pos hne]
      have n4 : Bx (W.putObj w9.heap.size (.deferred none)) w.heap.size (.string ⟨#[]⟩) 9 := (World.putObj_heap_other (by omega)).trans h.r4
      have n5 : Bx (W.putObj w9.heap.size (.deferred none)) (w.heap.size + 1) (.int .i64 (flt none l : Int)) 24 := (World.putObj_heap_other (by omega)).trans h.r5
      have p4 := n4.cell
      have p5 := n5.cell
      have hbl : Below w.heap.size w W := h.bw
      gi_wp2
      refine ⟨by simp, .inl ⟨_, _, rfl, takes hD, ?_⟩⟩
      refine ⟨.tuple #[.string ⟨#[]⟩, .int .i64 (flt none l : Int)], ?res, by rw [HV.out]; rfl, below_take hbl (Nat.le_refl _) (by omega) _⟩
      case res => simp [results, Try.results14, go_sem, p4, p5]

theorem Build_any {w : World} {sv : Value} {l : List R7} {Xs : Nat → Prop} (block : Int) (hS : Sn w sv l Xs) (hl : ∀ x ∈ l, x.1.length ≤ 4611686018427387904 ∧ x.2.1.length ≤ 4611686018427387904) :
    Calls Try.prog 14 #[.int .i64 block, sv] w fun e w' => e = .returned (.tuple #[.string (S (bld block l).1), .int .i64 ((bld block l).2 : Int)]) ∧ Below w.heap.size w w' := by
  by_cases hb : block < 64 ∨ 4096 < block
  · exact Build_arg block hS hb
  · obtain ⟨b, rfl⟩ : ∃ b : Nat, block = (b : Int) := ⟨block.toNat, by omega⟩
    exact Build_ok b hS (by omega) (by omega) hl
end Go.Proofs.Ytiaeicfmdnmeeaa

/-
  Package flow's Emit: whatever Apply comes to.
-/
import Derived.Test.YthmfcloecmnfnaaGreatB16Beg
import Derived.Test.YthmfcloecmnfnaaGreatF13Ap0
import Derived.Deep.CutRange
namespace Go.Proofs.YthmfcloecmnfnaaGreat.f13
open Go.RowKit Go.Shelf Go.Sort
open Go.Lib hiding intOf

theorem step_appR {ops : Array Oper} {o : Oper} {a : Act} {w : World} {K : Act → World → Prop} {Q : Exit → Act → World → Prop} {E : Prop} (hgd : o.guard = none) (s x : Operand) (t u : TypeId)
    (ho : o.op = .call { callee := .builtin .append, args := #[s, x], argTypes := #[t, u] }) (v y v' : Value) (w' : World) (hs : a.eval s = v) (hx : a.eval x = y)
    (hr : (Builtin.append_ #[t, u] o.type #[v, y]).run Tryz.prog w = .ok v' w') (h : K (a.put o.dst v') w') :
    if Region.wanted o (yielded ops a.tmps) = true then Oper.wp Tryz.prog o a w K Q else E := by
  have hw : Region.wanted o (yielded ops a.tmps) = true := by simp [Region.wanted, hgd]
  rw [if_pos hw]
  unfold Oper.wp
  simp [execOp, ho, resolve, invoke, builtin, hs, hx, hr, Result.andThen]
  exact h
theorem ob.put {B : Nat} {w : World} {t : TypeId} {k g : Nat} {cs : List Value} {L : List Rw} (h : Own B w (ob t k g cs :: L)) (j : Nat) (u : Value) : Own B (w.setCell ⟨g, j, none⟩ u) (ob t k g (cs.set j u) :: L) :=
  h.turn (r' := ob t k g (cs.set j u)) (ch_cell w g j u) (row_put (h.own _ (List.mem_cons_self ..)) j u) (fun _ hg => .inl hg)
theorem Own.drew {B : Nat} {w : World} {L : List Rw} (h : Own B w L) : Own B w.drew L := h.up (Below.refl _ w).drew
theorem fitsRc {n : Nat} (h : ((n + 1) + (n + 1) / 4 + 192) * 144 ≤ 281474976710656) : n + 1 ≤ maxLen := by unfold maxLen; omega
set_option maxRecDepth 100000 in
/-- a record more behind the events -/
theorem emit_run {B : Nat} {W : World} {g : Nat} {cs : List Value} {ea : Option Addr} {ec : Nat} {el : List Rc} {M : List Rw} (x : Rc) (hx : x.vv.oneCell' = true) (h : Own B W (ob 80 16 g cs :: Rc.rw (.slice ea el.length ec) el :: M)) (hc : cs[15]? = some (.slice ea el.length ec)) (hel : ((el.length + 1) + (el.length + 1) / 4 + 192) * 144 ≤ 281474976710656) :
    ∃ v' w', (Builtin.append_ #[37, 37] 37 #[.slice ea el.length ec, .slice (some ⟨W.heap.size, 0, none⟩) 1 1]).run Tryz.prog ((W.alloc (.cells x.cs.toArray 63)).drew) = .ok v' w' ∧ (∃ a n c, v' = .slice a n c) ∧ (w'.cell? ⟨g, 15, none⟩ = some (.slice ea el.length ec) ∧ w'.frozen? ⟨g, 15, none⟩ = false) ∧
      Own B (w'.setCell ⟨g, 15, none⟩ v') (ob 80 16 g (cs.set 15 v') :: Rc.rw v' (el ++ [x]) :: M) ∧ Ch (fun b => b = g ∨ (Value.slice ea el.length ec).ownBlock = some b) W (w'.setCell ⟨g, 15, none⟩ v') ∧ (∀ b, v'.ownBlock = some b → (Value.slice ea el.length ec).ownBlock = some b ∨ W.heap.size ≤ b) := by
  obtain ⟨i9, hi9, hz0, hz1, hz2⟩ := info_parts infoRc
  have hW' : Below W.heap.size W ((W.alloc (.cells x.cs.toArray 63)).drew) := ((Below.refl _ W).alloc (Nat.le_refl _) _).drew
  have h1 := Own.up h hW'
  have r1 : ((W.alloc (.cells x.cs.toArray 63)).drew).ownsRow B 63 13 (.slice ea el.length ec) el.length (el.flatMap Rc.cs) := h1.own (Rc.rw (.slice ea el.length ec) el) (List.mem_cons_of_mem _ (List.mem_cons_self ..))
  have ho := ob.obj h1 (List.mem_cons_self ..)
  have hlt := ob.lt h (List.mem_cons_self ..)
  have hap := List.pairwise_cons.1 h1.apart
  have hoff : ∀ b, (Value.slice ea el.length ec).ownBlock = some b → b ≠ g := fun b hb e => hap.1 _ (List.mem_cons_self ..) g rfl (by rw [← e]; exact hb)
  obtain ⟨gg, cap, w', hrun, r4, g4, h4, -⟩ := run_append_where (P := Tryz.prog) ((W.alloc (.cells x.cs.toArray 63)).drew) 37 37 63 i9 _ 13 144 Tryz.underlying37 hi9 hz0 hz1 hz2 rfl (by decide) _ _ _ (row_zero r1) ⟨W.heap.size, 0, none⟩ 1 1 x.cs rfl
      (fun j u hj => by
        rw [Addr.add_lit, Nat.zero_add]
        exact (World.cell?_alloc_new W x.cs.toArray _ j).trans (by simpa using hj)) (fun u hu => Rc.one (l := [x]) (fun y hy => by rw [List.mem_singleton.1 hy]; exact hx) u (by simpa using hu)) (by decide) (fitsRc hel) hel
  have hwh : ∀ b, (Value.slice (some ⟨gg, 0, none⟩) (el.length + 1) cap).ownBlock = some b → (Value.slice ea el.length ec).ownBlock = some b ∨ W.heap.size ≤ b := fun b hb => by
    obtain rfl : gg = b := by simpa [Value.ownBlock] using hb
    rcases h4 with h4 | h4
    · exact .inl h4
    · right; have := hW'.size; omega
  have hC0 : Ch (fun b => (Value.slice ea el.length ec).ownBlock = some b) ((W.alloc (.cells x.cs.toArray 63)).drew) w' := Ch.of_grown g4 (fun b hb _ => hb)
  have hblk := hC0.block g (Array.getElem?_eq_some_iff.1 ho).1 (fun e => hoff g e rfl)
  have hob := hblk.trans ho
  have h5 : Own B w' (Rc.rw (.slice (some ⟨gg, 0, none⟩) (el.length + 1) cap) (el ++ [x]) :: ob 80 16 g cs :: M) := by
    refine Own.turn (r := Rc.rw (.slice ea el.length ec) el) (h1.perm (List.Perm.swap _ _ _)) hC0 ?_ (fun b hb => (hwh b hb).imp id (fun e => ?_))
    · show w'.ownsRow B 63 13 (.slice (some ⟨gg, 0, none⟩) (el.length + 1) cap) (el ++ [x]).length ((el ++ [x]).flatMap Rc.cs)
      rw [List.length_append, List.flatMap_append]
      refine row_base (by simpa using r4) (fun b hb => ?_)
      rcases hwh b hb with e | e
      · exact (r1.lt b e).1
      · omega
    · have hb' : (Value.slice (some ⟨gg, 0, none⟩) (el.length + 1) cap).ownBlock = some b := hb
      have := hW'.size
      rcases h4 with h4 | h4
      · have := (r1.lt gg h4).2
        obtain rfl : gg = b := by simpa [Value.ownBlock] using hb'
        have := ((h.own _ (List.mem_cons_of_mem _ (List.mem_cons_self ..))).lt gg h4).2
        omega
      · obtain rfl : gg = b := by simpa [Value.ownBlock] using hb'
        omega
  refine ⟨_, w', hrun, ⟨_, _, _, rfl⟩, ⟨by simp [World.cell?, hob, hc], by simp [World.frozen?, hob]⟩, ob.put (h5.perm (List.Perm.swap _ _ _)) 15 _, ?_, hwh⟩
  exact ((Ch.of_below hW').trans (hC0.mono (fun _ _ e => .inr e))).trans ((ch_cell w' g 15 _).mono (fun b _ e => .inl (by injection e with e; exact e.symm)))
theorem Below.put {w W : World} (h : Below w.heap.size w W) (j : Nat) (u : Value) : Below w.heap.size w (W.setCell ⟨w.heap.size, j, none⟩ u) :=
  h.trans (((Ch.refl (fun b => b = w.heap.size) W).setCell ⟨w.heap.size, j, none⟩ u (fun _ => rfl)).below h.size (fun k hk e => by omega))
set_option maxHeartbeats 8000000 in
set_option maxRecDepth 100000 in
theorem Emit_any {B : Nat} {w : World} {g : Nat} {k : Wo} {r : Rc} {T : St} (h : Wk B w g k) (hB : B ≤ w.heap.size) (hr : Rr 4 Vr.c w r.vv r.v) (hn : r.v.length * 48 ≤ 211106232528000) (hel : ((k.el.length + 1) + (k.el.length + 1) / 4 + 192) * 144 ≤ 281474976710656)
    (CA : ∀ (W : World) (v' : Value), Sv W k.s → Rr 4 Vr.c W v' r.v → Calls Tryz.prog 49 #[.agg k.s.c.toArray, .int .u64 ((up1 k.s.pos : Nat) : Int), .agg ({ r with cl := 2, fr := k.ps, tm := k.nw, vv := v' } : Rc).cs.toArray] W (Apd W T)) :
    Calls Tryz.prog 27 #[.pointer (some ⟨g, 0, none⟩), .agg r.cs.toArray] w fun e w' => e = .returned (.tuple #[]) ∧ ∃ (t : St) (ev' v' : Value), t.e = T ∧ Wk B w' g ⟨t, k.pt, k.ps, k.nw, ev', k.el ++ [{ r with cl := 2, fr := k.ps, tm := k.nw, vv := v' }]⟩ ∧ Ch (fun b => b = g ∨ k.ev.ownBlock = some b) w w' ∧ (∀ b, ev'.ownBlock = some b → k.ev.ownBlock = some b ∨ w.heap.size ≤ b) ∧ (∀ b, Wo.has ⟨t, k.pt, k.ps, k.nw, ev', k.el ++ [{ r with cl := 2, fr := k.ps, tm := k.nw, vv := v' }]⟩ g b → Wo.has k g b ∨ w.heap.size ≤ b) := by
  obtain ⟨s, pt, ps, nw, ev, el⟩ := k
  simp only at hel CA
  have hev := h.ev
  simp only at hev
  obtain ⟨ea, ec, rfl, -⟩ := row_slice hev
  clear hev
  have hsl := Sv.slices h.sv
  obtain ⟨ra, rp, hra, -⟩ := id hr
  obtain ⟨r0, r1, r2, r3, r4, r5, r6, r7, r8, r9, r10, r11, rvv, rv⟩ := r
  simp only at hra hr hn CA
  subst hra
  have hlt := h.lt.2
  -- the record in a block of its own
  obtain ⟨W1, hW1⟩ : ∃ W1, w.alloc (.cells #[.int .i64 r0, .int .i64 r1, .int .u64 (r2 : Int), .int .i64 r3, .int .u64 (r4 : Int), .int .u64 (r5 : Int), .int .u64 (r6 : Int), .int .i64 r7, .int .i64 r8, .string (S r9), .string (S r10), .string (S r11), .slice ra rv.length rp] 63) = W1 := ⟨_, rfl⟩
  have hb1 : Below w.heap.size w W1 := by rw [← hW1]; exact (Below.refl _ w).alloc (Nat.le_refl _) _
  have hs1 : W1.heap.size = w.heap.size + 1 := by rw [← hW1]; simp
  have HO1 : Hid (Own B W1 (ob 63 13 w.heap.size [.int .i64 r0, .int .i64 r1, .int .u64 (r2 : Int), .int .i64 r3, .int .u64 (r4 : Int), .int .u64 (r5 : Int), .int .u64 (r6 : Int), .int .i64 r7, .int .i64 r8, .string (S r9), .string (S r10), .string (S r11), .slice ra rv.length rp] :: ob 80 16 g (Wo.c ⟨s, pt, ps, nw, .slice ea el.length ec, el⟩) :: Wo.rows ⟨s, pt, ps, nw, .slice ea el.length ec, el⟩)) := by
    rw [← hW1]
    exact ob.new 63 h hB _ rfl
  have CO := owned_any (r := ⟨r0, r1, r2, r3, r4, r5, r6, r7, r8, r9, r10, r11, .slice ra rv.length rp, rv⟩) (hr.up hb1) hn
  have HR : Hid (W1.heap.size = w.heap.size + 1 ∧ Below w.heap.size w W1 ∧ B ≤ w.heap.size ∧ g < w.heap.size) := ⟨hs1, hb1, hB, hlt⟩
  have HCA : Hid (∀ (W : World) (v' : Value), Sv W s → Rr 4 Vr.c W v' rv → Calls Tryz.prog 49 #[.agg s.c.toArray, .int .u64 ((up1 s.pos : Nat) : Int), .agg #[.int .i64 2, .int .i64 r1, .int .u64 (ps : Int), .int .i64 nw, .int .u64 (r4 : Int), .int .u64 (r5 : Int), .int .u64 (r6 : Int), .int .i64 r7, .int .i64 r8, .string (S r9), .string (S r10), .string (S r11), v']] W (Apd W T)) := CA
  have HEL : Hid (((el.length + 1) + (el.length + 1) / 4 + 192) * 144 ≤ 281474976710656) := hel
  clear h hr hn hb1 hs1 hB hlt CA hel
  obtain ⟨⟨saDe, snDe, scDe, shDe⟩, ⟨saIn, snIn, scIn, shIn⟩, ⟨saTk, snTk, scTk, shTk⟩, ⟨saJb, snJb, scJb, shJb⟩, ⟨saTm, snTm, scTm, shTm⟩, ⟨saSb, snSb, scSb, shSb⟩, ⟨saKp, snKp, scKp, shKp⟩, ⟨saLs, snLs, scLs, shLs⟩, ⟨saMs, snMs, scMs, shMs⟩⟩ := hsl
  obtain ⟨spos, sdone, smade, svDe, slDe, svIn, slIn, svTk, slTk, svJb, slJb, svTm, slTm, svSb, slSb, svKp, slKp, svLs, slLs, svMs, slMs⟩ := s
  simp only at shDe shIn shTk shJb shTm shSb shKp shLs shMs
  subst shDe shIn shTk shJb shTm shSb shKp shLs shMs
  simp only [Rc.cs] at CO ⊢
  simp only [Wo.c, St.c, List.cons_append, List.nil_append] at HO1
  simp only [St.c] at HCA
  have hb1 := ob.obj HO1.out (List.mem_cons_self ..)
  have x0 : W1.cell? ⟨w.heap.size, 0, none⟩ = some (.int .i64 r0) := by simp [World.cell?, hb1]
  have x1 : W1.cell? ⟨w.heap.size, 1, none⟩ = some (.int .i64 r1) := by simp [World.cell?, hb1]
  have x2 : W1.cell? ⟨w.heap.size, 2, none⟩ = some (.int .u64 (r2 : Int)) := by simp [World.cell?, hb1]
  have x3 : W1.cell? ⟨w.heap.size, 3, none⟩ = some (.int .i64 r3) := by simp [World.cell?, hb1]
  have x4 : W1.cell? ⟨w.heap.size, 4, none⟩ = some (.int .u64 (r4 : Int)) := by simp [World.cell?, hb1]
  have x5 : W1.cell? ⟨w.heap.size, 5, none⟩ = some (.int .u64 (r5 : Int)) := by simp [World.cell?, hb1]
  have x6 : W1.cell? ⟨w.heap.size, 6, none⟩ = some (.int .u64 (r6 : Int)) := by simp [World.cell?, hb1]
  have x7 : W1.cell? ⟨w.heap.size, 7, none⟩ = some (.int .i64 r7) := by simp [World.cell?, hb1]
  have x8 : W1.cell? ⟨w.heap.size, 8, none⟩ = some (.int .i64 r8) := by simp [World.cell?, hb1]
  have x9 : W1.cell? ⟨w.heap.size, 9, none⟩ = some (.string (S r9)) := by simp [World.cell?, hb1]
  have x10 : W1.cell? ⟨w.heap.size, 10, none⟩ = some (.string (S r10)) := by simp [World.cell?, hb1]
  have x11 : W1.cell? ⟨w.heap.size, 11, none⟩ = some (.string (S r11)) := by simp [World.cell?, hb1]
  have x12 : W1.cell? ⟨w.heap.size, 12, none⟩ = some (.slice ra rv.length rp) := by simp [World.cell?, hb1]
  clear hb1
  go_enter Tryz.func27, Tryz.ntmps27
  go_upto_region 2 with fail
  try rw [hW1]
  go_cut [] from 6 to 7 (fun wx => ∃ v', Own B wx (ob 63 13 w.heap.size [.int .i64 r0, .int .i64 r1, .int .u64 (r2 : Int), .int .i64 r3, .int .u64 (r4 : Int), .int .u64 (r5 : Int), .int .u64 (r6 : Int), .int .i64 r7, .int .i64 r8, .string (S r9), .string (S r10), .string (S r11), v'] :: ⟨101, 4, v', rv.length, rv.flatMap Vr.c⟩ :: ob 80 16 g [.int .u64 (spos : Int), .int .u64 (sdone : Int), .int .u64 (smade : Int), .slice saDe snDe scDe, .slice saIn snIn scIn, .slice saTk snTk scTk, .slice saJb snJb scJb, .slice saTm snTm scTm, .slice saSb snSb scSb, .slice saKp snKp scKp, .slice saLs snLs scLs, .slice saMs snMs scMs, .int .i64 pt, .int .u64 (ps : Int), .int .i64 nw, .slice ea el.length ec] :: Wo.rows ⟨⟨spos, sdone, smade, .slice saDe snDe scDe, slDe, .slice saIn snIn scIn, slIn, .slice saTk snTk scTk, slTk, .slice saJb snJb scJb, slJb, .slice saTm snTm scTm, slTm, .slice saSb snSb scSb, slSb, .slice saKp snKp scKp, slKp, .slice saLs snLs scLs, slLs, .slice saMs snMs scMs, slMs⟩, pt, ps, nw, .slice ea el.length ec, el⟩) ∧ Below w.heap.size w wx ∧ (∀ b, v'.ownBlock = some b → w.heap.size ≤ b))
  case first =>
    go_wp2_with (go_at_call 48; refine CO.mono ?_; rintro e w2 ⟨v2, rfl, hrow, hb2⟩; obtain ⟨a2, c2, rfl, -⟩ := row_slice hrow; (have hO2 := (Own.join HO1.out hb2 (Own.single (r := ⟨101, 4, .slice a2 rv.length c2, rv.length, rv.flatMap Vr.c⟩) hrow) (by have := HR.out; omega))); (have hb := ob.obj hO2 (List.mem_append_right _ (List.mem_cons_self ..))); (have y0 : w2.cell? ⟨w.heap.size, 0, none⟩ = some (.int .i64 r0) := by simp [World.cell?, hb]); (have g0 : w2.frozen? ⟨w.heap.size, 0, none⟩ = false := by simp [World.frozen?, hb]); (have y1 : w2.cell? ⟨w.heap.size, 1, none⟩ = some (.int .i64 r1) := by simp [World.cell?, hb]); (have g1 : w2.frozen? ⟨w.heap.size, 1, none⟩ = false := by simp [World.frozen?, hb]); (have y2 : w2.cell? ⟨w.heap.size, 2, none⟩ = some (.int .u64 (r2 : Int)) := by simp [World.cell?, hb]); (have g2 : w2.frozen? ⟨w.heap.size, 2, none⟩ = false := by simp [World.frozen?, hb]); (have y3 : w2.cell? ⟨w.heap.size, 3, none⟩ = some (.int .i64 r3) := by simp [World.cell?, hb]); (have g3 : w2.frozen? ⟨w.heap.size, 3, none⟩ = false := by simp [World.frozen?, hb]); (have y4 : w2.cell? ⟨w.heap.size, 4, none⟩ = some (.int .u64 (r4 : Int)) := by simp [World.cell?, hb]); (have g4 : w2.frozen? ⟨w.heap.size, 4, none⟩ = false := by simp [World.frozen?, hb]); (have y5 : w2.cell? ⟨w.heap.size, 5, none⟩ = some (.int .u64 (r5 : Int)) := by simp [World.cell?, hb]); (have g5 : w2.frozen? ⟨w.heap.size, 5, none⟩ = false := by simp [World.frozen?, hb]); (have y6 : w2.cell? ⟨w.heap.size, 6, none⟩ = some (.int .u64 (r6 : Int)) := by simp [World.cell?, hb]); (have g6 : w2.frozen? ⟨w.heap.size, 6, none⟩ = false := by simp [World.frozen?, hb]); (have y7 : w2.cell? ⟨w.heap.size, 7, none⟩ = some (.int .i64 r7) := by simp [World.cell?, hb]); (have g7 : w2.frozen? ⟨w.heap.size, 7, none⟩ = false := by simp [World.frozen?, hb]); (have y8 : w2.cell? ⟨w.heap.size, 8, none⟩ = some (.int .i64 r8) := by simp [World.cell?, hb]); (have g8 : w2.frozen? ⟨w.heap.size, 8, none⟩ = false := by simp [World.frozen?, hb]); (have y9 : w2.cell? ⟨w.heap.size, 9, none⟩ = some (.string (S r9)) := by simp [World.cell?, hb]); (have g9 : w2.frozen? ⟨w.heap.size, 9, none⟩ = false := by simp [World.frozen?, hb]); (have y10 : w2.cell? ⟨w.heap.size, 10, none⟩ = some (.string (S r10)) := by simp [World.cell?, hb]); (have g10 : w2.frozen? ⟨w.heap.size, 10, none⟩ = false := by simp [World.frozen?, hb]); (have y11 : w2.cell? ⟨w.heap.size, 11, none⟩ = some (.string (S r11)) := by simp [World.cell?, hb]); (have g11 : w2.frozen? ⟨w.heap.size, 11, none⟩ = false := by simp [World.frozen?, hb]); (have y12 : w2.cell? ⟨w.heap.size, 12, none⟩ = some (.slice ra rv.length rp) := by simp [World.cell?, hb]); (have g12 : w2.frozen? ⟨w.heap.size, 12, none⟩ = false := by simp [World.frozen?, hb]); (have HO2 : Hid _ := hO2); (have HB2 : Hid (Below w.heap.size w w2) := HR.out.2.1.trans (hb2.mono (by have := HR.out.1; omega))); (have HN2 : Hid (∀ b, (Value.slice a2 rv.length c2).ownBlock = some b → w.heap.size ≤ b) := fun b hb' => by (have h1 := (hrow.lt b hb').1; have h2 := HR.out.1; omega)); clear hO2 hb hb2 hrow CO)
    go_meet
    case rel =>
      have hO2 := HO2.out
      have hb := ob.obj hO2 (List.mem_append_right _ (List.mem_cons_self ..))
      have ho9 := set13_obj (.int .i64 r0) (.int .i64 r1) (.int .u64 (r2 : Int)) (.int .i64 r3) (.int .u64 (r4 : Int)) (.int .u64 (r5 : Int)) (.int .u64 (r6 : Int)) (.int .i64 r7) (.int .i64 r8) (.string (S r9)) (.string (S r10)) (.string (S r11)) (.slice a2 rv.length c2) hb
      have hc9 := set13_ch w2 w.heap.size (.int .i64 r0) (.int .i64 r1) (.int .u64 (r2 : Int)) (.int .i64 r3) (.int .u64 (r4 : Int)) (.int .u64 (r5 : Int)) (.int .u64 (r6 : Int)) (.int .i64 r7) (.int .i64 r8) (.string (S r9)) (.string (S r10)) (.string (S r11)) (.slice a2 rv.length c2)
      have h9 := ob.turn (Own.perm hO2 (List.perm_middle (l₁ := [_]))) hc9 ho9 rfl
      have hB9 := HB2.out.trans (hc9.below HB2.out.size (fun k hk e => by omega))
      unfold set13 at h9 hB9
      exact ⟨_, h9, hB9, HN2.out⟩
  obtain ⟨v', hO3, hB3, hV3⟩ := hcut
  obtain ⟨va, vc, hv, -⟩ := row_slice (hO3.own _ (List.mem_cons_of_mem _ (List.mem_cons_self ..)))
  simp only at hv
  subst hv
  have HV3 : Hid _ := hV3
  clear hV3
  have HO3 : Hid _ := hO3
  have HB3 : Hid (Below w.heap.size w wc) := hB3
  have hne1 : ¬ w.heap.size = g := by have := HR.out; omega
  have hne2 : ¬ g = w.heap.size := by have := HR.out; omega
  have hbR := ob.obj hO3 (List.mem_cons_self ..)
  have hbW := ob.obj hO3 (List.mem_cons_of_mem _ (List.mem_cons_of_mem _ (List.mem_cons_self ..)))
  have p13 : wc.cell? ⟨g, 13, none⟩ = some (.int .u64 (ps : Int)) := by simp [World.cell?, hbW]
  have p14 : wc.cell? ⟨g, 14, none⟩ = some (.int .i64 nw) := by simp [World.cell?, hbW]
  have q0 : wc.cell? ⟨w.heap.size, 0, none⟩ = some (.int .i64 r0) := by simp [World.cell?, hbR]
  have q2 : wc.cell? ⟨w.heap.size, 2, none⟩ = some (.int .u64 (r2 : Int)) := by simp [World.cell?, hbR]
  have q3 : wc.cell? ⟨w.heap.size, 3, none⟩ = some (.int .i64 r3) := by simp [World.cell?, hbR]
  have e0 : wc.frozen? ⟨w.heap.size, 0, none⟩ = false := by simp [World.frozen?, hbR]
  have e2 : wc.frozen? ⟨w.heap.size, 2, none⟩ = false := by simp [World.frozen?, hbR]
  have e3 : wc.frozen? ⟨w.heap.size, 3, none⟩ = false := by simp [World.frozen?, hbR]
  clear hbR hbW hO3 hB3 x0 x1 x2 x3 x4 x5 x6 x7 x8 x9 x10 x11 x12 CO
  go_upto_region 3 with fail
  go_cut [] from 8 to 18 (fun wx => Own B wx (ob 63 13 w.heap.size [.int .i64 2, .int .i64 r1, .int .u64 (ps : Int), .int .i64 nw, .int .u64 (r4 : Int), .int .u64 (r5 : Int), .int .u64 (r6 : Int), .int .i64 r7, .int .i64 r8, .string (S r9), .string (S r10), .string (S r11), .slice va rv.length vc] :: ⟨101, 4, .slice va rv.length vc, rv.length, rv.flatMap Vr.c⟩ :: ob 80 16 g [.int .u64 (spos : Int), .int .u64 (sdone : Int), .int .u64 (smade : Int), .slice saDe snDe scDe, .slice saIn snIn scIn, .slice saTk snTk scTk, .slice saJb snJb scJb, .slice saTm snTm scTm, .slice saSb snSb scSb, .slice saKp snKp scKp, .slice saLs snLs scLs, .slice saMs snMs scMs, .int .i64 pt, .int .u64 (ps : Int), .int .i64 nw, .slice ea el.length ec] :: Wo.rows ⟨⟨spos, sdone, smade, .slice saDe snDe scDe, slDe, .slice saIn snIn scIn, slIn, .slice saTk snTk scTk, slTk, .slice saJb snJb scJb, slJb, .slice saTm snTm scTm, slTm, .slice saSb snSb scSb, slSb, .slice saKp snKp scKp, slKp, .slice saLs snLs scLs, slLs, .slice saMs snMs scMs, slMs⟩, pt, ps, nw, .slice ea el.length ec, el⟩) ∧ Below w.heap.size w wx)
  case first =>
    go_region
    all_goals
      go_wp2_with fail
      go_meet
      case rel => first | exact ⟨(ob.put (ob.put (ob.put HO3.out 0 (.int .i64 2)) 2 (.int .u64 (ps : Int))) 3 (.int .i64 nw)).drew, (Below.put (Below.put (Below.put HB3.out 0 (.int .i64 2)) 2 (.int .u64 (ps : Int))) 3 (.int .i64 nw)).drew⟩ | exact ⟨(ob.put (ob.put (ob.put HO3.out 0 (.int .i64 2)) 2 (.int .u64 (ps : Int))) 3 (.int .i64 nw)), (Below.put (Below.put (Below.put HB3.out 0 (.int .i64 2)) 2 (.int .u64 (ps : Int))) 3 (.int .i64 nw))⟩ | exact ⟨(ob.put (ob.put (ob.put HO3.out 0 (.int .i64 2)) 3 (.int .i64 nw)) 2 (.int .u64 (ps : Int))).drew, (Below.put (Below.put (Below.put HB3.out 0 (.int .i64 2)) 3 (.int .i64 nw)) 2 (.int .u64 (ps : Int))).drew⟩ | exact ⟨(ob.put (ob.put (ob.put HO3.out 0 (.int .i64 2)) 3 (.int .i64 nw)) 2 (.int .u64 (ps : Int))), (Below.put (Below.put (Below.put HB3.out 0 (.int .i64 2)) 3 (.int .i64 nw)) 2 (.int .u64 (ps : Int)))⟩ | exact ⟨(ob.put (ob.put (ob.put HO3.out 2 (.int .u64 (ps : Int))) 0 (.int .i64 2)) 3 (.int .i64 nw)).drew, (Below.put (Below.put (Below.put HB3.out 2 (.int .u64 (ps : Int))) 0 (.int .i64 2)) 3 (.int .i64 nw)).drew⟩ | exact ⟨(ob.put (ob.put (ob.put HO3.out 2 (.int .u64 (ps : Int))) 0 (.int .i64 2)) 3 (.int .i64 nw)), (Below.put (Below.put (Below.put HB3.out 2 (.int .u64 (ps : Int))) 0 (.int .i64 2)) 3 (.int .i64 nw))⟩ | exact ⟨(ob.put (ob.put (ob.put HO3.out 2 (.int .u64 (ps : Int))) 3 (.int .i64 nw)) 0 (.int .i64 2)).drew, (Below.put (Below.put (Below.put HB3.out 2 (.int .u64 (ps : Int))) 3 (.int .i64 nw)) 0 (.int .i64 2)).drew⟩ | exact ⟨(ob.put (ob.put (ob.put HO3.out 2 (.int .u64 (ps : Int))) 3 (.int .i64 nw)) 0 (.int .i64 2)), (Below.put (Below.put (Below.put HB3.out 2 (.int .u64 (ps : Int))) 3 (.int .i64 nw)) 0 (.int .i64 2))⟩ | exact ⟨(ob.put (ob.put (ob.put HO3.out 3 (.int .i64 nw)) 0 (.int .i64 2)) 2 (.int .u64 (ps : Int))).drew, (Below.put (Below.put (Below.put HB3.out 3 (.int .i64 nw)) 0 (.int .i64 2)) 2 (.int .u64 (ps : Int))).drew⟩ | exact ⟨(ob.put (ob.put (ob.put HO3.out 3 (.int .i64 nw)) 0 (.int .i64 2)) 2 (.int .u64 (ps : Int))), (Below.put (Below.put (Below.put HB3.out 3 (.int .i64 nw)) 0 (.int .i64 2)) 2 (.int .u64 (ps : Int)))⟩ | exact ⟨(ob.put (ob.put (ob.put HO3.out 3 (.int .i64 nw)) 2 (.int .u64 (ps : Int))) 0 (.int .i64 2)).drew, (Below.put (Below.put (Below.put HB3.out 3 (.int .i64 nw)) 2 (.int .u64 (ps : Int))) 0 (.int .i64 2)).drew⟩ | exact ⟨(ob.put (ob.put (ob.put HO3.out 3 (.int .i64 nw)) 2 (.int .u64 (ps : Int))) 0 (.int .i64 2)), (Below.put (Below.put (Below.put HB3.out 3 (.int .i64 nw)) 2 (.int .u64 (ps : Int))) 0 (.int .i64 2))⟩
  clear p13 p14 q0 q2 q3 e0 e2 e3 HO3 HB3
  obtain ⟨hO4, hB4⟩ := hcut
  have hlt4 := ob.lt hO4 (List.mem_cons_self ..)
  have hO4' : Own B wc (ob 80 16 g [.int .u64 (spos : Int), .int .u64 (sdone : Int), .int .u64 (smade : Int), .slice saDe snDe scDe, .slice saIn snIn scIn, .slice saTk snTk scTk, .slice saJb snJb scJb, .slice saTm snTm scTm, .slice saSb snSb scSb, .slice saKp snKp scKp, .slice saLs snLs scLs, .slice saMs snMs scMs, .int .i64 pt, .int .u64 (ps : Int), .int .i64 nw, .slice ea el.length ec] :: Rc.rw (.slice ea el.length ec) el :: (ob 63 13 w.heap.size [.int .i64 2, .int .i64 r1, .int .u64 (ps : Int), .int .i64 nw, .int .u64 (r4 : Int), .int .u64 (r5 : Int), .int .u64 (r6 : Int), .int .i64 r7, .int .i64 r8, .string (S r9), .string (S r10), .string (S r11), .slice va rv.length vc] :: ⟨101, 4, .slice va rv.length vc, rv.length, rv.flatMap Vr.c⟩ :: (St.rows ⟨spos, sdone, smade, .slice saDe snDe scDe, slDe, .slice saIn snIn scIn, slIn, .slice saTk snTk scTk, slTk, .slice saJb snJb scJb, slJb, .slice saTm snTm scTm, slTm, .slice saSb snSb scSb, slSb, .slice saKp snKp scKp, slKp, .slice saLs snLs scLs, slLs, .slice saMs snMs scMs, slMs⟩ ++ el.map Rc.r))) := by
    refine hO4.perm (perm_ac fun x => ?_)
    simp only [Wo.rows, List.count_append, List.count_cons]
    ac_rfl
  obtain ⟨v5, w5, hrun, ⟨b5, n5, c5, rfl⟩, ⟨k1, k2⟩, hO5, hC5, hN5⟩ := emit_run ⟨2, r1, ps, nw, r4, r5, r6, r7, r8, r9, r10, r11, .slice va rv.length vc, rv⟩ rfl hO4' rfl HEL.out
  simp only [List.set_cons_succ, List.set_cons_zero] at hO5
  have HF5 : Hid (Own B (w5.setCell ⟨g, 15, none⟩ (.slice b5 n5 c5)) _ ∧ Ch (fun b => b = g ∨ (Value.slice ea el.length ec).ownBlock = some b) w (w5.setCell ⟨g, 15, none⟩ (.slice b5 n5 c5)) ∧ (∀ b, (Value.slice b5 n5 c5).ownBlock = some b → (Value.slice ea el.length ec).ownBlock = some b ∨ w.heap.size ≤ b)) := ⟨hO5, (Ch.of_below hB4).trans hC5, fun b hb => (hN5 b hb).imp id (fun e => Nat.le_trans hB4.size e)⟩
  have hbR := ob.obj hO4 (List.mem_cons_self ..)
  have hbW := ob.obj hO4 (List.mem_cons_of_mem _ (List.mem_cons_of_mem _ (List.mem_cons_self ..)))
  have p15 : wc.cell? ⟨g, 15, none⟩ = some (.slice ea el.length ec) := by simp [World.cell?, hbW]
  have q0 : wc.cell? ⟨w.heap.size, 0, none⟩ = some (.int .i64 2) := by simp [World.cell?, hbR]
  have q1 : wc.cell? ⟨w.heap.size, 1, none⟩ = some (.int .i64 r1) := by simp [World.cell?, hbR]
  have q2 : wc.cell? ⟨w.heap.size, 2, none⟩ = some (.int .u64 (ps : Int)) := by simp [World.cell?, hbR]
  have q3 : wc.cell? ⟨w.heap.size, 3, none⟩ = some (.int .i64 nw) := by simp [World.cell?, hbR]
  have q4 : wc.cell? ⟨w.heap.size, 4, none⟩ = some (.int .u64 (r4 : Int)) := by simp [World.cell?, hbR]
  have q5 : wc.cell? ⟨w.heap.size, 5, none⟩ = some (.int .u64 (r5 : Int)) := by simp [World.cell?, hbR]
  have q6 : wc.cell? ⟨w.heap.size, 6, none⟩ = some (.int .u64 (r6 : Int)) := by simp [World.cell?, hbR]
  have q7 : wc.cell? ⟨w.heap.size, 7, none⟩ = some (.int .i64 r7) := by simp [World.cell?, hbR]
  have q8 : wc.cell? ⟨w.heap.size, 8, none⟩ = some (.int .i64 r8) := by simp [World.cell?, hbR]
  have q9 : wc.cell? ⟨w.heap.size, 9, none⟩ = some (.string (S r9)) := by simp [World.cell?, hbR]
  have q10 : wc.cell? ⟨w.heap.size, 10, none⟩ = some (.string (S r10)) := by simp [World.cell?, hbR]
  have q11 : wc.cell? ⟨w.heap.size, 11, none⟩ = some (.string (S r11)) := by simp [World.cell?, hbR]
  have q12 : wc.cell? ⟨w.heap.size, 12, none⟩ = some (.slice va rv.length vc) := by simp [World.cell?, hbR]
  simp only [Rc.cs] at hrun
  have p15' := (World.cell?_alloc_lt _ (.cells #[.int .i64 2, .int .i64 r1, .int .u64 (ps : Int), .int .i64 nw, .int .u64 (r4 : Int), .int .u64 (r5 : Int), .int .u64 (r6 : Int), .int .i64 r7, .int .i64 r8, .string (S r9), .string (S r10), .string (S r11), .slice va rv.length vc] 63) _ (World.block_lt_of_cell? _ _ p15)).trans p15
  clear hbR hbW hO4 hO4' hO5 hC5 hN5 hB4 hlt4
  go_upto_region 4 with fail
  go_cut [] from 19 to 28 (fun wx => ∃ v5, Own B wx (ob 80 16 g [.int .u64 (spos : Int), .int .u64 (sdone : Int), .int .u64 (smade : Int), .slice saDe snDe scDe, .slice saIn snIn scIn, .slice saTk snTk scTk, .slice saJb snJb scJb, .slice saTm snTm scTm, .slice saSb snSb scSb, .slice saKp snKp scKp, .slice saLs snLs scLs, .slice saMs snMs scMs, .int .i64 pt, .int .u64 (ps : Int), .int .i64 nw, v5] :: Rc.rw v5 (el ++ [⟨2, r1, ps, nw, r4, r5, r6, r7, r8, r9, r10, r11, .slice va rv.length vc, rv⟩]) :: (ob 63 13 w.heap.size [.int .i64 2, .int .i64 r1, .int .u64 (ps : Int), .int .i64 nw, .int .u64 (r4 : Int), .int .u64 (r5 : Int), .int .u64 (r6 : Int), .int .i64 r7, .int .i64 r8, .string (S r9), .string (S r10), .string (S r11), .slice va rv.length vc] :: ⟨101, 4, .slice va rv.length vc, rv.length, rv.flatMap Vr.c⟩ :: (St.rows ⟨spos, sdone, smade, .slice saDe snDe scDe, slDe, .slice saIn snIn scIn, slIn, .slice saTk snTk scTk, slTk, .slice saJb snJb scJb, slJb, .slice saTm snTm scTm, slTm, .slice saSb snSb scSb, slSb, .slice saKp snKp scKp, slKp, .slice saLs snLs scLs, slLs, .slice saMs snMs scMs, slMs⟩ ++ el.map Rc.r))) ∧ Ch (fun b => b = g ∨ (Value.slice ea el.length ec).ownBlock = some b) w wx ∧ (∀ b, v5.ownBlock = some b → (Value.slice ea el.length ec).ownBlock = some b ∨ w.heap.size ≤ b))
  case first =>
    go_region_law (refine step_appR (by rfl) _ _ _ _ (by rfl) _ _ _ _ (by rfl) (by rfl) hrun ?_)
    all_goals
      go_wp2_with fail
      go_meet
      case rel => exact ⟨_, HF5.out.1, HF5.out.2.1, HF5.out.2.2⟩
  obtain ⟨v5, hO5, hC5, hN5⟩ := hcut
  obtain ⟨b5, d5, hv5, -⟩ := row_slice (hO5.own _ (List.mem_cons_of_mem _ (List.mem_cons_self ..)))
  simp only [Rc.rw, List.length_append, List.length_cons, List.length_nil, Nat.zero_add] at hv5
  subst hv5
  have hsR : Own B wc (St.rows ⟨spos, sdone, smade, .slice saDe snDe scDe, slDe, .slice saIn snIn scIn, slIn, .slice saTk snTk scTk, slTk, .slice saJb snJb scJb, slJb, .slice saTm snTm scTm, slTm, .slice saSb snSb scSb, slSb, .slice saKp snKp scKp, slKp, .slice saLs snLs scLs, slLs, .slice saMs snMs scMs, slMs⟩) := hO5.of_count (fun x => by simp only [List.count_append, List.count_cons]; omega)
  have hrV : Rr 4 Vr.c wc (.slice va rv.length vc) rv := Rr.row Vr.k (hO5.own ⟨101, 4, .slice va rv.length vc, rv.length, rv.flatMap Vr.c⟩ (by simp only [List.mem_cons, true_or, or_true]))
  have HC2 : Hid (∀ W, Below wc.heap.size wc W → _) := fun W hW => HCA.out W (.slice va rv.length vc) ((Own.sv hsR).up hW) (hrV.up hW)
  have hbR := ob.obj (g := w.heap.size) hO5 (List.mem_cons_of_mem _ (List.mem_cons_of_mem _ (List.mem_cons_self ..)))
  have hbW := ob.obj hO5 (List.mem_cons_self ..)
  have p0 : wc.cell? ⟨g, 0, none⟩ = some (.int .u64 (spos : Int)) := by simp [World.cell?, hbW]
  have p1 : wc.cell? ⟨g, 1, none⟩ = some (.int .u64 (sdone : Int)) := by simp [World.cell?, hbW]
  have p2 : wc.cell? ⟨g, 2, none⟩ = some (.int .u64 (smade : Int)) := by simp [World.cell?, hbW]
  have p3 : wc.cell? ⟨g, 3, none⟩ = some (.slice saDe snDe scDe) := by simp [World.cell?, hbW]
  have p4 : wc.cell? ⟨g, 4, none⟩ = some (.slice saIn snIn scIn) := by simp [World.cell?, hbW]
  have p5 : wc.cell? ⟨g, 5, none⟩ = some (.slice saTk snTk scTk) := by simp [World.cell?, hbW]
  have p6 : wc.cell? ⟨g, 6, none⟩ = some (.slice saJb snJb scJb) := by simp [World.cell?, hbW]
  have p7 : wc.cell? ⟨g, 7, none⟩ = some (.slice saTm snTm scTm) := by simp [World.cell?, hbW]
  have p8 : wc.cell? ⟨g, 8, none⟩ = some (.slice saSb snSb scSb) := by simp [World.cell?, hbW]
  have p9 : wc.cell? ⟨g, 9, none⟩ = some (.slice saKp snKp scKp) := by simp [World.cell?, hbW]
  have p10 : wc.cell? ⟨g, 10, none⟩ = some (.slice saLs snLs scLs) := by simp [World.cell?, hbW]
  have p11 : wc.cell? ⟨g, 11, none⟩ = some (.slice saMs snMs scMs) := by simp [World.cell?, hbW]
  have q0 : wc.cell? ⟨w.heap.size, 0, none⟩ = some (.int .i64 2) := by simp [World.cell?, hbR]
  have q1 : wc.cell? ⟨w.heap.size, 1, none⟩ = some (.int .i64 r1) := by simp [World.cell?, hbR]
  have q2 : wc.cell? ⟨w.heap.size, 2, none⟩ = some (.int .u64 (ps : Int)) := by simp [World.cell?, hbR]
  have q3 : wc.cell? ⟨w.heap.size, 3, none⟩ = some (.int .i64 nw) := by simp [World.cell?, hbR]
  have q4 : wc.cell? ⟨w.heap.size, 4, none⟩ = some (.int .u64 (r4 : Int)) := by simp [World.cell?, hbR]
  have q5 : wc.cell? ⟨w.heap.size, 5, none⟩ = some (.int .u64 (r5 : Int)) := by simp [World.cell?, hbR]
  have q6 : wc.cell? ⟨w.heap.size, 6, none⟩ = some (.int .u64 (r6 : Int)) := by simp [World.cell?, hbR]
  have q7 : wc.cell? ⟨w.heap.size, 7, none⟩ = some (.int .i64 r7) := by simp [World.cell?, hbR]
  have q8 : wc.cell? ⟨w.heap.size, 8, none⟩ = some (.int .i64 r8) := by simp [World.cell?, hbR]
  have q9 : wc.cell? ⟨w.heap.size, 9, none⟩ = some (.string (S r9)) := by simp [World.cell?, hbR]
  have q10 : wc.cell? ⟨w.heap.size, 10, none⟩ = some (.string (S r10)) := by simp [World.cell?, hbR]
  have q11 : wc.cell? ⟨w.heap.size, 11, none⟩ = some (.string (S r11)) := by simp [World.cell?, hbR]
  have q12 : wc.cell? ⟨w.heap.size, 12, none⟩ = some (.slice va rv.length vc) := by simp [World.cell?, hbR]
  have HF6 : Hid (Own B wc _ ∧ Ch (fun b => b = g ∨ (Value.slice ea el.length ec).ownBlock = some b) w wc ∧ (∀ b, (Value.slice b5 _ d5).ownBlock = some b → (Value.slice ea el.length ec).ownBlock = some b ∨ w.heap.size ≤ b)) := ⟨hO5, hC5, hN5⟩
  have hup := up1_wrap spos
  have hg5 := (ob.lt hO5 (List.mem_cons_self ..)).2
  clear hbR hbW hO5 hC5 hN5 hsR hrV p15 p15' hrun k1 k2 HF5 HEL HCA
  generalize wc = w5 at *
  have HEnd : Hid (∀ (w7 : World) (t : St), Own w5.heap.size w7 t.rows → t.e = T → Below w5.heap.size w5 w7 → ∀ wx, wx = ((((((((((((w7).setCell ⟨g, 0, none⟩ (.int .u64 (t.pos : Int))).setCell ⟨g, 1, none⟩ (.int .u64 (t.done : Int))).setCell ⟨g, 2, none⟩ (.int .u64 (t.made : Int))).setCell ⟨g, 3, none⟩ (t.vDe)).setCell ⟨g, 4, none⟩ (t.vIn)).setCell ⟨g, 5, none⟩ (t.vTk)).setCell ⟨g, 6, none⟩ (t.vJb)).setCell ⟨g, 7, none⟩ (t.vTm)).setCell ⟨g, 8, none⟩ (t.vSb)).setCell ⟨g, 9, none⟩ (t.vKp)).setCell ⟨g, 10, none⟩ (t.vLs)).setCell ⟨g, 11, none⟩ (t.vMs) → ∃ (t : St) (ev' v' : Value), t.e = T ∧ Wk B wx g ⟨t, pt, ps, nw, ev', el ++ [⟨2, r1, ps, nw, r4, r5, r6, r7, r8, r9, r10, r11, v', rv⟩]⟩ ∧ Ch (fun b => b = g ∨ (Value.slice ea el.length ec).ownBlock = some b) w wx ∧ (∀ b, ev'.ownBlock = some b → (Value.slice ea el.length ec).ownBlock = some b ∨ w.heap.size ≤ b) ∧ (∀ b, Wo.has ⟨t, pt, ps, nw, ev', el ++ [⟨2, r1, ps, nw, r4, r5, r6, r7, r8, r9, r10, r11, v', rv⟩]⟩ g b → Wo.has ⟨⟨spos, sdone, smade, .slice saDe snDe scDe, slDe, .slice saIn snIn scIn, slIn, .slice saTk snTk scTk, slTk, .slice saJb snJb scJb, slJb, .slice saTm snTm scTm, slTm, .slice saSb snSb scSb, slSb, .slice saKp snKp scKp, slKp, .slice saLs snLs scLs, slLs, .slice saMs snMs scMs, slMs⟩, pt, ps, nw, .slice ea el.length ec, el⟩ g b ∨ w.heap.size ≤ b)) := by
    intro w7 t hX1 hX2 hX3 wx hwx
    have hX : Own w5.heap.size w7 t.rows ∧ t.e = T ∧ Below w5.heap.size w5 w7 := ⟨hX1, hX2, hX3⟩
    have hBw : B ≤ w5.heap.size := Nat.le_trans HR.out.2.2.1 HF6.out.2.1.size
    have hO7 := Own.join HF6.out.1 hX.2.2 hX.1 hBw
    have hO8 : Own B w7 (ob 80 16 g [.int .u64 (spos : Int), .int .u64 (sdone : Int), .int .u64 (smade : Int), .slice saDe snDe scDe, .slice saIn snIn scIn, .slice saTk snTk scTk, .slice saJb snJb scJb, .slice saTm snTm scTm, .slice saSb snSb scSb, .slice saKp snKp scKp, .slice saLs snLs scLs, .slice saMs snMs scMs, .int .i64 pt, .int .u64 (ps : Int), .int .i64 nw, .slice b5 (el.length + 1) d5] :: Rc.rw (.slice b5 (el.length + 1) d5) (el ++ [⟨2, r1, ps, nw, r4, r5, r6, r7, r8, r9, r10, r11, .slice va rv.length vc, rv⟩]) :: (t.rows ++ (el ++ [(⟨2, r1, ps, nw, r4, r5, r6, r7, r8, r9, r10, r11, .slice va rv.length vc, rv⟩ : Rc)]).map Rc.r)) := hO7.of_count (fun x => by
      simp only [List.map_append, List.map_cons, List.map_nil, Rc.r, List.count_append, List.count_cons, List.count_nil]
      omega)
    have ho9 := set12_obj16 (.int .u64 (t.pos : Int)) (.int .u64 (t.done : Int)) (.int .u64 (t.made : Int)) t.vDe t.vIn t.vTk t.vJb t.vTm t.vSb t.vKp t.vLs t.vMs (ob.obj hO8 (List.mem_cons_self ..))
    have hc9 := set12_ch w7 g (.int .u64 (t.pos : Int)) (.int .u64 (t.done : Int)) (.int .u64 (t.made : Int)) t.vDe t.vIn t.vTk t.vJb t.vTm t.vSb t.vKp t.vLs t.vMs
    have h9 := ob.turn hO8 hc9 ho9 rfl
    have hC9 := (HF6.out.2.1.trans (Ch.of_below hX.2.2)).trans (hc9.mono (fun b _ e => .inl e))
    unfold set12 at h9 hC9
    rw [← hwx] at h9 hC9
    refine ⟨t, .slice b5 (el.length + 1) d5, .slice va rv.length vc, hX.2.1, h9, hC9, HF6.out.2.2, fun b hbb => ?_⟩
    obtain ⟨r, hr, hb⟩ := hbb
    have hr : r ∈ ob 80 16 g _ :: Rc.rw (.slice b5 (el.length + 1) d5) (el ++ [⟨2, r1, ps, nw, r4, r5, r6, r7, r8, r9, r10, r11, .slice va rv.length vc, rv⟩]) :: (t.rows ++ (el ++ [(⟨2, r1, ps, nw, r4, r5, r6, r7, r8, r9, r10, r11, .slice va rv.length vc, rv⟩ : Rc)]).map Rc.r) := hr
    rw [List.map_append] at hr
    rcases List.mem_cons.1 hr with rfl | hr
    · exact .inl ⟨_, List.mem_cons_self .., hb⟩
    rcases List.mem_cons.1 hr with rfl | hr
    · exact (HF6.out.2.2 b hb).imp (fun e => ⟨Rc.rw (.slice ea el.length ec) el, List.mem_cons_of_mem _ (List.mem_cons_self ..), e⟩) id
    rcases List.mem_append.1 hr with hr | hr
    · right
      have h1 := ((hX.1.own r hr).lt b hb).1
      have h2 := HF6.out.2.1.size
      omega
    rcases List.mem_append.1 hr with hr | hr
    · exact .inl ⟨r, List.mem_cons_of_mem _ (List.mem_cons_of_mem _ (List.mem_append_right _ hr)), hb⟩
    · rw [List.mem_singleton.1 hr] at hb
      exact .inr (HV3.out b hb)
  go_upto_region 5 with fail
  go_region_with (go_at_call 49; refine (HC2.out _ (by first | exact Below.refl _ _ | exact (Below.refl _ _).drew)).mono ?_; rintro e w7 ⟨t, rfl, hO, hE, hb⟩; (have hX : Below w5.heap.size w5 w7 := ⟨hb.os, hb.tape, hb.output, hb.size, hb.block⟩); obtain ⟨⟨taDe, tnDe, tcDe, thDe⟩, ⟨taIn, tnIn, tcIn, thIn⟩, ⟨taTk, tnTk, tcTk, thTk⟩, ⟨taJb, tnJb, tcJb, thJb⟩, ⟨taTm, tnTm, tcTm, thTm⟩, ⟨taSb, tnSb, tcSb, thSb⟩, ⟨taKp, tnKp, tcKp, thKp⟩, ⟨taLs, tnLs, tcLs, thLs⟩, ⟨taMs, tnMs, tcMs, thMs⟩⟩ := St.slices hO; obtain ⟨tpos, tdone, tmade, tvDe, tlDe, tvIn, tlIn, tvTk, tlTk, tvJb, tlJb, tvTm, tlTm, tvSb, tlSb, tvKp, tlKp, tvLs, tlLs, tvMs, tlMs⟩ := t; simp only at thDe thIn thTk thJb thTm thSb thKp thLs thMs; subst thDe thIn thTk thJb thTm thSb thKp thLs thMs; simp only [St.c]; (have hO7 := Own.up HF6.out.1 hX); (have hbW := ob.obj hO7 (List.mem_cons_self ..)); (have y0 : w7.cell? ⟨g, 0, none⟩ = some (.int .u64 (spos : Int)) := by simp [World.cell?, hbW]); (have f0 : w7.frozen? ⟨g, 0, none⟩ = false := by simp [World.frozen?, hbW]); (have y1 : w7.cell? ⟨g, 1, none⟩ = some (.int .u64 (sdone : Int)) := by simp [World.cell?, hbW]); (have f1 : w7.frozen? ⟨g, 1, none⟩ = false := by simp [World.frozen?, hbW]); (have y2 : w7.cell? ⟨g, 2, none⟩ = some (.int .u64 (smade : Int)) := by simp [World.cell?, hbW]); (have f2 : w7.frozen? ⟨g, 2, none⟩ = false := by simp [World.frozen?, hbW]); (have y3 : w7.cell? ⟨g, 3, none⟩ = some (.slice saDe snDe scDe) := by simp [World.cell?, hbW]); (have f3 : w7.frozen? ⟨g, 3, none⟩ = false := by simp [World.frozen?, hbW]); (have y4 : w7.cell? ⟨g, 4, none⟩ = some (.slice saIn snIn scIn) := by simp [World.cell?, hbW]); (have f4 : w7.frozen? ⟨g, 4, none⟩ = false := by simp [World.frozen?, hbW]); (have y5 : w7.cell? ⟨g, 5, none⟩ = some (.slice saTk snTk scTk) := by simp [World.cell?, hbW]); (have f5 : w7.frozen? ⟨g, 5, none⟩ = false := by simp [World.frozen?, hbW]); (have y6 : w7.cell? ⟨g, 6, none⟩ = some (.slice saJb snJb scJb) := by simp [World.cell?, hbW]); (have f6 : w7.frozen? ⟨g, 6, none⟩ = false := by simp [World.frozen?, hbW]); (have y7 : w7.cell? ⟨g, 7, none⟩ = some (.slice saTm snTm scTm) := by simp [World.cell?, hbW]); (have f7 : w7.frozen? ⟨g, 7, none⟩ = false := by simp [World.frozen?, hbW]); (have y8 : w7.cell? ⟨g, 8, none⟩ = some (.slice saSb snSb scSb) := by simp [World.cell?, hbW]); (have f8 : w7.frozen? ⟨g, 8, none⟩ = false := by simp [World.frozen?, hbW]); (have y9 : w7.cell? ⟨g, 9, none⟩ = some (.slice saKp snKp scKp) := by simp [World.cell?, hbW]); (have f9 : w7.frozen? ⟨g, 9, none⟩ = false := by simp [World.frozen?, hbW]); (have y10 : w7.cell? ⟨g, 10, none⟩ = some (.slice saLs snLs scLs) := by simp [World.cell?, hbW]); (have f10 : w7.frozen? ⟨g, 10, none⟩ = false := by simp [World.frozen?, hbW]); (have y11 : w7.cell? ⟨g, 11, none⟩ = some (.slice saMs snMs scMs) := by simp [World.cell?, hbW]); (have f11 : w7.frozen? ⟨g, 11, none⟩ = false := by simp [World.frozen?, hbW]); (have HX : Hid (Own w5.heap.size w7 _ ∧ _ ∧ Below w5.heap.size w5 w7) := ⟨hO, hE, hX⟩); clear hO7 hbW hO hE hb hX)
  all_goals
    go_wp2
    go_end0
    exact ⟨rfl, HEnd.out _ ⟨tpos, tdone, tmade, .slice taDe tnDe tcDe, tlDe, .slice taIn tnIn tcIn, tlIn, .slice taTk tnTk tcTk, tlTk, .slice taJb tnJb tcJb, tlJb, .slice taTm tnTm tcTm, tlTm, .slice taSb tnSb tcSb, tlSb, .slice taKp tnKp tcKp, tlKp, .slice taLs tnLs tcLs, tlLs, .slice taMs tnMs tcMs, tlMs⟩ HX.out.1 HX.out.2.1 HX.out.2.2 _ rfl⟩
end Go.Proofs.YthmfcloecmnfnaaGreat.f13

/-
  Package seglog's From: a range over the records from a position on.
-/
import Derived.Test.YteifkkceldlfnaaGreatDoorG6FromI
namespace Go.Proofs.YteifkkceldlfnaaGreatDoor
open Go.RowKit Go.Shelf Go.Sort
open Go.Lib hiding intOf
attribute [local go_sem] Oper.semAt_some
variable {w w' : World} {B lb d : Nat} {lg : Lg} {vs : List Sv} {sl : Value}

set_option maxRecDepth 100000 in
set_option maxHeartbeats 32000000 in
theorem From1_runs {W1 : World} {b2 b3 pos : Nat} (h2 : Bx W1 b2 (.pointer (some ⟨lb, 0, none⟩)) 28) (h3 : Bx W1 b3 (.int .u64 (pos : Int)) 36) (o : Lq W1 B lb d lg vs sl) :
    RunsR (fun x => #[encE1 x, encE2 x]) 63 #[.pointer (some ⟨b2, 0, none⟩), .pointer (some ⟨b3, 0, none⟩)] (gFrom lg pos) (Xf b2 b3 lb sl vs) W1 := by
  intro y J Jx hC
  obtain ⟨yf, yc, hyf⟩ := hC.yk.frm
  have HC : Hid (ConsR (fun x => #[encE1 x, encE2 x]) y (gFrom lg pos) (Xf b2 b3 lb sl vs) W1 J Jx) := hC
  obtain ⟨Wa, hWa⟩ : ∃ Wa, Wa = W1.alloc (.cells #[y] 124) := ⟨_, rfl⟩
  have hsa : Wa.heap.size = W1.heap.size + 1 := by rw [hWa]; simp
  have hBa : Below W1.heap.size W1 Wa := by rw [hWa]; exact (Below.refl _ W1).alloc (Nat.le_refl _) _
  have bya : Bx Wa W1.heap.size y 124 := by rw [hWa]; exact Bx.new W1 _ _
  have c2 := (h2.below hBa h2.lt).cell
  have c3 := (h3.below hBa h3.lt).cell
  have oa := o.below hBa
  have c4 := oa.lw.c4
  have hq := logEql lb
  have cF := fromQ_any (pos := pos) oa
  have HW : Hid (Wa = W1.alloc (.cells #[y] 124)) := hWa
  have HO : Hid _ := oa
  have HO1 : Hid (Lq W1 B lb d lg vs sl ∧ Bx W1 b3 (.int .u64 (pos : Int)) 36 ∧ ∀ k, Xf b2 b3 lb sl vs k → k < W1.heap.size) := ⟨o, h3, fun k hk => by
    rcases hk with rfl | rfl | hk
    · exact h2.lt
    · exact h3.lt
    · exact (o.lw.foot_lt hk).1⟩
  have HB : Hid _ := hBa
  clear hC o oa hBa h2 h3
  subst hyf
  refine (callsIn_wide (n := 9)).1 ?_
  refine callsIn_of_wp_marks Tryz.func63 rfl trivial ?_ rfl
  simp only [Tryz.ntmps63, List.size_toArray, List.length_cons, List.length_nil, Nat.reduceAdd, Nat.reduceSub, Array.replicate_succ, Array.replicate_zero, List.push_toArray, List.append_toArray, List.nil_append, List.cons_append]
  rw [hWa] at c2 c3
  gi_wp2
  refine wpIn_scope ?_
  rw [← HW.out]
  rw [← HW.out] at c2 c3
  clear hWa HW
  gi_wp2
  rename_i K hK
  have fin : ∀ (sa : Option Addr) (m eb : Nat) (W : World), Below Wa.heap.size Wa W → Wa.heap.size ≤ eb → Bx W eb (.int .u64 (lg.next : Int)) 36 → m = vs.length - idx lg.segs pos → (idx lg.segs pos < vs.length → ∃ g c, sl = .slice (some ⟨g, 0, none⟩) vs.length c ∧ sa = some ⟨g, idx lg.segs pos, none⟩) →
      K { tmps := #[.func yf #[] yc, .pointer (some ⟨b2, 0, none⟩), .pointer (some ⟨b3, 0, none⟩), .pointer (some ⟨W1.heap.size, 0, none⟩), .slice sa m m, .pointer (some ⟨eb, 0, none⟩), undef, undef, undef, undef, .pointer (some ⟨lb, 0, none⟩), .bool false,
        .pointer (some ⟨lb, 0, none⟩), .int .u64 (pos : Int), .slice sa m m, .pointer (some ⟨lb, 0, none⟩), .pointer (some ⟨lb, 0, none⟩), .pointer (some ⟨lb, 4, none⟩), .int .u64 (lg.next : Int), undef, undef, undef, undef, undef, undef, undef, undef, undef, undef, undef, undef, undef, undef, undef, undef, undef, undef, undef, undef], defers := [] } W := by
    intro sa m eb W hBW heb hbx hm hsa
    refine hK _ _ ?_
    clear hK
    gi_wp2
    refine wpIn_label ?_
    gi_wp2
    obtain ⟨N, hN⟩ : ∃ N, vs.length - idx lg.segs pos = N := ⟨_, rfl⟩
    rw [hN]
    have hsW := hBW.size
    have h1W : Below W1.heap.size W1 W := HB.out.trans (hBW.mono (by omega))
    have F0 : Fsg J W1 (.func yf #[] yc) eb lg.next (Xf b2 b3 lb sl vs) (fun k => W1.heap.size ≤ k ∧ k < W.heap.size) [] [] W :=
      ⟨HC.out.start W h1W, ⟨Nat.le_refl _, by omega⟩, ⟨by omega, hbx.lt⟩, bya.below hBW (by omega), hbx, Kq.of_below h1W, List.nodup_nil, fun D hD => by cases hD⟩
    refine wpIn_loop (fun a' W' => ∃ (i : Nat) (u7 u8 u9 u22 u23 u24 u25 u26 u27 u28 u29 u30 u31 u32 u33 u34 u35 u36 u37 u38 : Value) (ds : List Nat) (R : Nat → Prop) (pre : List (Nat × List UInt8)), a' = { tmps := #[.func yf #[] yc, .pointer (some ⟨b2, 0, none⟩), .pointer (some ⟨b3, 0, none⟩), .pointer (some ⟨W1.heap.size, 0, none⟩), .slice sa N N, .pointer (some ⟨eb, 0, none⟩), undef, u7, u8, u9, .pointer (some ⟨lb, 0, none⟩), .bool false, .pointer (some ⟨lb, 0, none⟩), .int .u64 (pos : Int), .slice sa N N, .pointer (some ⟨lb, 0, none⟩), .pointer (some ⟨lb, 0, none⟩), .pointer (some ⟨lb, 4, none⟩), .int .u64 (lg.next : Int), .slice sa N N, .int .i64 (N : Int), .int .i64 (i : Int), u22, u23, u24, u25, u26, u27, u28, u29, u30, u31, u32, u33, u34, u35, u36, u37, u38], defers := ds.map mkD } ∧ i ≤ N ∧ pre ++ restE vs pos (idx lg.segs pos + i) = gFrom lg pos ∧ Fsg J W1 (.func yf #[] yc) eb lg.next (Xf b2 b3 lb sl vs) R pre ds W') (fun a' _ => N - (intOf (a'.tmps.getD 21 undef)).toNat) ?_ ?_
    · exact ⟨0, undef, undef, undef, undef, undef, undef, undef, undef, undef, undef, undef, undef, undef, undef, undef, undef, undef, undef, undef, undef, [], _, [], rfl, Nat.zero_le _, restE_all HO.out.ok HO.out.lw.segs, F0⟩
    · rintro a' W' ⟨i, u7, u8, u9, u22, u23, u24, u25, u26, u27, u28, u29, u30, u31, u32, u33, u34, u35, u36, u37, u38, ds, R, pre, rfl, hi, heq, hF⟩
      clear F0
      dsimp only
      by_cases hlt : i < N
      · have hiv : idx lg.segs pos + i < vs.length := by omega
        obtain ⟨g, c, hsl, hsa'⟩ := hsa (by omega)
        have oW := HO1.out.1.kq hF.kq (fun x hx => .inr (.inr hx))
        obtain ⟨g', c', hsl', hcg⟩ := oW.lw.at hiv
        obtain ⟨rfl, rfl⟩ : g' = g ∧ c' = c := by rw [hsl] at hsl'; cases hsl'; exact ⟨rfl, rfl⟩
        subst hsa'
        have cp := (kq_bx hF.kq (.inr (.inl rfl)) HO1.out.2.1).cell
        have hmem := List.getElem_mem hiv
        have hsw := oW.lw.sw _ hmem
        have hst := restE_step (pos := pos) hiv
        have hsg : vs[idx lg.segs pos + i].sg ∈ lg.segs := by have h := List.mem_map_of_mem (f := Sv.sg) hmem; rwa [oW.lw.segs] at h
        have hnx : vs[idx lg.segs pos + i].sg.next ≤ lg.next := HO.out.ok.cn.le _ hsg
        have hnb := HO.out.ok.next.2
        have cS := sfrom_any (pos := pos) hsw (by omega)
        have hli : (i : Int) < (N : Int) := by omega
        have hi0 : (0 : Int) ≤ (i : Int) := by omega
        have hvb : vs.length ≤ 1099511627778 := by rw [HO.out.lw.len]; exact HO.out.ok.count
        have hib : (i : Int) + 1 ≤ 1099511627779 := by omega
        have HF : Hid (Fsg J W1 (.func yf #[] yc) eb lg.next (Xf b2 b3 lb sl vs) R pre ds W') := hF
        have HV : Hid (∀ x, vs[idx lg.segs pos + i].at x → lfoot lb sl vs x) := fun x hx => .inr (.inr ⟨_, hmem, hx⟩)
        clear oW hF hsl hsl' hsw
        rw [hst] at heq
        generalize vs[idx lg.segs pos + i] = v at *
        have HEQ : Hid (pre ++ (segE v.sg pos ++ restE vs pos (idx lg.segs pos + i + 1)) = gFrom lg pos) := heq
        clear heq hst
        gi_wp2_with (first
          | (refine ⟨trivial, ?_⟩; gi_at_call 65; refine (callsIn_wide.2 cS).mono ?_; rintro e w5 ⟨f, rfl, hSq, B5, hs5⟩))
        have hs5' := hs5
        have hszW : W1.heap.size < W'.heap.size := HF.out.y.lt
        have heW : eb < W'.heap.size := HF.out.e.lt
        have F5 : Fsg J W1 (.func yf #[] yc) eb lg.next (Xf b2 b3 lb sl vs) (fun k => R k ∨ (W'.heap.size ≤ k ∧ k < w5.heap.size)) pre ds w5 :=
          HF.out.st HC.out HO1.out.2.2 (n := W'.heap.size) (s := W'.heap.size) (Sb.of_below B5) (fun k h1 h2 => by omega) hszW heW (fun D hD => (HF.out.mks D hD).2.1) (fun k hk => hk) (.inl HF.out.ry) (.inl HF.out.re)
        have HF5 : Hid (Fsg J W1 (.func yf #[] yc) eb lg.next (Xf b2 b3 lb sl vs) (fun k => R k ∨ (W'.heap.size ≤ k ∧ k < w5.heap.size)) pre ds w5) := F5
        have hD5 : ∀ D ∈ ds, D < w5.heap.size := fun D hD => (F5.mks D hD).2.1
        clear F5
        refine range_sq2 (r1 := 8) (r2 := 9) (e1 := encE1) (e2 := encE2) rfl hSq
          (fun s pre' W => ∃ R', Fsg J W1 (.func yf #[] yc) eb lg.next (Xf b2 b3 lb sl vs) R' (pre ++ pre') ds W ∧ (∀ k, W'.heap.size ≤ k → k < s → R' k) ∧ w5.heap.size + 2 ≤ s ∧ s ≤ W.heap.size)
          (fun s c _ W => c = .ret ∧ (∃ R' p, Jx R' p W ∧ ∀ k, w5.heap.size ≤ k → k < s → R' k) ∧ ∀ D ∈ ds, W1.heap.size ≤ D ∧ D < W.heap.size ∧ W.heap[D]? = some (.deferred (some [])))
          ?hI ?hIx ?start ?assign ?body ?done ?stop
        case hI =>
          rintro s pre' A B ⟨R', h1, h2, h3, h4⟩ hs
          exact ⟨fun k => R' k ∨ (A.heap.size ≤ k ∧ k < B.heap.size), h1.st HC.out HO1.out.2.2 hs (fun k k1 k2 => h2 k (by omega) k2) (by omega) (by omega) hD5 (fun k hk => hk) (.inl h1.ry) (.inl h1.re), fun k k1 k2 => .inl (h2 k k1 k2), h3, Nat.le_trans h4 hs.size⟩
        case hIx =>
          rintro s c _ A B ⟨h0, ⟨R', p, h1, h2⟩, h3⟩ hs
          exact ⟨h0, ⟨R', p, HC.out.stx R' p A B h1 (Sr.of_sb hs (by omega) h2), h2⟩, fun D hD => ⟨(h3 D hD).1, Nat.lt_of_lt_of_le (h3 D hD).2.1 hs.size, Ch.obj hs (h3 D hD).2.2 (fun hx => by have := hD5 D hD; omega)⟩⟩
        case start =>
          intro W0 hB h0
          have h1 := HF5.out.st HC.out HO1.out.2.2 (R' := fun k => (R k ∨ (W'.heap.size ≤ k ∧ k < w5.heap.size)) ∨ (w5.heap.size ≤ k ∧ k < W0.heap.size)) (n := w5.heap.size) (s := w5.heap.size) (Sb.of_below hB) (fun k k1 k2 => by omega) (by omega) (by omega) hD5 (fun k hk => hk) (.inl HF5.out.ry) (.inl HF5.out.re)
          exact ⟨_, by rw [List.append_nil]; exact h1, fun k k1 k2 => by
            by_cases hk : k < w5.heap.size
            · exact .inl (.inr ⟨k1, hk⟩)
            · exact .inr ⟨by omega, k2⟩, h0, Nat.le_refl _⟩
        case assign =>
          intro mm l' x W K hK
          gi_wp2
          exact hK
        case body =>
          rintro mm l' s pre' ⟨xp, xr⟩ Wp W ⟨R', h1, h2, h3, h4⟩ hsb hnx
          have F2 := h1.st HC.out HO1.out.2.2 (R' := fun k => R' k ∨ (Wp.heap.size ≤ k ∧ k < W.heap.size)) hsb (fun k k1 k2 => h2 k (by omega) k2) (by omega) (by omega) hD5 (fun k hk => hk) (.inl h1.ry) (.inl h1.re)
          have cy := F2.y.cell
          have ce := F2.e.cell
          have hxm : (xp, xr) ∈ segE v.sg pos := hnx.subset (by simp)
          have hxl : xp < v.sg.next := segE_lt hxm
          have hne : ¬ ((xp : Int) = (lg.next : Int)) := by omega
          have hp : (pre ++ pre') ++ [(xp, xr)] <+: gFrom lg pos := by
            rw [← HEQ.out, List.append_assoc]
            exact (List.prefix_append_right_inj pre).2 (hnx.trans (List.prefix_append _ _))
          have hY := HC.out.go _ (pre ++ pre') (xp, xr) W F2.j hp
          have hsz := hsb.size
          have fin : Hid (∀ W3 : World, KeepsFrom W1.heap.size W W3 → Kq (fun k => Xf b2 b3 lb sl vs k ∨ R' k ∨ (Wp.heap.size ≤ k ∧ k < W.heap.size)) W W3 → KeepsFrom w5.heap.size W W3 ∧ Kq (fun k => Xs (W'.heap.size + 1) W'.heap.size v k ∨ (w5.heap.size + 2 ≤ k ∧ k < s) ∨ (Wp.heap.size ≤ k ∧ k < W.heap.size)) W W3) := fun W3 k1 k2 => ⟨KeepsFrom.up k1 (by omega), k2.sub (fun k hk => by
            rcases hk with (rfl | rfl | hk) | hk | hk
            · exact .inr (.inl (h2 _ (by omega) (by omega)))
            · exact .inr (.inl (h2 _ (by omega) (by omega)))
            · exact .inl (.inr (.inr (HV.out k hk)))
            · exact .inr (.inl (h2 k (by omega) (by omega)))
            · exact .inr (.inr hk))⟩
          have HF2 : Hid (Fsg J W1 (.func yf #[] yc) eb lg.next (Xf b2 b3 lb sl vs) (fun k => R' k ∨ (Wp.heap.size ≤ k ∧ k < W.heap.size)) (pre ++ pre') ds W) := F2
          have H2 : Hid (∀ k, W'.heap.size ≤ k → k < s → R' k) := h2
          have HSb : Hid _ := hsb
          have HW5 : Hid (W'.heap.size ≤ w5.heap.size) := by show W'.heap.size ≤ w5.heap.size; omega
          have HH : Hid (w5.heap.size + 2 ≤ s ∧ s ≤ Wp.heap.size ∧ Wp.heap.size ≤ W.heap.size) := ⟨h3, h4, hsz⟩
          clear F2 h1 h2 hp hnx hxm hsb hxl hs5' cS cp hcg hSq B5 hD5 h3 h4 hsz hs5 hib hli hi0 hvb hnb hszW heW HF HF5 HEQ
          clear hnx hiv hlt hi hsa hN hq cF c2 c3 c4
          simp only [encE1, encE2] at hY
          simp only [List.setIfInBounds_toArray, List.set_cons_succ, List.set_cons_zero]
          rcases id HC.out.yk with ⟨ly, hly⟩ | ⟨yg, yb, hyg, eg⟩
          · cases hly
            obtain ⟨fn, tmps, assign, body, hyl, hR⟩ := hY.yield
            have HR : Hid _ := hR
            clear hR hY
            gi_wp2
            refine ⟨(fun h => by cases h), ?_⟩
            refine RoundIn.mono (F := Fence.wide.inRound l') (HR.out _) ?_
            rintro e W5 ⟨k1, k2, ⟨rfl, hj⟩ | ⟨rfl, hj⟩⟩
            · have HJ : Hid _ := HF2.out.go k1 k2 hj
              have HL : Hid _ := fin.out W5 k1 k2
              have HS5 : Hid (W.heap.size ≤ W5.heap.size) := k2.1
              clear hj k1 k2
              gi_wp2
              exact ⟨HL.out.1, HL.out.2, (fun k => R' k ∨ (Wp.heap.size ≤ k ∧ k < W.heap.size)), by rw [← List.append_assoc]; exact HJ.out, fun k a b => .inl (H2.out k a b), HH.out.1, by have := HH.out; have := HS5.out; omega⟩
            · have HM : Hid _ := (HF2.out.left k1 k2 hj).mks
              have HJ : Hid _ := hj
              have HL : Hid _ := fin.out W5 k1 k2
              clear hj k1 k2
              gi_wp2
              exact ⟨HL.out.1, HL.out.2, rfl, ⟨_, _, HJ.out, fun k a b => .inl (H2.out k (Nat.le_trans HW5.out a) b)⟩, HM.out⟩
          · cases hyg
            have hc := hY.func
            unfold Ent0 at eg
            clear hY
            gi_wp2
            refine ⟨trivial, (fun h => by cases h), ?_⟩
            refine CallsIn.mono (CallsIn.inRound _ (callsIn_wide.2 hc)) ?_
            rintro e W5 ⟨k1, k2, ⟨rfl, hj⟩ | ⟨rfl, hj⟩⟩
            · have HJ : Hid _ := HF2.out.go k1 k2 hj
              have HL : Hid _ := fin.out W5 k1 k2
              have HS5 : Hid (W.heap.size ≤ W5.heap.size) := k2.1
              clear hj k1 k2
              gi_wp2
              exact ⟨HL.out.1, HL.out.2, (fun k => R' k ∨ (Wp.heap.size ≤ k ∧ k < W.heap.size)), by rw [← List.append_assoc]; exact HJ.out, fun k a b => .inl (H2.out k a b), HH.out.1, by have := HH.out; have := HS5.out; omega⟩
            · have HM : Hid _ := (HF2.out.left k1 k2 hj).mks
              have HJ : Hid _ := hj
              have HL : Hid _ := fin.out W5 k1 k2
              clear hj k1 k2
              gi_wp2
              exact ⟨HL.out.1, HL.out.2, rfl, ⟨_, _, HJ.out, fun k a b => .inl (H2.out k (Nat.le_trans HW5.out a) b)⟩, HM.out⟩
        case done =>
          rintro s W ⟨R', h1, h2, h3, h4⟩ hD
          have HX := h1.mark (D := w5.heap.size) (by omega) hD5 hD
          have HY : Hid (Fsg J W1 (.func yf #[] yc) eb lg.next (Xf b2 b3 lb sl vs) R' (pre ++ segE v.sg pos) (w5.heap.size :: ds) W) := HX
          clear h1 HX hD
          gi_wp2
          rw [show (i : Int) + 1 = ((i + 1 : Nat) : Int) by omega]
          refine ⟨⟨i + 1, _, _, _, _, _, _, _, _, _, _, _, _, _, _, _, _, _, _, _, _, w5.heap.size :: ds, R', pre ++ segE v.sg pos, rfl, by omega, ?_, HY.out⟩, ?_⟩
          · rw [List.append_assoc]
            exact HEQ.out
          · simp [intOf]
            omega
        case stop =>
          rintro s c _ W ⟨rfl, ⟨R', p, h1, h2⟩, h3⟩ hD
          have HJ : Hid (∃ R p, Jx R p W) := ⟨R', p, h1⟩
          have HM : Hid (∀ D ∈ w5.heap.size :: ds, W1.heap.size ≤ D ∧ W.heap[D]? = some (.deferred (some []))) := fun D hd => by
            rcases List.mem_cons.1 hd with rfl | hd
            · exact ⟨by omega, hD⟩
            · exact ⟨(h3 D hd).1, (h3 D hd).2.2⟩
          have HN : Hid (w5.heap.size :: ds).Nodup := List.nodup_cons.2 ⟨fun hd => by have := hD5 _ hd; omega, HF5.out.nd⟩
          clear h1 h2 h3 hD
          gi_wp2
          rw [Exit.noGoto_ret]
          exact marks_leave (fun W => ∃ R p, Jx R p W) (fun W D ⟨R, p, h⟩ hD hB => ⟨R, p, HC.out.stx R p _ _ h (Sr.of_sb (Sb.putD (s := 0) hD rfl hB _) (Nat.le_refl _) (fun k _ h => by omega))⟩)
            (fun W h => ⟨_, results_none rfl _ _ _, ⟨_, rfl⟩, .inr h⟩) (w5.heap.size :: ds) W HN.out HM.out HJ.out
      · have hli : ¬ (i : Int) < (N : Int) := by omega
        have hpre : pre = gFrom lg pos := by
          have h0 : restE vs pos (idx lg.segs pos + i) = [] := by
            unfold restE
            rw [List.drop_of_length_le (by omega)]
            rfl
          rw [h0, List.append_nil] at heq
          exact heq
        subst hpre
        have HF : Hid (Fsg J W1 (.func yf #[] yc) eb lg.next (Xf b2 b3 lb sl vs) R (gFrom lg pos) ds W') := hF
        clear hF heq
        gi_wp2
        exact marks_leave (B := W1.heap.size) (fun W => ∃ R, J R (gFrom lg pos) W) (fun W D ⟨R, h⟩ hD hB => ⟨R, HC.out.st R R _ _ _ h (Sr.of_sb (Sb.putD (s := 0) hD rfl hB _) (Nat.le_refl _) (fun k _ h => by omega)) (fun k hk => .inl hk)⟩)
          (fun W h => ⟨_, results_none rfl _ _ _, ⟨_, rfl⟩, .inl h⟩) ds W' HF.out.nd (fun D hD => ⟨(HF.out.mks D hD).1, (HF.out.mks D hD).2.2⟩) ⟨R, HF.out.j⟩
  have HF : Hid _ := fin
  clear fin hK
  have cF' : ∀ W, Below Wa.heap.size Wa W → Calls Tryz.prog 64 #[.pointer (some ⟨lb, 0, none⟩), .int .u64 (pos : Int)] W fun e w' =>
      (∃ a, e = .returned (.slice a (vs.length - idx lg.segs pos) (vs.length - idx lg.segs pos)) ∧ (idx lg.segs pos < vs.length → ∃ g c, sl = .slice (some ⟨g, 0, none⟩) vs.length c ∧ a = some ⟨g, idx lg.segs pos, none⟩)) ∧ Below W.heap.size W w' := fun W hb => fromQ_any (HO.out.below hb)
  have hlbl := HO.out.lw.lt
  have hb2l := World.block_lt_of_cell? _ _ c2
  clear cF
  have hbA : Below Wa.heap.size Wa Wa.drew := (Below.refl _ Wa).drew
  have hbB : Below Wa.heap.size Wa (Wa.alloc (.cells #[.int .u64 0] 36)).drew := ((Below.refl _ Wa).alloc (Nat.le_refl _) _).drew
  have bxB : Bx (Wa.alloc (.cells #[.int .u64 0] 36)).drew (W1.heap.size + 1) (.int .u64 0) 36 := by rw [← hsa]; exact Bx.new Wa _ _
  have hb3l := World.block_lt_of_cell? _ _ c3
  have c2B := (((Below.refl _ Wa).alloc (Nat.le_refl _) (.cells #[.int .u64 0] 36)).cell (p := ⟨b2, 0, none⟩) hb2l).trans c2
  have c3B := (((Below.refl _ Wa).alloc (Nat.le_refl _) (.cells #[.int .u64 0] 36)).cell (p := ⟨b3, 0, none⟩) hb3l).trans c3
  have c4B := (((Below.refl _ Wa).alloc (Nat.le_refl _) (.cells #[.int .u64 0] 36)).cell (p := ⟨lb, 4, none⟩) hlbl).trans c4
  have cA := cF' _ hbA
  have cB := cF' _ hbB
  have HA : Hid _ := hbA
  have HBB : Hid _ := hbB
  have HBX : Hid (Bx (Wa.alloc (.cells #[.int .u64 0] 36)).drew (W1.heap.size + 1) (.int .u64 0) 36) := bxB
  clear hbA hbB bxB cF'
  refine wpIn_mono (Q := Exit.then K (fun _ _ _ => False)) ?_ (by
    intro e a w h
    cases e with
    | normal => exact h
    | ret => exact h.elim
    | exit id => exact h.elim
    | goto t => exact h.elim
    | panic ch => exact h.elim
    | outgrown => exact h.elim)
  gi_region_with (refine ⟨trivial, ?_⟩; gi_at_call 64; first
    | (refine (callsIn_wide.2 cA).mono ?_; rintro e w2 ⟨⟨sa, rfl, hsa2⟩, B2⟩; have hs2 := B2.size; have HB2 : Hid (Below Wa.heap.size Wa w2) := HA.out.trans (B2.mono HA.out.size); have d2 := (HB2.out.cell (p := ⟨b2, 0, none⟩) hb2l).trans c2; have d4 := (HB2.out.cell (p := ⟨lb, 4, none⟩) hlbl).trans c4; have d2B := ((HB2.out.alloc HB2.out.size (.cells #[.int .u64 0] 36)).cell (p := ⟨b2, 0, none⟩) hb2l).trans c2; have d4B := ((HB2.out.alloc HB2.out.size (.cells #[.int .u64 0] 36)).cell (p := ⟨lb, 4, none⟩) hlbl).trans c4; have HS2 : Hid _ := hsa2; clear hsa2 B2)
    | (refine (callsIn_wide.2 cB).mono ?_; rintro e w2 ⟨⟨sa, rfl, hsa2⟩, B2⟩; have hs2 := B2.size; have HB2 : Hid (Below Wa.heap.size Wa w2) := HBB.out.trans (B2.mono HBB.out.size); have d2 := (HB2.out.cell (p := ⟨b2, 0, none⟩) hb2l).trans c2; have d4 := (HB2.out.cell (p := ⟨lb, 4, none⟩) hlbl).trans c4; have HS2 : Hid _ := hsa2; have bx2 := Bx.below HBX.out B2 (Bx.lt HBX.out); have d5 := bx2.cell; have f5 := bx2.fro; have HX2 : Hid (Bx w2 (W1.heap.size + 1) (.int .u64 0) 36) := bx2; clear hsa2 B2 bx2))
  all_goals first
    | exact HF.out sa _ w2.heap.size _ (HB2.out.alloc HB2.out.size _) HB2.out.size (Bx.new w2 _ _) rfl HS2.out
    | exact HF.out sa _ (W1.heap.size + 1) _ (HB2.out.setCell (by rw [hsa]; exact Nat.le_refl _) _) (by rw [hsa]; exact Nat.le_refl _) (one0 HX2.out _) rfl HS2.out
end Go.Proofs.YteifkkceldlfnaaGreatDoor

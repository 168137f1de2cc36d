/-
  Package book's Activate: of what may be asked.
-/
import Derived.Test.YthmfcloecmnfnaaGreatB16Rng
import Derived.Test.YthmfcloecmnfnaaGreatB16Nam
namespace Go.Proofs.YthmfcloecmnfnaaGreat.f13
open Go.RowKit Go.Shelf Go.Sort
open Go.Lib hiding intOf

open Go.Proofs.YthmfcloecmnfnaaGreat
attribute [local go_sem] Oper.semAt_some
theorem hel_mono {x y : Nat} (h : (y + y / 4 + 192) * 144 ≤ 281474976710656) (hxy : x ≤ y) : (x + x / 4 + 192) * 144 ≤ 281474976710656 := Nat.le_trans (Nat.mul_le_mul_right _ (Nat.add_le_add_right (Nat.add_le_add hxy (Nat.div_le_div_right hxy)) _)) h
theorem hel_of {a b p : Nat} {mo : Int} (h : ((a + 33) + (a + 33) / 4 + 192) * 144 ≤ 281474976710656) (h0 : b = a + p) (h1 : (p : Int) < mo) (h2 : mo ≤ 32) : ((b + 1) + (b + 1) / 4 + 192) * 144 ≤ 281474976710656 := hel_mono h (by clear h; omega)
theorem le_1000 {p : Nat} {mo : Int} (h1 : (p : Int) < mo) (h2 : mo ≤ 32) : p ≤ 1000 := by omega
theorem S_nil : S [] = ⟨#[]⟩ := rfl
theorem nam_32 {s : List UInt8} (h : namV s = true) : s.length ≤ 32 := by
  unfold namV at h
  simp only [Bool.and_eq_true, decide_eq_true_eq] at h
  omega
theorem job2 {W : World} {b : Nat} {c0 c1 c2 c3 c4 c5 : Value} {t : TypeId} (h : W.heap[b]? = some (.cells #[c0, c1, c2, c3, c4, c5] t (0, 0))) (x y : Value) :
    (((W.setCell ⟨b, 4, none⟩ x).setCell ⟨b, 5, none⟩ y).drew).heap[b]? = some (.cells #[c0, c1, c2, c3, x, y] t (0, 0)) ∧ (((W.setCell ⟨b, 5, none⟩ y).setCell ⟨b, 4, none⟩ x).drew).heap[b]? = some (.cells #[c0, c1, c2, c3, x, y] t (0, 0)) :=
  ⟨heap_setCell_same _ b 5 _ t y (heap_setCell_same W b 4 _ t x h), heap_setCell_same _ b 4 _ t x (heap_setCell_same W b 5 _ t y h)⟩
set_option maxHeartbeats 8000000 in
set_option maxRecDepth 100000 in
theorem act_yes {B : Nat} {w : World} {g : Nat} {k : Wo} {kind wk : List UInt8} {mo wt : Int} (h : Wk B w g k) (hB : B ≤ w.heap.size) (hz : Sz k.s) (hel : ((k.el.length + 33) + (k.el.length + 33) / 4 + 192) * 144 ≤ 281474976710656) (hk1 : namV kind = true) (hk2 : namV wk = true) (hm1 : 1 ≤ mo) (hm2 : mo ≤ 32) (hw1 : 1 ≤ wt) (hw2 : wt ≤ 1048576) :
    Calls Tryz.prog 14 #[.pointer (some ⟨g, 0, none⟩), .string (S kind), .string (S wk), .int .i64 mo, .int .i64 wt] w fun e w' => ∃ (gv : Value) (k' : Wo), e = .returned (.tuple #[gv, .int .i64 0]) ∧ Wkr B w g k k' w' ∧ Sz k'.s ∧
      ActP k wk (IntKind.i64.wrap (k.nw + wt)) ((rdyT kind k.s.jobs k.s.jobs.length).take mo.toNat) k' ∧
      w'.ownsRow w.heap.size 46 6 gv ((rdyT kind k.s.jobs k.s.jobs.length).take mo.toNat).length ((((rdyT kind k.s.jobs k.s.jobs.length).take mo.toNat).map (fun x => actJ wk (IntKind.i64.wrap (k.nw + wt)) x.1)).flatMap Jb.c) ∧ (∀ b, gv.ownBlock = some b → ¬ k'.has g b) := by
  obtain ⟨un, hun⟩ : ∃ un, IntKind.i64.wrap (k.nw + wt) = un := ⟨_, rfl⟩
  obtain ⟨L, hL⟩ : ∃ L, rdyT kind k.s.jobs k.s.jobs.length = L := ⟨_, rfl⟩
  obtain ⟨M, hMM⟩ : ∃ M, L.take mo.toNat = M := ⟨_, rfl⟩
  rw [hun, hL, hMM]
  have HMM : Hid (L.take mo.toNat = M) := hMM
  clear hMM
  have HL : Hid (rdyT kind k.s.jobs k.s.jobs.length = L) := hL
  clear hL
  have hlt := h.lt.2
  obtain ⟨n, hn⟩ : ∃ n, w.heap.size = n := ⟨_, rfl⟩
  obtain ⟨W3, hW3⟩ : ∃ W3, ((w.alloc (.cells #[.pointer (some ⟨g, 0, none⟩)] 49)).alloc (.cells #[.string (S wk)] 9)).alloc (.cells #[.int .i64 mo] 2) = W3 := ⟨_, rfl⟩
  have hs3 : W3.heap.size = n + 3 := by rw [← hW3, ← hn]; simp
  have hb3 : Below w.heap.size w W3 := by rw [← hW3]; exact (((Below.refl _ w).alloc (Nat.le_refl _) _).alloc (by simp) _).alloc (by simp; omega) _
  have p5 : Bx W3 n (.pointer (some ⟨g, 0, none⟩)) 49 := by rw [← hW3, ← hn]; exact ((Bx.new w _ _).alloc _).alloc _
  have p7 : Bx W3 (n + 1) (.string (S wk)) 9 := by
    rw [← hW3, ← hn]
    have := (Bx.new (w.alloc (.cells #[.pointer (some ⟨g, 0, none⟩)] 49)) (.string (S wk)) 9).alloc (.cells #[.int .i64 mo] 2)
    rwa [World.size_alloc] at this
  have p8 : Bx W3 (n + 2) (.int .i64 mo) 2 := by
    rw [← hW3, ← hn]
    have := Bx.new ((w.alloc (.cells #[.pointer (some ⟨g, 0, none⟩)] 49)).alloc (.cells #[.string (S wk)] 9)) (.int .i64 mo) 2
    simpa using this
  obtain ⟨W5, hW5⟩ : ∃ W5, (W3.alloc (.cells #[.int .i64 un] 2)).alloc (.cells #[.slice none 0 0] 26) = W5 := ⟨_, rfl⟩
  have hs5 : W5.heap.size = n + 5 := by rw [← hW5]; simp [hs3]
  have hb5 : Below W3.heap.size W3 W5 := by rw [← hW5]; exact ((Below.refl _ W3).alloc (Nat.le_refl _) _).alloc (by simp) _
  have p12 : Bx W5 (n + 3) (.int .i64 un) 2 := by rw [← hW5, ← hs3]; exact (Bx.new W3 _ _).alloc _
  have p13 : Bx W5 (n + 4) (.slice none 0 0) 26 := by
    rw [← hW5]
    have := Bx.new (W3.alloc (.cells #[.int .i64 un] 2)) (.slice none 0 0) 26
    rw [World.size_alloc, hs3] at this
    exact this
  have hbw5 : Below w.heap.size w W5 := hb3.trans (hb5.mono (by omega))
  have C1 := Named_S kind (by have := nam_32 hk1; omega)
  have C2 := Named_S wk (by have := nam_32 hk2; omega)
  rw [hk1] at C1
  rw [hk2] at C2
  have C3 : ∀ W, Calls Tryz.prog 25 #[.int .i64 mo, .int .i64 1, .int .i64 32] W fun e w' => e = .returned (.bool true) ∧ w' = W := fun W => by
    have := within_any mo 1 32 W
    rwa [show decide (1 ≤ mo ∧ mo ≤ 32) = true by simp [hm1, hm2]] at this
  have C4 : ∀ W, Calls Tryz.prog 25 #[.int .i64 wt, .int .i64 1, .int .i64 1048576] W fun e w' => e = .returned (.bool true) ∧ w' = W := fun W => by
    have := within_any wt 1 1048576 W
    rwa [show decide (1 ≤ wt ∧ wt ≤ 1048576) = true by simp [hw1, hw2]] at this
  have C5 := Now_any (h.up hb3)
  have C6 := State_any (h.up hbw5) hz
  have c5 := p5.cell
  have c7 := p7.cell
  have c8 := p8.cell
  have c5' := (p5.below hb5 p5.lt).cell
  have HK : Hid (Wk B w g k ∧ B ≤ w.heap.size ∧ Sz k.s ∧ ((k.el.length + 33) + (k.el.length + 33) / 4 + 192) * 144 ≤ 281474976710656 ∧ w.heap.size = n ∧ g < n) := ⟨h, hB, hz, hel, hn, by omega⟩
  have HP : Hid (Bx W5 n (.pointer (some ⟨g, 0, none⟩)) 49 ∧ Bx W5 (n + 1) (.string (S wk)) 9 ∧ Bx W5 (n + 2) (.int .i64 mo) 2 ∧ Bx W5 (n + 3) (.int .i64 un) 2 ∧ Bx W5 (n + 4) (.slice none 0 0) 26 ∧ W5.heap.size = n + 5 ∧ Below w.heap.size w W5) := ⟨p5.below hb5 p5.lt, p7.below hb5 p7.lt, p8.below hb5 p8.lt, p12, p13, hs5, hbw5⟩
  have HM : Hid (1 ≤ mo ∧ mo ≤ 32) := ⟨hm1, hm2⟩
  have hn1 : n = w.heap.size := hn.symm
  clear h hB hz hel p5 p7 p8 p12 p13 hb3 hb5 hbw5 hs5 hk1 hk2 hm1 hm2 hw1 hw2 hlt
  refine (callsIn_wide (n := 9)).1 ?_
  refine callsIn_of_wp_marks Tryz.func14 rfl trivial ?_ rfl
  simp only [Tryz.ntmps14, List.size_toArray, List.length_cons, List.length_nil, Nat.reduceAdd, Nat.reduceSub, Array.replicate_succ, Array.replicate_zero, List.push_toArray, List.append_toArray, List.nil_append, List.cons_append]
  subst hn1
  gi_wp2_with ((refine ⟨trivial, ?_⟩; gi_at_call 24; (try rw [hW3]); refine (callsIn_wide.2 (C1 _)).mono ?_; rintro e w4 ⟨rfl, hw4⟩; rw [hw4]; clear hw4 w4 C1))
  gi_wp2_with ((refine ⟨trivial, ?_⟩; gi_at_call 24; refine (callsIn_wide.2 (C2 _)).mono ?_; rintro e w4 ⟨rfl, hw4⟩; rw [hw4]; clear hw4 w4 C2))
  gi_wp2_with ((refine ⟨trivial, ?_⟩; gi_at_call 25; refine (callsIn_wide.2 (C3 _)).mono ?_; rintro e w4 ⟨rfl, hw4⟩; rw [hw4]; clear hw4 w4 C3))
  gi_wp2_with ((refine ⟨trivial, ?_⟩; gi_at_call 25; refine (callsIn_wide.2 (C4 _)).mono ?_; rintro e w4 ⟨rfl, hw4⟩; rw [hw4]; clear hw4 w4 C4))
  gi_wp2_with ((refine ⟨trivial, ?_⟩; gi_at_call 26; refine (callsIn_wide.2 C5).mono ?_; rintro e w4 ⟨rfl, hw4⟩; rw [hw4]; clear hw4 w4 C5))
  gi_wp2_with ((refine ⟨trivial, ?_⟩; gi_at_call 13; refine (callsIn_wide.2 C6).mono ?_; rintro e w5 ⟨t, rfl, hO, hE, hb5⟩; (have hj : t.jobs = k.s.jobs := St.jobs_e hE); (have C7 := Ready_any (kind := kind) (Own.sv hO) (by rw [hj]; exact HK.out.2.2.1.nJb)); rw [hj] at C7; obtain ⟨⟨taDe, tnDe, tcDe, thDe⟩, ⟨taIn, tnIn, tcIn, thIn⟩, ⟨taTk, tnTk, tcTk, thTk⟩, ⟨taJb, tnJb, tcJb, thJb⟩, ⟨taTm, tnTm, tcTm, thTm⟩, ⟨taSb, tnSb, tcSb, thSb⟩, ⟨taKp, tnKp, tcKp, thKp⟩, ⟨taLs, tnLs, tcLs, thLs⟩, ⟨taMs, tnMs, tcMs, thMs⟩⟩ := St.slices hO; obtain ⟨tpos, tdone, tmade, tvDe, tlDe, tvIn, tlIn, tvTk, tlTk, tvJb, tlJb, tvTm, tlTm, tvSb, tlSb, tvKp, tlKp, tvLs, tlLs, tvMs, tlMs⟩ := t; simp only at thDe thIn thTk thJb thTm thSb thKp thLs thMs; subst thDe thIn thTk thJb thTm thSb thKp thLs thMs; simp only [St.c] at C7 ⊢; (have H5 : Hid (Below W5.heap.size W5 w5) := hb5); clear hO hE hb5 hj C6))
  gi_wp2_with ((refine ⟨trivial, ?_⟩; gi_at_call 11; refine (callsIn_wide.2 C7).mono ?_; rintro e w6 ⟨f, X, rfl, hS, hXl, hb6⟩; (have H6 : Hid (Below W5.heap.size W5 w6 ∧ (∀ x, X x → W5.heap.size ≤ x) ∧ (∀ x, X x → x < w6.heap.size)) := ⟨bel_of H5.out hb6 (Nat.le_refl _), fun x hx => Nat.le_trans H5.out.size (hXl x hx), by obtain ⟨_, _, _, _, hh, _⟩ := hS; exact hh⟩); clear hb6 hXl C7))
  clear c5 c7 c8 c5' hW3 hW5 hun hs3
  rw [HL.out] at hS
  have hn6 : w.heap.size + 5 ≤ w6.heap.size := by have h1 := H6.out.1.size; have h2 := HP.out.2.2.2.2.2.1; omega
  refine range_jbB (r := 15) rfl hS
    (fun s pre W => (∃ gv k', Ai w w.heap.size w6 B g k wk un mo s pre W gv k') ∧ (pre.length : Int) < mo)
    (fun s pre W => (∃ gv k', Ai w w.heap.size w6 B g k wk un mo s pre W gv k') ∧ (pre.length : Int) = mo ∧ pre <+: L)
    (fun W => ∃ s gv k', Ai w w.heap.size w6 B g k wk un mo s M W gv k')
    ?hI ?hBk ?hIs ?start ?assign ?body ?done ?stop ?fin
  case hI => rintro s pre A C ⟨⟨gv, k', h1⟩, h2⟩ hs; exact ⟨⟨gv, k', h1.sb hs⟩, h2⟩
  case hBk => rintro s pre A C ⟨⟨gv, k', h1⟩, h2⟩ hs; exact ⟨⟨gv, k', h1.sb hs⟩, h2⟩
  case hIs => rintro s pre W ⟨⟨gv, k', h1⟩, -⟩; exact h1.sn.2
  case start =>
    intro W0 hB0 h0
    obtain ⟨p5, p7, p8, p12, p13, hs5, hbw5⟩ := HP.out
    obtain ⟨hk, hB, hz, hel, -, hg⟩ := HK.out
    have h6 := H6.out.1
    have hb60 : Below W5.heap.size W5 W0 := h6.trans (hB0.mono h6.size)
    refine ⟨⟨.slice none 0 0, k, p5.below hb60 p5.lt, p7.below hb60 p7.lt, p8.below hb60 p8.lt, p12.below hb60 p12.lt, p13.below hb60 p13.lt, Wkr.refl hk (hbw5.trans (hb60.mono hbw5.size)), rfl, rfl, hz, by simp, World.ownsRow_nil _ _ _ _, (by intro b hb; cases hb), fun b hb => .inl (hk.has_lt hb).2, ⟨h0, Nat.le_refl _⟩, hn6, hB⟩, ?_⟩
    have := HM.out.1; simp; omega
  case assign =>
    intro mm l' x W K hK
    simp only [Jb.c] at hK ⊢
    gi_wp2
    exact hK
  case body =>
    rintro mm l' s b pre x Wp W ⟨⟨gv, k', hA0⟩, hlen⟩ hsb hWb hob hnx
    have hA := hA0.sb hsb
    have hsn := hA0.sn
    obtain ⟨ga, gc, rfl, -⟩ := row_slice hA.row
    have hbk : ¬ k'.has g b ∧ (Value.slice ga pre.length gc).ownBlock ≠ some b ∧ s ≤ b := ⟨fun e => by have := (hA0.wr.wk.has_lt e).2; omega, fun e => by have := (hA0.row.lt b e).2; omega, by omega⟩
    have hkn : ∀ y, k.has g y → y < w.heap.size := fun y hy => (HK.out.1.has_lt hy).2
    have hgn := HK.out.2.2.2.2.2
    have hev : ∀ y, k'.ev.ownBlock = some y → y < w.heap.size ∨ s ≤ y := fun y hy => hA.new y (Wo.has_ev hy)
    have hLow : Hid (∀ i, i ≤ 4 → ¬ (w.heap.size + i = b ∨ w.heap.size + i = g ∨ k'.ev.ownBlock = some (w.heap.size + i))) := by
      rintro i hi (e | e | e)
      · omega
      · omega
      · have := hev _ e; omega
    have hne1 : ¬ w.heap.size + 1 = b := by omega
    have hne2 : ¬ b = w.heap.size + 1 := by omega
    have hne3 : ¬ w.heap.size + 3 = b := by omega
    have hne4 : ¬ b = w.heap.size + 3 := by omega
    have c7 := hA.b7.cell
    have c12 := hA.b12.cell
    obtain ⟨⟨j0, j1, j2, j3, j4, j5⟩, xi⟩ := x
    simp only [Jb.c] at hob
    have f4 : W.frozen? ⟨b, 4, none⟩ = false := by simp [World.frozen?, hob]
    have f5 : W.frozen? ⟨b, 5, none⟩ = false := by simp [World.frozen?, hob]
    have m4 : W.cell? ⟨b, 4, none⟩ = some (.string (S j4)) := by simp [World.cell?, hob]
    have m5 : W.cell? ⟨b, 5, none⟩ = some (.int .i64 j5) := by simp [World.cell?, hob]
    have HA : Hid (Ai w w.heap.size w6 B g k wk un mo s pre W (.slice ga pre.length gc) k') := hA
    have HOb : Hid _ := hob
    have HBk : Hid (¬ k'.has g b ∧ (Value.slice ga pre.length gc).ownBlock ≠ some b ∧ s ≤ b) := hbk
    have HNx : Hid (pre ++ [((⟨j0, j1, j2, j3, j4, j5⟩ : Jb), xi)] <+: L) := hnx
    have HKn : Hid (∀ y, k.has g y → y < w.heap.size) := hkn
    have HLw : Hid (∀ y, k'.has g y → ¬ (Wp.heap.size ≤ y ∧ y < b)) := fun y hy e => by have := (hA0.wr.wk.has_lt hy).2; omega
    have HRw : Hid (∀ y, (Value.slice ga pre.length gc).ownBlock = some y → y < Wp.heap.size) := fun y hy => (hA0.row.lt y hy).2
    have HSb : Hid (s ≤ Wp.heap.size ∧ Wp.heap.size ≤ b ∧ w6.heap.size + 2 ≤ s ∧ b < W.heap.size) := ⟨hsn.2, hWb, hsn.1, (Array.getElem?_eq_some_iff.1 hob).1⟩
    clear hA0 hsb hA hbk hnx hkn hev hob
    simp only [Jb.c]
    simp only [List.setIfInBounds_toArray, List.set_cons_succ, List.set_cons_zero]
    gi_wp2
    apply wpIn_one
    case h =>
      gi_region
      all_goals exact ⟨rfl, rfl, rfl⟩
    obtain ⟨Wx, hWx⟩ : ∃ Wx, ((W.setCell ⟨b, 4, none⟩ (.string (S wk))).setCell ⟨b, 5, none⟩ (.int .i64 un)).drew = Wx := ⟨_, rfl⟩
    rw [hWx]
    have hxc : Ch (fun y => y = b) W Wx := by rw [← hWx]; exact Ch.drew (((Ch.refl (fun y => y = b) W).setCell ⟨b, 4, none⟩ _ (fun _ => rfl)).setCell ⟨b, 5, none⟩ _ (fun _ => rfl))
    have hxo : Wx.heap[b]? = some (.cells #[.int .u64 (j0 : Int), .int .u64 (j1 : Int), .string (S j2), .int .i64 j3, .string (S wk), .int .i64 un] 46 (0, 0)) := by rw [← hWx]; exact (job2 HOb.out _ _).1
    have low : ∀ i, i ≤ 4 → ¬ (w.heap.size + i = b) := fun i hi e => hLow.out i hi (.inl e)
    have c5 := (HA.out.b5.ch hxc (low 0 (by omega))).cell
    have c7 := (HA.out.b7.ch hxc (low 1 (by omega))).cell
    have c12 := (HA.out.b12.ch hxc (low 3 (by omega))).cell
    have x0 : Wx.cell? ⟨b, 0, none⟩ = some (.int .u64 (j0 : Int)) := by simp [World.cell?, hxo]
    have hwkx : Wk B Wx g k' := HA.out.wr.wk.ch hxc (fun y hy e => HBk.out.1 (e ▸ hy))
    have hkl : k'.el.length = k.el.length + pre.length := by
      have := congrArg List.length HA.out.el
      simpa using this
    have CE := Emt_7 (r := actR wk un ⟨j0, j1, j2, j3, j4, j5⟩) hwkx (Nat.le_trans HA.out.bn (Nat.le_trans (Nat.le_of_lt HA.out.b5.lt) hxc.size)) HA.out.sz (Rr.nil _) (Nat.zero_le _) (hel_of HK.out.2.2.2.1 hkl hlen HM.out.2) rfl
    simp only [Rc.cs, actR, S_nil] at CE
    have HX : Hid (Ch (fun y => y = b) W Wx ∧ Wx.heap[b]? = some (.cells #[.int .u64 (j0 : Int), .int .u64 (j1 : Int), .string (S j2), .int .i64 j3, .string (S wk), .int .i64 un] 46 (0, 0))) := ⟨hxc, hxo⟩
    have HLn : Hid ((pre.length : Int) < mo) := hlen
    clear hWx hxc hxo low hwkx hkl f4 f5 m4 m5 hlen
    gi_wp2_with (first
      | (refine ⟨trivial, (fun h => by cases h), ?_⟩; gi_at_call 27; refine (CallsIn.inRound _ (callsIn_wide.2 CE)).mono ?_; rintro e w8 ⟨rfl, hE⟩; obtain ⟨k'', hW8, hT8, hS8, hEl8, -⟩ := hE.len; (have hc8 : Ch (fun y => y = b ∨ y = g ∨ k'.ev.ownBlock = some y) W w8 := chJoin (HX.out.1.mono (fun y _ e => .inl e)) hW8.ch (fun y _ e => .inr e)); (have d13 := (HA.out.b13.ch hc8 (hLow.out 4 (by omega))).cell); (have d13f := (HA.out.b13.ch hc8 (hLow.out 4 (by omega))).fro); (have d8 := (HA.out.b8.ch hc8 (hLow.out 2 (by omega))).cell); (have ho8 : w8.heap[b]? = some (.cells #[.int .u64 (j0 : Int), .int .u64 (j1 : Int), .string (S j2), .int .i64 j3, .string (S wk), .int .i64 un] 46 (0, 0)) := hW8.ch.obj HX.out.2 (fun e => e.elim (fun e => HBk.out.1 (e ▸ k'.has_g g)) (fun e => HBk.out.1 (Wo.has_ev e)))); (have y0 : w8.cell? ⟨b, 0, none⟩ = some (.int .u64 (j0 : Int)) := by simp [World.cell?, ho8]); (have y1 : w8.cell? ⟨b, 1, none⟩ = some (.int .u64 (j1 : Int)) := by simp [World.cell?, ho8]); (have y2 : w8.cell? ⟨b, 2, none⟩ = some (.string (S j2)) := by simp [World.cell?, ho8]); (have y3 : w8.cell? ⟨b, 3, none⟩ = some (.int .i64 j3) := by simp [World.cell?, ho8]); (have y4 : w8.cell? ⟨b, 4, none⟩ = some (.string (S wk)) := by simp [World.cell?, ho8]); (have y5 : w8.cell? ⟨b, 5, none⟩ = some (.int .i64 un) := by simp [World.cell?, ho8]); (have hrow8 : w8.ownsRow s 46 6 (.slice ga pre.length gc) pre.length _ := hc8.row HA.out.row (fun y hy e => (by rcases e with e | e | e; exact HBk.out.2.1 (e ▸ hy); exact HA.out.off y hy (e ▸ k'.has_g g); exact HA.out.off y hy (Wo.has_ev e)))); obtain ⟨a9, c9, w9, hrun9, hown9, hg9, hnew9⟩ := job_run ⟨j0, j1, j2, j3, wk, un⟩ hrow8 (le_1000 HLn.out HM.out.2) (Nat.le_trans (Nat.le_trans HSb.out.1 (Nat.le_trans HSb.out.2.1 (Nat.le_of_lt HSb.out.2.2.2))) hc8.size); (have hst := HA.out.step HKn.out ((⟨j0, j1, j2, j3, j4, j5⟩ : Jb), xi) HBk.out HX.out.1 hW8 hT8 hS8 hEl8 hown9 hg9 hnew9); (have e13 := hst.2.1.cell); (have e13f := hst.2.1.fro); (have e8 := hst.2.2.1.cell); simp only [Jb.c] at hrun9; (have HST : Hid _ := hst); clear hst hown9 hg9 hnew9 hrow8 ho8 hc8 hW8 hT8 hS8 hEl8 hE CE)
      | (gi_at_builtin; refine wpListIn_append_runJ _ rfl _ _ _ rfl _ _ _ _ rfl rfl hrun9 ?_; clear hrun9))
    all_goals
      rename_i he
      obtain ⟨hAi, -, -, hcE⟩ := HST.out
      have hcells : ∀ y, (y = b ∨ y = g ∨ k'.ev.ownBlock = some y ∨ y = w.heap.size + 4 ∨ (Value.slice ga pre.length gc).ownBlock = some y) → ∃ o : Obj, W.heap[y]? = some o ∧ o.isCells = true := by
        rintro y (e | e | e | e | e)
        · subst e; exact ⟨_, HOb.out, rfl⟩
        · subst e; exact HA.out.wr.wk.obj (k'.has_g _)
        · exact HA.out.wr.wk.obj (Wo.has_ev e)
        · subst e; exact ⟨_, HA.out.b13, rfl⟩
        · obtain ⟨_, cur, hx⟩ := row_obj HA.out.row e; exact ⟨_, hx, rfl⟩
      have hKf := KeepsFrom.of_ch (B := w6.heap.size) hcE hcells
      have hKq : Kq (fun y => X y ∨ (w6.heap.size + 2 ≤ y ∧ y < s) ∨ (Wp.heap.size ≤ y ∧ y < b)) W (w9.setCell ⟨w.heap.size + 4, 0, none⟩ (.slice a9 (pre.length + 1) c9)) := by
        refine Kq.of_ch hcE ?_
        obtain ⟨b1, b2, b3, b4⟩ := HSb.out
        have h5 := HP.out.2.2.2.2.2.1
        have h6 := HK.out.2.2.2.2.2
        have hXl : ∀ y, X y → w.heap.size + 5 ≤ y ∧ y < w6.heap.size := fun y hy => ⟨by have := H6.out.2.1 y hy; omega, H6.out.2.2 y hy⟩
        have hWpev : ∀ y, k'.has g y → y < w.heap.size ∨ s ≤ y := HA.out.new
        have hevlt : ∀ y, k'.has g y → ¬ (Wp.heap.size ≤ y ∧ y < b) := HLw.out
        rintro y (hy | hy | hy) (e | e | e | e | e)
        all_goals first
          | (have hz := hXl y hy; omega)
          | omega
          | (have hz := hXl y hy; have hq := hWpev y (Wo.has_ev e); omega)
          | (have hq := hWpev y (Wo.has_ev e); omega)
          | (have hq := hevlt y (Wo.has_ev e); omega)
          | (have hz := hXl y hy; have hq := (row_obj HA.out.row e).1; omega)
          | (have hq := (row_obj HA.out.row e).1; omega)
          | (have hq := HRw.out y e; omega)
      clear hcells hcE
    · have he' : (pre.length : Int) + 1 = mo := by simpa using he
      exact ⟨hKf, hKq, rfl, ⟨_, _, hAi⟩, by simpa using he', HNx.out⟩
    · have he' : ¬ (pre.length : Int) + 1 = mo := by simpa using he
      exact ⟨hKf, hKq, ⟨_, _, hAi⟩, by have h1 := HLn.out; simp; omega⟩
  case done =>
    rintro s W ⟨⟨gv, k', hA⟩, h2⟩
    have e : L.take mo.toNat = L := List.take_of_length_le (by omega)
    rw [← HMM.out, e]
    exact ⟨s, gv, k', hA⟩
  case stop =>
    rintro s pre W ⟨⟨gv, k', hA⟩, h2, h3⟩
    have e : L.take mo.toNat = pre := by rw [← h2]; exact (List.prefix_iff_eq_take.1 h3).symm
    rw [← HMM.out, e]
    exact ⟨s, gv, k', hA⟩
  case fin =>
    rintro W ⟨s, gv, k', hA⟩ hD
    obtain ⟨ga, gc, rfl, -⟩ := row_slice hA.row
    have c5 := hA.b5.cell
    have c13 := hA.b13.cell
    have HA : Hid (Ai w w.heap.size w6 B g k wk un mo s M W (.slice ga M.length gc) k') := hA
    have HDf : Hid (W.heap[w6.heap.size]? = some (.deferred (some []))) := hD
    by_cases hM : M.length = 0
    · obtain rfl : M = [] := List.eq_nil_of_length_eq_zero hM
      have hkl : k'.el.length = k.el.length := by
        have := congrArg List.length hA.el
        simpa using this
      have CE := Emt_24 (r := ⟨0, 24, 0, 0, 0, 0, 0, 0, 0, [], [], [], .slice none 0 0, []⟩) hA.wr.wk (Nat.le_trans hA.bn (Nat.le_of_lt hA.b5.lt)) hA.sz (Rr.nil _) (Nat.zero_le _) (hel_mono HK.out.2.2.2.1 (by clear hD; omega)) rfl
      simp only [Rc.cs, S_nil] at CE
      simp only [List.length_nil] at c13 ⊢
      clear hA hD hkl hM
      gi_wp2_with ((refine ⟨trivial, ?_⟩; gi_at_call 27; refine (callsIn_wide.2 CE).mono ?_; rintro e w8 ⟨rfl, hE⟩; obtain ⟨k'', hW8, hT8, hS8, hEl8, -⟩ := hE.len; (have hFin : Hid (Apo B w g k wk un [] (.slice ga 0 gc) k'' w8) := Ai.fin0 HK.out.2.2.2.2.2 HA.out hW8 hT8 hS8 hEl8); (have hD8 : w8.heap[w6.heap.size]? = some (.deferred (some [])) := hW8.ch.obj HDf.out (fun e => by (have h1 := HK.out.2.2.2.2.2; rcases e with e | e; omega; have h2 := HA.out.new _ (Wo.has_ev e); have h3 := HA.out.sn.1; omega))); (have d13 := (HA.out.b13.ch hW8.ch (fun e => by (have h1 := HK.out.2.2.2.2.2; rcases e with e | e; omega; have h2 := HA.out.new _ (Wo.has_ev e); have h3 := HA.out.sn.1; omega))).cell); (have HD8 : Hid _ := hD8); clear hW8 hT8 hS8 hEl8 hE CE hD8))
      refine ⟨by simp, .inl ⟨_, _, rfl, takes HD8.out, ?_⟩⟩
      exact ⟨_, results_tmp2 rfl _ _ _, _, _, rfl, (hFin.out.put HD8.out rfl (by omega) _).wr, (hFin.out.put HD8.out rfl (by omega) (.deferred none)).sz, (hFin.out.put HD8.out rfl (by omega) (.deferred none)).ac, (hFin.out.put HD8.out rfl (by omega) _).row, (hFin.out.put HD8.out rfl (by omega) (.deferred none)).off⟩
    · have hFin : Hid (Apo B w g k wk un M (.slice ga M.length gc) k' W) := hA.fin hM
      have hm0 : ((M.length : Int) == 0) = false := by rw [beq_eq_false_iff_ne]; omega
      clear hA hD
      gi_wp2
      refine ⟨by simp, .inl ⟨_, _, rfl, takes HDf.out, ?_⟩⟩
      exact ⟨_, results_tmp2 rfl _ _ _, _, _, rfl, (hFin.out.put HDf.out rfl (by omega) _).wr, (hFin.out.put HDf.out rfl (by omega) (.deferred none)).sz, (hFin.out.put HDf.out rfl (by omega) (.deferred none)).ac, (hFin.out.put HDf.out rfl (by omega) _).row, (hFin.out.put HDf.out rfl (by omega) (.deferred none)).off⟩
end Go.Proofs.YthmfcloecmnfnaaGreat.f13

/-
  For every input: each record that is there is read as it was appended, one by one and ranged over; no other one is there. (What the program's own variables hold at the start is as the program's text lays it.)
-/
import Derived.Test.YtlocnkheoahkbaaGreatDoorG6Card
import Derived.Test.YtlocnkheoahkbaaGreatDoorG6Rds
import Derived.Test.YtlocnkheoahkbaaGreatDoorGDisk
import Derived.Deep.RegionLaw
namespace Go.Proofs.YtlocnkheoahkbaaGreatDoor.seglogReads
open Go.RowKit Go.Shelf Go.Sort Go.Proofs.YtlocnkheoahkbaaGreatDoor
open Go.Lib hiding intOf
attribute [local go_sem] Oper.semAt_some

def rName : ByteArray := ⟨#[114]⟩
theorem rName_ok : isP rName = true := by decide +kernel
/-- an append whose run is known, at a step of a region that draws its order -/
theorem step_append_runG {w : World} {ops : Array Oper} {o : Oper} {a : Act} {K : Act → World → Prop} {Q : Exit → Act → World → Prop} {E : Prop} (hgd : o.guard = none) (s x : Operand) (t u : TypeId)
    (ho : o.op = .call { callee := .builtin .append, args := #[s, x], argTypes := #[t, u] }) (v y v' : Value) (w' : World) (hs : a.eval s = v) (hx : a.eval x = y)
    (hr : (Builtin.append_ #[t, u] o.type #[v, y]).run Tryz.prog w = .ok v' w') (h : K (a.put o.dst v') w') :
    if Region.wanted o (yielded ops a.tmps) = true then Oper.wp Tryz.prog o a w K Q else E := by
  have hw : Region.wanted o (yielded ops a.tmps) = true := by simp [Region.wanted, hgd]
  rw [if_pos hw]
  unfold Oper.wp execOp
  simp only [ho, resolve, invoke, builtin, Sem.run_bind, Sem.run_pure, Result.andThen_ok, List.map_toArray, List.map_cons, List.map_nil, hs, hx, hr]
  exact h
/-- a batch of the argument, there and later -/
structure Bat (w : World) (a : Option Addr) (i : Nat) (l : List (List UInt8)) (b o : Nat) (u : Value) : Prop where
  at' : a = some ⟨b, o, none⟩
  lt : b < w.heap.size
  cell : w.cell? ⟨b, o + i, none⟩ = some u
  strs : Strs w u l
  len : l.length ≤ 9223372036854775807

set_option maxRecDepth 100000 in
set_option maxHeartbeats 8000000 in
theorem walk (a : Option Addr) (c : Nat) (ls : List (List (List UInt8))) (k : Nat) (hk : k < 18446744073709551616) (w : World) (hv : Gv w.heap.size w) (hb : Bats w (.slice a ls.length c) ls) (hlen : ls.length ≤ 9223372036854775807) :
    Calls Tryz.prog 7 #[.slice a ls.length c, .int .u64 (k : Int)] w fun r w' => r = .returned (.bool true) ∧ Below w.heap.size w w' := by
  obtain ⟨W0, hW0⟩ : ∃ W0, W0 = (w.alloc (.cells #[.int .u64 (k : Int)] 36)).alloc (.cells #[.bool false] 4) := ⟨_, rfl⟩
  have hs0 : W0.heap.size = w.heap.size + 1 + 1 := by rw [hW0]; simp
  have hB0 : Below w.heap.size w W0 := by rw [hW0]; exact ((Below.refl _ w).alloc (Nat.le_refl _) _).alloc (by simp) _
  have bk : Bx W0 w.heap.size (.int .u64 (k : Int)) 36 := by rw [hW0]; exact (Bx.new w _ _).alloc _
  have br : Bx W0 (w.heap.size + 1) (.bool false) 4 := by
    rw [hW0]
    have := Bx.new (w.alloc (.cells #[.int .u64 (k : Int)] 36)) (.bool false) 4
    rwa [World.size_alloc] at this
  have hv0 : Gv W0.heap.size W0 := (hv.below hB0).up (by omega)
  have hS := shown6_any W0 hv0
  have HBK : Hid (∀ W, Below W0.heap.size W0 W → Bx W w.heap.size (.int .u64 (k : Int)) 36 ∧ Bx W (w.heap.size + 1) (.bool false) 4 ∧ Below w.heap.size w W) := fun W hb => ⟨bk.below hb bk.lt, br.below hb br.lt, hB0.trans (hb.mono hB0.size)⟩
  have HV : Hid (Gv W0.heap.size W0) := hv0
  have HBT : Hid (∀ i, i < ls.length → ∃ l b o u, Bat W0 a i l b o u) := fun i hl => by
    obtain ⟨a', c', e, hx⟩ := hb
    cases e
    obtain ⟨b, o, u, h1, h2, h3, h4, h5⟩ := hx i hl
    exact ⟨_, b, o, u, h1, by omega, (hB0.cell (p := ⟨b, o + i, none⟩) h2).trans h3, h4.below hB0 (Nat.le_refl _), h5⟩
  have hq := logEql
  have hsw := hB0.size
  clear hv hb bk br hv0 hB0
  refine (callsIn_wide (n := 9)).1 ?_
  refine callsIn_of_wp_marks Tryz.func7 rfl trivial ?_ rfl
  simp only [Tryz.ntmps7, List.size_toArray, List.length_cons, List.length_nil, Nat.reduceAdd, Nat.reduceSub, Array.replicate_succ, Array.replicate_zero, List.push_toArray, List.append_toArray, List.nil_append, List.cons_append]
  gi_wp2_with (first
    | (refine ⟨trivial, ?_⟩; gi_at_call 8; rw [← hW0]; refine (callsIn_wide.2 hS).mono ?_; rintro e w1 ⟨rfl, B1⟩; have HB : Hid (Below W0.heap.size W0 w1) := B1; have hN := sNew W0.heap.size w1 B1.size; clear B1 hS)
    | (refine ⟨trivial, ?_⟩; gi_at_call 9; refine (callsIn_wide.2 hN).mono ?_; rintro e w2 ⟨rfl, S2, B2⟩; have HB2 : Hid (Below W0.heap.size W0 w2) := HB.out.trans (B2.mono HB.out.size); have hO := Open0 S2 rName_ok (sz := 64) (by decide) (by decide); clear S2 B2 hN)
    | (refine ⟨trivial, ?_⟩; gi_at_call 11; refine (callsIn_wide.2 hO).mono ?_; rintro e w3 ⟨lb, rfl, L3, B3⟩; have HL3 : Hid (Ls (fun x => W0.heap.size ≤ x) w3 W0.heap.size lb w1.heap.size (lg0 rName 64) ([], -1, false) ∧ Below W0.heap.size W0 w3) := ⟨L3, HB2.out.trans (B3.mono HB2.out.size)⟩; clear B3 L3))
  have HR0 : Hid (Ra W0 (w3.alloc (.cells #[.slice none 0 0] 35)) w3.heap.size lb w1.heap.size (lg0 rName 64) ([], -1, false) [] (.slice none 0 0)) := by
    have hb : Below w3.heap.size w3 (w3.alloc (.cells #[.slice none 0 0] 35)) := (Below.refl _ w3).alloc (Nat.le_refl _) _
    exact ⟨Bx.new w3 _ _, World.ownsRow_nil _ _ _ _, (HL3.out.1.tight.below hb).mono (fun x hx => ⟨hx.1, by have := hx.2; omega, fun e => by cases e⟩), HL3.out.2.trans (hb.mono HL3.out.2.size), HL3.out.2.size⟩
  gi_loopw [10] (fun vi wr => ∃ i : Nat, vi = .int .i64 i ∧ i ≤ ls.length ∧ Hid (∃ lg st all v, Ra W0 wr w3.heap.size lb w1.heap.size lg st all v ∧ Pn lg all)) (fun vi _ => ls.length - (intOf vi).toNat)
  case atStart => exact ⟨0, rfl, Nat.zero_le _, ⟨_, _, _, _, HR0.out, lg0_pn _ _⟩⟩
  case round =>
    obtain ⟨i, rfl, hi, hj⟩ := hrel
    obtain ⟨lg, st, all, v, hR, hP⟩ := hj.out
    have hzn := hR.ls.ok.next.2
    have hal := hP.n
    by_cases hl : i < ls.length
    · have hli : (i : Int) < (ls.length : Int) := by omega
      have hi0 : (0 : Int) ≤ (i : Int) := Int.natCast_nonneg _
      obtain ⟨l, b, o, u, hB⟩ := HBT.out i hl
      obtain ⟨po, er, lg', st', e1, e2, cA⟩ := hR.append hP HV.out hB.strs hB.len
      have HBt : Hid (Bat W0 a i l b o u) := hB
      obtain ⟨ua, uc, rfl, -⟩ := hB.strs
      obtain rfl := hB.at'
      have HM : Hid (∀ W, Below W0.heap.size W0 W → W.cell? ⟨b, o + i, none⟩ = some (.slice ua l.length uc)) := fun W hb => (hb.cell (p := ⟨b, o + i, none⟩) HBt.out.lt).trans HBt.out.cell
      have m0 := HM.out wr hR.bw
      clear hB HR0 hj hR hP
      by_cases he : er = 0
      · subst he
        obtain ⟨p1, p2, p3⟩ := e1 rfl
        have HPn : Hid (Pn lg' (all ++ l)) := p1
        obtain ⟨b2, o2, rfl, HCB⟩ : ∃ b2 o2, ua = some ⟨b2, o2, none⟩ ∧ Hid (∀ W, Below W0.heap.size W0 W → ∀ j x, (strCs l)[j]? = some x → W.cell? ((⟨b2, o2, none⟩ : Addr).add j) = some x) := by
          obtain ⟨ua', uc', ee, hx⟩ := HBt.out.strs
          cases ee
          obtain ⟨b2, o2, rfl, hlt, hcc⟩ := hx.resolve_left p2
          refine ⟨b2, o2, rfl, fun W hb j x hj => ?_⟩
          rw [Addr.add_lit]
          obtain ⟨hjl, hje⟩ := List.getElem?_eq_some_iff.1 hj
          rw [strCs_length] at hjl
          refine ((hb.cell (p := ⟨b2, o2 + j, none⟩) hlt).trans (hcc j hjl)).trans ?_
          rw [← hje]
          simp [strCs, List.getD, List.getElem?_eq_getElem hjl]
        clear e1 e2 p1 p2
        gi_wp2_with (refine ⟨trivial, ?_⟩; gi_at_call 26; refine (callsIn_wide.2 cA).mono ?_; rintro e w6 ⟨rfl, R6⟩; have c9 := R6.bx.cell; have m6 := HM.out w6 R6.bw; have HG : Hid (∀ q, _) := (fun q => (R6.below (below_drewN (Below.refl _ w6) q)).gather (l := l) (ad := ⟨b2, o2, none⟩) (c := uc) (HCB.out _ (R6.below (below_drewN (Below.refl _ w6) q)).bw) p3); clear R6 cA)
        refine wpIn_wide.2 (Code.wp_mono NoPanic.imp ?_)
        go_region_law (obtain ⟨a7, c7, w7, r1, z1, z2, z3⟩ := HG.out 1; have Z3 : Hid _ := z3; clear z3; refine step_append_runG (by rfl) _ _ _ _ (by rfl) _ _ _ _ (by rfl) (by rfl) r1 ?_)
        all_goals refine NoPanic.normal ?_
        all_goals
          gi_wp2
          go_roundw
          case rel => exact ⟨i + 1, by simp, by omega, ⟨_, _, _, _, Z3.out, HPn.out⟩⟩
          case measure =>
            simp [intOf]
            omega
      · have hne : (er == 0) = false := by rw [beq_eq_false_iff_ne]; exact he
        have HPn : Hid (Pn lg' all) := e2 he
        clear e1 e2 he
        gi_wp2_with (refine ⟨trivial, ?_⟩; gi_at_call 26; refine (callsIn_wide.2 cA).mono ?_; rintro e w6 ⟨rfl, R6⟩; have HR6 : Hid _ := R6; clear R6 cA)
        go_roundw
        case rel => exact ⟨i + 1, by simp, by omega, ⟨_, _, _, _, HR6.out, HPn.out⟩⟩
        case measure =>
          simp [intOf]
          omega
    · have hli : ¬ (i : Int) < (ls.length : Int) := by omega
      clear HR0 hj
      obtain ⟨va, vc, rfl, -⟩ := row_slice hR.row
      have c9 := hR.bx.cell
      have HR : Hid (Ra W0 wr w3.heap.size lb w1.heap.size lg st all (.slice va all.length vc)) := hR
      have HP : Hid (Pn lg all) := hP
      obtain ⟨M, hM⟩ : ∃ M, all.length = M := ⟨_, rfl⟩
      have HM2 : Hid (all.length = M) := hM
      rw [hM] at hal c9 HR
      have hMb : M ≤ 1099511627777 := by omega
      clear hR hP hM hzn hal
      gi_wp2
      gi_loopw [13] (fun vi w4 => ∃ i : Nat, vi = .int .i64 i ∧ i ≤ M ∧ Hid (Ra W0 w4 w3.heap.size lb w1.heap.size lg st all (.slice va M vc))) (fun vi _ => M - (intOf vi).toNat)
      case atStart => exact ⟨0, rfl, Nat.zero_le _, HR⟩
      case round =>
        clear HR c9 hi hl hli
        obtain ⟨i, rfl, hi, HR⟩ := hrel
        have c9 := HR.out.bx.cell
        by_cases hl : i < M
        · have hli : (i : Int) < (M : Int) := by omega
          have hi0 : (0 : Int) ≤ (i : Int) := Int.natCast_nonneg _
          have hil : i < all.length := by rw [HM2.out]; exact hl
          have cR := gRead_any (pos := i + 1) HR.out.ls
          rw [read_at HP.out hil] at cR
          simp only [Int.natCast_add, Int.natCast_one] at cR
          have HC : Hid (∀ W, Ra W0 W w3.heap.size lb w1.heap.size lg st all (.slice va M vc) → ∃ g, va = some ⟨g, 0, none⟩ ∧ W.cell? ⟨g, i, none⟩ = some (.string (S all[i]))) := fun W h => by
            obtain ⟨g, c', e, hc⟩ := h.cell hil
            rw [HM2.out] at e
            cases e
            exact ⟨g, rfl, hc⟩
          obtain ⟨g, rfl, -⟩ := HC.out wr HR.out
          have HC2 : Hid (∀ W, Below wr.heap.size wr W → W.cell? ⟨g, i, none⟩ = some (.string (S all[i])) ∧ W.cell? ⟨w3.heap.size, 0, none⟩ = some (.slice (some ⟨g, 0, none⟩) M vc) ∧ Ra W0 W w3.heap.size lb w1.heap.size lg st all (.slice (some ⟨g, 0, none⟩) M vc)) := fun W hb => by
            have h := HR.out.below hb
            obtain ⟨g', e, hc⟩ := HC.out W h
            cases e
            exact ⟨hc, h.bx.cell, h⟩
          generalize all[i] = ai at *
          gi_wp2_with (refine ⟨trivial, ?_⟩; gi_at_call 31; refine (callsIn_wide.2 cR).mono ?_; rintro e w5 ⟨rfl, b5⟩; obtain ⟨y1, y2, y3⟩ := HC2.out w5 b5; have Y3 : Hid _ := y3; clear b5 y3 cR)
          go_roundw
          case rel => exact ⟨i + 1, by simp, by omega, Y3⟩
          case measure =>
            simp [intOf]
            omega
        · have hli : ¬ (i : Int) < (M : Int) := by omega
          have cR0 : Calls Tryz.prog 31 #[.pointer (some ⟨lb, 0, none⟩), .int .u64 0] wr fun e w' => e = .returned (.tuple #[.string ⟨#[]⟩, .int .i64 5]) ∧ Below wr.heap.size wr w' := by
            have := gRead_any (pos := 0) HR.out.ls
            rw [read_no HP.out (.inl rfl)] at this
            exact this
          have HR1 : Hid (∀ W, Ra W0 W w3.heap.size lb w1.heap.size lg st all (.slice va M vc) → Calls Tryz.prog 31 #[.pointer (some ⟨lb, 0, none⟩), .int .u64 ((M : Int) + 1)] W fun e w' => e = .returned (.tuple #[.string ⟨#[]⟩, .int .i64 5]) ∧ Below W.heap.size W w') := fun W h => by
            have := gRead_any (pos := M + 1) h.ls
            rw [read_no HP.out (.inr (by rw [HM2.out]; omega))] at this
            simp only [Int.natCast_add, Int.natCast_one] at this
            exact this
          have HFR : Hid (∀ W, Ra W0 W w3.heap.size lb w1.heap.size lg st all (.slice va M vc) → ∃ vs sl, (∀ x, lfoot lb sl vs x → x < W.heap.size ∧ W0.heap.size ≤ x) ∧ ∀ W', Below W.heap.size W W' → Calls Tryz.prog 28 #[.pointer (some ⟨lb, 0, none⟩), .int .u64 (k : Int)] W' fun e w' => ∃ f, e = .returned f ∧ SqR (fun x => #[encE1 x, encE2 x]) w' f (gFrom lg k) (Xf W'.heap.size (W'.heap.size + 1) lb sl vs) ∧ Below W'.heap.size W' w' ∧ w'.heap.size = W'.heap.size + 2) := fun W h => by
            obtain ⟨es, mo, vs, sl, -, -, Lw, ok, -, f2⟩ := h.ls.tight
            exact ⟨vs, sl, fun x hx => ⟨(f2 x hx).2, (f2 x hx).1.1⟩, fun W' hb => From_any ((⟨Lw, ok⟩ : Lq W W0.heap.size lb w1.heap.size lg vs sl).below hb)⟩
          clear hi hl
          gi_wp2_with (first
            | (refine ⟨trivial, ?_⟩; gi_at_call 31; refine (callsIn_wide.2 cR0).mono ?_; rintro e w5 ⟨rfl, b5⟩; (have R5 : Hid (Ra W0 w5 w3.heap.size lb w1.heap.size lg st all (.slice va M vc)) := HR.out.below b5); have c95 := R5.out.bx.cell; have cR1 := HR1.out w5 R5.out; clear cR0 b5)
            | (refine ⟨trivial, ?_⟩; gi_at_call 31; refine (callsIn_wide.2 cR1).mono ?_; rintro e w6 ⟨rfl, b6⟩; (have R6 : Hid (Ra W0 w6 w3.heap.size lb w1.heap.size lg st all (.slice va M vc)) := R5.out.below b6); obtain ⟨vs, sl, f2, cF0⟩ := HFR.out w6 R6.out; obtain ⟨W8, hW8⟩ : ∃ W8, W8 = w6.alloc (.cells #[.int .i64 0] 3) := ⟨_, rfl⟩; have hB8 : Below w6.heap.size w6 W8 := (by rw [hW8]; exact (Below.refl _ w6).alloc (Nat.le_refl _) _); have cF := cF0 W8 hB8; have k6 := (HBK.out w6 R6.out.bw).1.cell; have k8 := (HBK.out W8 (R6.out.below hB8).bw).1.cell; rw [hW8] at k8; clear cF0 cR1 b6)
            | (refine ⟨trivial, ?_⟩; gi_at_call 28; rw [← hW8]; refine (callsIn_wide.2 cF).mono ?_; rintro e w10 ⟨f, rfl, hS10, hB10, hz10⟩))
          have hs8 : W8.heap.size = w6.heap.size + 1 := by rw [hW8]; simp
          have b8 : Bx W8 w6.heap.size (.int .i64 0) 3 := by rw [hW8]; exact Bx.new w6 _ _
          have b10 := b8.below hB10 b8.lt
          have hn10 : w6.heap.size < w10.heap.size := by have := hB10.size; omega
          have HXX : Hid (∀ y, Xf W8.heap.size (W8.heap.size + 1) lb sl vs y → y ≠ w6.heap.size) := by
            rintro y (rfl | rfl | hy)
            · omega
            · omega
            · have := (f2 y hy).1; omega
          have hB610 : Below w6.heap.size w6 w10 := bel_of hB8 hB10 (Nat.le_refl _)
          have hN6 := R6.out.bx.lt
          have hw6 := R6.out.bw.size
          have HW : Hid (∀ W, Ch (fun y => y = w6.heap.size ∨ w10.heap.size ≤ y) w10 W → Bx W w.heap.size (.int .u64 (k : Int)) 36 ∧ Bx W (w.heap.size + 1) (.bool false) 4 ∧ Below w.heap.size w W ∧ Bx W w3.heap.size (.slice va M vc) 35 ∧ ∀ i (h : i < all.length), ∃ g, va = some ⟨g, 0, none⟩ ∧ W.cell? ⟨g, i, none⟩ = some (.string (S all[i]))) := fun W hc => by
            have R10 := R6.out.below hB610
            obtain ⟨y1, y2, y3⟩ := HBK.out w10 R10.bw
            refine ⟨y1.ch hc (fun e => by omega), y2.ch hc (fun e => by omega), y3.trans (hc.below y3.size (fun y hy e => by omega)), R10.bx.ch hc (fun e => by omega), fun i h => ?_⟩
            have r := hc.row R10.row (fun y hy e => by have := (R6.out.far hy).1; omega)
            obtain ⟨g, c', e, hcl⟩ := row_str r h
            cases e
            exact ⟨g, rfl, hcl⟩
          have HLN : Hid ((gFrom lg k).length = M - (k - 1)) := by show _ = _; rw [from_count HP.out, HM2.out]
          have hw10 : w.heap.size ≤ w10.heap.size := by omega
          clear hB8 hB10 hB610 hW8 b8 f2 cF hs8 hz10 k6 k8 R5 R6 HR HR1 HFR c9 c95
          refine range_sqR2 (s1 := 21) (s2 := 22) (e1 := encE1) (e2 := encE2) rfl hS10 (fun R pre W => Ct w10 w6.heap.size R pre.length W) ?hI ?start ?assign ?body ?done
          case hI => exact fun R R' pre W W' h hs hr => h.sr hn10 hs hr
          case start => exact fun W0 hB h0 => ⟨b10.below hB b10.lt, fun y hy => by omega, Ch.of_below hB⟩
          case assign =>
            intro mm l' x W K hK
            gi_wp2
            exact hK
          case body =>
            rintro mm l' R pre x W hC hnx
            obtain ⟨hx, hpl⟩ := get_pre hnx
            obtain ⟨g1, g2, g3, g4⟩ := from_get HP.out hx
            obtain ⟨p, r⟩ := x
            simp only at g1 g2 g3 g4
            obtain ⟨j, rfl⟩ : ∃ j, p = j + 1 := ⟨p - 1, by omega⟩
            rw [Nat.add_sub_cancel] at g4
            obtain ⟨hjl, hje⟩ := List.getElem?_eq_some_iff.1 g4
            obtain ⟨y1, y2, y3, y4, y5⟩ := HW.out W hC.ch
            obtain ⟨g, rfl, hcl⟩ := y5 j hjl
            rw [hje] at hcl
            have ck := y1.cell
            have cN := y4.cell
            have cn := hC.bx.cell
            have fn := hC.bx.fro
            rw [HM2.out] at g3
            have hM1 : pre.length ≤ M := by rw [HLN.out] at hpl; omega
            have HST : Hid _ := hC.step hn10 HXX.out (.int .i64 ((pre.length : Int) + 1)) (by simp)
            have e1 : ¬ (j : Int) + 1 < (k : Int) := by omega
            have e2 : ¬ (j : Int) + 1 < 1 := by omega
            have e3 : ¬ (M : Int) < (j : Int) + 1 := by omega
            have e4 : (0 : Int) ≤ (j : Int) := by omega
            have e5 : (j : Int) < (M : Int) := by omega
            have e6 : j < M := by omega
            clear hC hx hnx hpl g1 g2 g4 y1 y2 y3 y4 y5 hje
            simp only [List.setIfInBounds_toArray, List.set_cons_succ, List.set_cons_zero]
            gi_wp2
            obtain ⟨z1, z2, z3⟩ := HST.out
            exact ⟨z1, z2, by show Ct _ _ _ (pre ++ [(j + 1, r)]).length _; rw [List.length_append]; exact z3⟩
          case done =>
            rintro R W hC hD
            obtain ⟨y1, y2, y3, y4, -⟩ := HW.out W hC.ch
            have hzW := hC.ch.size
            have ck := y1.cell
            have cr := y2.cell
            have fr := y2.fro
            have cN := y4.cell
            have cn := hC.bx.cell
            rw [HLN.out] at cn
            have hlt := (Array.getElem?_eq_some_iff.1 hD).1
            have HE : Hid (∀ y : Value, (W.setCell ⟨w.heap.size + 1, 0, none⟩ y).heap[w10.heap.size]? = some (.deferred (some [])) ∧ Bx ((W.setCell ⟨w.heap.size + 1, 0, none⟩ y).putObj w10.heap.size (.deferred none)) (w.heap.size + 1) y 4 ∧ Below w.heap.size w ((W.setCell ⟨w.heap.size + 1, 0, none⟩ y).putObj w10.heap.size (.deferred none))) := fun y => by
              have c : Ch (fun q => q = w.heap.size + 1) W (W.setCell ⟨w.heap.size + 1, 0, none⟩ y) := (Ch.refl _ W).setCell _ _ (fun _ => rfl)
              exact ⟨c.obj hD (fun e => by omega), (World.putObj_heap_other (by omega)).trans (one0 y2 y), below_take (y3.setCell (by simp) _) (Nat.le_refl _) (by omega) _⟩
            clear hC y1 y2 y3 y4 hD HW HXX HP HLN b10
            obtain ⟨ct, hct⟩ : ∃ ct, M - (k - 1) = ct := ⟨_, rfl⟩
            rw [hct] at cn
            have hcs : (¬ (1 : Int) < (k : Int) ∧ ct = M) ∨ ((1 : Int) < (k : Int) ∧ (k : Int) ≤ (M : Int) ∧ k ≤ M ∧ (M : Int) - (k : Int) + 1 = (ct : Int)) ∨ ((1 : Int) < (k : Int) ∧ ¬ (k : Int) ≤ (M : Int) ∧ ct = 0) := by omega
            clear hct
            rcases hcs with ⟨h1, rfl⟩ | ⟨h1, h2, h3, h4⟩ | ⟨h1, h2, rfl⟩
            all_goals
              gi_wp2
              obtain ⟨x1, x2, x3⟩ := HE.out (.bool true)
              have c10 := x2.cell
              refine ⟨by simp, .inl ⟨_, _, rfl, takes x1, ?_⟩⟩
              refine ⟨.bool true, ?res, rfl, x3⟩
              case res => simp [results, Tryz.results7, go_sem, c10]

open Go.ChangeShapes Go.WideShapes Go.ChangeAt Go.WideMaps Go.WideElems in
set_option maxRecDepth 100000 in
theorem lifted (os : Os) (started : os.Started) (H : Type) (enc : TypeId × Value → H) :
    ReturnsInHanded {} Tryz.checked os 7 .any (fun w args => (Rows.seglogReadsSpec.pre enc Tryz.prog Tryz.f7 [] false w args ∧ laidMetH Tryz.prog laid5 w) ∧ sizedMet enc Tryz.prog Tryz.f7 (OpenSpec.ofChange Rows.seglogReadsSpec) false w args)
      (Rows.seglogReadsSpec.post enc Tryz.prog Tryz.f7 false true false false) := by
  refine returnsInHanded_of_change_and (C := Tryz.checked) (X := fun w _ => laidMetH Tryz.prog laid5 w) (fun _ _ _ hh h => h.of_heap hh) own6 started (by kernel_rfl) Tryz.func7
    (ChangeSpec.witness_shaped (enc := enc) (C := Tryz.checked) (os := os) (X := fun w _ => laidMetH Tryz.prog laid5 w) false (World.doorLaid Tryz.prog 400 os) #[.slice none 0 0, .int .u64 0] 8 rfl (World.shaped_of_RefB (by kernel_rfl) (by kernel_rfl)) (by kernel_rfl) (by kernel_rfl) (by kernel_rfl) (door_met os _)) ?_
  intro W base args ds gs before hval0 hW _ _ hL _
  have hval : ∀ (j : Nat) t v, Tryz.f7.params[j]? = some t → args[j]? = some v → Value.okWide Tryz.prog W .any base t v := hval0
  have hW' := hW
  obtain ⟨p, q, hA0, hV, rfl, hfz, hnd⟩ := hW
  have hA : DataW.TrodAll enc Tryz.prog W 0 (fun _ => true) true Tryz.f7.params.toList args.toList ds p := hA0
  rw [Tryz.params7] at hA hval
  obtain ⟨v0, vs0, d0, ds0, p0, q0, hargs, rfl, rfl, h0, r0⟩ := trodAll_cons hA
  obtain ⟨v1, vs1, d1, ds1, p1, q1, rfl, rfl, rfl, h1, r1⟩ := trodAll_cons r0
  obtain ⟨rfl, rfl, rfl⟩ := trodAll_nil r1
  obtain rfl : args = #[v0, v1] := by cases args; simp_all
  obtain ⟨rfl, rfl⟩ := trodVars_none hV
  have k0 := h0
  have lt0 : ∀ x ∈ p0, x.block < W.heap.size := by obtain ⟨m, hm⟩ := k0; exact DataW.trod_lt m _ _ _ hm
  obtain ⟨fuel, hf⟩ := h0
  obtain ⟨a0, len0, cap0, rfl⟩ := okWide_slice Tryz.underlying58 (hval 0 58 v0 rfl rfl)
  obtain ⟨ls, hb, hlen⟩ := openBats (x := (d0, p0)) hf
  have hbb := hb
  obtain ⟨a', c', e', -⟩ := hb
  cases e'
  obtain ⟨a2, rfl, rfl, rfl, w2⟩ := open_int Tryz.underlying36 (hval 1 36 v1 rfl rfl) h1
  clear hA0 hval0
  obtain ⟨k, rfl⟩ : ∃ k : Nat, a2 = (k : Int) := ⟨a2.toNat, by have := bounds_u64 w2; omega⟩
  have hk64 : k < 18446744073709551616 := by have := bounds_u64 w2; omega
  refine (walk a0 cap0 ls k hk64 W (gv_of hL) hbb hlen).mono fun e W' ⟨he, bel⟩ => ?_
  subst he
  exact ⟨_, rfl, _, _, _, [], _, [], hW', trodAll_mk1 (shut_bool Tryz.underlying4 _), (trodAll_cons_mk (Below.trod laidOut6 (by kernel_rfl) (of_decide_eq_true (by kernel_rfl)) k0 bel lt0) (trodAll_cons_mk (shut_int Tryz.underlying36 w2) trodAll_mk0)), rfl, bel.frame _, fun h => by cases h⟩
theorem said : Rows.SeglogReadsSaid :=
  OpenClaim.holds_of_wide 7 Tryz.f7 rfl rfl rfl rfl rfl rfl rfl ⟨rfl, rfl, rfl, rfl, rfl⟩ rfl rfl rfl rfl rfl (by kernel_rfl) Tryz.func7 (by kernel_rfl)
    (of_decide_eq_true (by kernel_rfl)) (by unfold Func.isWrapper; first | (rw [if_pos (by decide +kernel)]; kernel_rfl) | (rw [if_neg (by decide +kernel)]; exact ⟨rfl, rfl⟩))
    (fun os started H enc _ => lifted os started H enc)
theorem proved : Rows.SeglogReadsCardSaid :=
  Claim7.holds_tied_plain_at .later [] [.data, .data, .data, .sentinel, .sentinel] true (true, "e5f48cf818838eb1a04915034e31cf977e59c38cd69832c65d006d2f737c3ddd") true
    said (fun _ h => by cases h) (by kernel_rfl) (fun _ h => by cases h) seglogReads_row_tie rfl ⟨rfl, rfl⟩ (by kernel_rfl) rfl
    (fun f fn hf hfn => by
      obtain rfl : f = 7 := Option.some.inj ((show Tryz.prog.funcNamed "wherry/wherrylaw06.SeglogReads" = some 7 by kernel_rfl).symm.trans hf) |>.symm
      obtain rfl : fn = Tryz.f7 := (Option.some.inj (Tryz.func7.symm.trans hfn)).symm
      exact ⟨by kernel_rfl, fun j t ht => by
        rw [Tryz.params7] at ht
        have hm : t ∈ [58, 36] := by simpa using Array.mem_of_getElem? ht
        have hall : ([58, 36].all fun u => !Tryz.prog.wantsStandIn u) = true := by kernel_rfl
        exact (show Tryz.prog.wantsStandIn t = false by simpa using List.all_eq_true.1 hall t hm)⟩)
    (by kernel_rfl)
end Go.Proofs.YtlocnkheoahkbaaGreatDoor.seglogReads

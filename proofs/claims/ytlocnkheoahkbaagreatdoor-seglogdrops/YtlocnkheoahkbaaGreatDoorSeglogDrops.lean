/-
  For every input: whatever is dropped, no record from that position on is lost, nor is the last segment. (What the program's own variables hold at the start is as the program's text lays it.)
-/
import Derived.Test.YtlocnkheoahkbaaGreatDoorG6Num
import Derived.Test.YtlocnkheoahkbaaGreatDoorG6Card
import Derived.Test.YtlocnkheoahkbaaGreatDoorG6Col
import Derived.Test.YtlocnkheoahkbaaGreatDoorG6Pn
import Derived.Test.YtlocnkheoahkbaaGreatDoorSame
namespace Go.Proofs.YtlocnkheoahkbaaGreatDoor.seglogDrops
open Go.RowKit Go.Shelf Go.Sort Go.Proofs.YtlocnkheoahkbaaGreatDoor
open Go.Lib hiding intOf
attribute [local go_sem] Oper.semAt_some

def xName : ByteArray := ⟨#[120]⟩
theorem xName_ok : isP xName = true := by decide +kernel
/-- what stands in the loop -/
def JD (w : World) (d lb : Nat) (wr : World) : Prop := ∃ lg st all, Ls (fun x => w.heap.size ≤ x) wr w.heap.size lb d lg st ∧ Pn lg all ∧ Hv lg.pre lg.segs st ∧ Below w.heap.size w wr
theorem JD.append {w wr : World} {d lb : Nat} {u : Value} {l : List (List UInt8)} (h : JD w d lb wr) (hv : Gv w.heap.size w) (hs : Strs w u l) (hl : l.length ≤ 9223372036854775807) :
    ∃ (po : Nat) (er : Int), Calls Tryz.prog 26 #[.pointer (some ⟨lb, 0, none⟩), u] wr (fun e w' => e = .returned (.tuple #[.int .u64 (po : Int), .int .i64 er]) ∧ JD w d lb w') := by
  obtain ⟨lg, st, all, h, hp, hh, hb⟩ := h
  have hA := gAppend_b h (hv.below hb) (hs.below hb (Nat.le_refl _)) (fun h0 b o m c e => by
    obtain ⟨a, c', rfl, h1⟩ := hs
    rcases h1 with h1 | ⟨b', o', rfl, hb', _⟩
    · exact absurd h1 h0
    · cases e
      exact hb') hl
  exact ⟨_, _, hA.mono fun _ _ x => ⟨x.1, _, _, _, x.2.2, hp.append st l, gAppend_hv hh, hb.trans x.2.1⟩⟩
/-- a batch of the argument, there and later -/
structure Bat (w : World) (a : Option Addr) (i : Nat) (l : List (List UInt8)) (b o : Nat) (u : Value) : Prop where
  at' : a = some ⟨b, o, none⟩
  lt : b < w.heap.size
  cell : w.cell? ⟨b, o + i, none⟩ = some u
  strs : Strs w u l
  len : l.length ≤ 9223372036854775807

set_option maxRecDepth 100000 in
set_option maxHeartbeats 8000000 in
theorem walk (a : Option Addr) (c : Nat) (ls : List (List (List UInt8))) (k : Nat) (w : World) (hv : Gv w.heap.size w) (hb : Bats w (.slice a ls.length c) ls) (hlen : ls.length ≤ 9223372036854775807) :
    Calls Tryz.prog 6 #[.slice a ls.length c, .int .u64 (k : Int)] w fun r w' => r = .returned (.bool true) ∧ Below w.heap.size w w' := by
  have hS := shown6_any w hv
  have HV : Hid (Gv w.heap.size w ∧ Bats w (.slice a ls.length c) ls) := ⟨hv, hb⟩
  have hq := logEql
  clear hv hb
  refine (callsIn_wide (n := 9)).1 ?_
  refine callsIn_of_wp_marks Tryz.func6 rfl trivial ?_ rfl
  simp only [Tryz.ntmps6, List.size_toArray, List.length_cons, List.length_nil, Nat.reduceAdd, Nat.reduceSub, Array.replicate_succ, Array.replicate_zero, List.push_toArray, List.append_toArray, List.nil_append, List.cons_append]
  gi_wp2_with (first
    | (refine ⟨trivial, ?_⟩; gi_at_call 8; refine (callsIn_wide.2 hS).mono ?_; rintro e w1 ⟨rfl, B1⟩; have HB : Hid (Below w.heap.size w w1) := B1; have hN := sNew w.heap.size w1 B1.size; clear B1 hS)
    | (refine ⟨trivial, ?_⟩; gi_at_call 9; refine (callsIn_wide.2 hN).mono ?_; rintro e w2 ⟨rfl, S2, B2⟩; have HB2 : Hid (Below w.heap.size w w2) := HB.out.trans (B2.mono HB.out.size); have hO := Open0 S2 xName_ok (sz := 64) (by decide) (by decide); clear S2 B2 hN)
    | (refine ⟨trivial, ?_⟩; gi_at_call 11; refine (callsIn_wide.2 hO).mono ?_; rintro e w3 ⟨lb, rfl, L3, B3⟩; have HJ0 : Hid (JD w w1.heap.size lb w3) := ⟨_, _, _, L3, lg0_pn _ _, lg0_hv _ _, HB2.out.trans (B3.mono HB2.out.size)⟩; clear B3 L3))
  gi_loopw [9] (fun vi wr => ∃ i : Nat, vi = .int .i64 i ∧ i ≤ ls.length ∧ Hid (JD w w1.heap.size lb wr)) (fun vi _ => ls.length - (intOf vi).toNat)
  case atStart => exact ⟨0, rfl, Nat.zero_le _, HJ0⟩
  case round =>
    obtain ⟨i, rfl, hi, hj⟩ := hrel
    by_cases hl : i < ls.length
    · have hli : (i : Int) < (ls.length : Int) := by omega
      have hi0 : (0 : Int) ≤ (i : Int) := Int.natCast_nonneg _
      obtain ⟨l, b, o, u, hB⟩ : ∃ l b o u, Bat w a i l b o u := by
        obtain ⟨a', c', e, hx⟩ := HV.out.2
        cases e
        obtain ⟨b, o, u, h1, h2, h3, h4, h5⟩ := hx i hl
        exact ⟨_, b, o, u, h1, h2, h3, h4, h5⟩
      obtain ⟨po, er, cA⟩ := hj.out.append HV.out.1 hB.strs hB.len
      obtain ⟨ua, uc, rfl, -⟩ := hB.strs
      obtain rfl := hB.at'
      have m0 := ((show Below w.heap.size w wr by obtain ⟨_, _, _, _, _, _, h⟩ := hj.out; exact h).cell (p := ⟨b, o + i, none⟩) hB.lt).trans hB.cell
      clear hB HJ0 hj
      gi_wp2_with (refine ⟨trivial, ?_⟩; gi_at_call 26; refine (callsIn_wide.2 cA).mono ?_; rintro e w6 ⟨rfl, J6⟩; have HJ6 : Hid _ := J6; clear J6 cA)
      go_roundw
      case rel => exact ⟨i + 1, by simp, by omega, HJ6⟩
      case measure =>
        simp [intOf]
        omega
    · have hli : ¬ (i : Int) < (ls.length : Int) := by omega
      clear HJ0
      obtain ⟨lg, st, all, hLs, hP, hH, hB⟩ := hj.out
      have ok := hLs.ok
      have hnx := ok.next
      have HL : Hid (Ls (fun x => w.heap.size ≤ x ∧ x < wr.heap.size) wr w.heap.size lb w1.heap.size lg st) := hLs.tight
      have HFD : Hid (gFrom (gDrop lg st k).2.1 k = gFrom lg k) := gDrop_from ok st k
      have HE0 : Hid ((gDrop lg st k).1 = 0) := (gDrop_hv ok hH k).1
      have hfl := gFrom_len hP k
      obtain ⟨hF1, hF2⟩ := hP.drop ok st k
      have HBw : Hid (Below w.heap.size w wr) := hB
      have cNx := gNext_any hLs
      obtain ⟨W6, hW6⟩ : ∃ W6, W6 = wr.alloc (.cells #[.slice none 0 0] 35) := ⟨_, rfl⟩
      have b6 : Bx W6 wr.heap.size (.slice none 0 0) 35 := by rw [hW6]; exact Bx.new wr _ _
      have hB6 : Below wr.heap.size wr W6 := by rw [hW6]; exact (Below.refl _ wr).alloc (Nat.le_refl _) _
      have hs6 : W6.heap.size = wr.heap.size + 1 := by rw [hW6]; simp
      have HL6 : Hid (Ls (fun x => w.heap.size ≤ x ∧ x < wr.heap.size) W6 w.heap.size lb w1.heap.size lg st) := HL.out.below hB6
      obtain ⟨es, mo, vs, sl, -, -, Lw6, ok6, -, f2⟩ := HL6.out
      have cF := From_any (pos := k) (⟨Lw6, ok6⟩ : Lq W6 w.heap.size lb w1.heap.size lg vs sl)
      have hNw := HBw.out.size
      clear hj hLs hH hB Lw6 ok6
      gi_wp2_with (first
        | (refine ⟨trivial, ?_⟩; gi_at_call 19; refine (callsIn_wide.2 cNx).mono ?_; rintro e w5 ⟨rfl, hw5⟩; subst hw5)
        | (refine ⟨trivial, ?_⟩; gi_at_call 28; rw [← hW6]; refine (callsIn_wide.2 cF).mono ?_; rintro e w7 ⟨f, rfl, hS7, hB7, hz7⟩))
      have b7 := b6.below hB7 b6.lt
      have hN7 : w5.heap.size < w7.heap.size := by have := hB7.size; omega
      have HB67 : Hid (Below W6.heap.size W6 w7) := hB7
      have HB56 : Hid (Below w5.heap.size w5 W6) := hB6
      have HXX : Hid (∀ y, Xf W6.heap.size (W6.heap.size + 1) lb sl vs y → y < w7.heap.size ∧ y ≠ w5.heap.size) := by
        rintro y (rfl | rfl | hy)
        · omega
        · omega
        · have := f2 y hy; omega
      clear b6 hB6 hB7 f2 hW6 hz7 hs6
      refine range_sqR1 (r := 13) (e1 := encE1) (e2 := encE2) rfl hS7 (fun R pre W => Gc w7 w5.heap.size R (pre.map Prod.snd) W) ?hI ?start ?assign ?body ?done
      case hI => exact fun R R' pre W W' h hs hr => h.sr hN7 hs hr
      case start => exact fun W0 hB h0 => Gc.start b7 hB
      case assign =>
        intro mm l' x W K hK
        gi_wp2
        exact hK
      case body =>
        rintro mm l' R pre x W ⟨⟨v, q1, q2, q3⟩, q4, q5⟩ hnx
        obtain ⟨i0, hi0, hz0, hz1, hz2⟩ := info_parts infoStr
        have hple : pre.length + 1 ≤ (gFrom lg k).length := by have := hnx.length_le; simpa using this
        rw [List.length_map] at q2
        obtain ⟨ka, kc, rfl, -⟩ := row_slice q2
        have c1 := q1.cell
        have T0 : Hid (W.ownsRow w7.heap.size 9 1 (.slice ka pre.length kc) pre.length (strCs (pre.map Prod.snd))) := q2
        have hzW : w7.heap.size ≤ W.heap.size := q5.size
        have HST : Hid (∀ (o : Obj) (w1 : World) (v1 : Value), w1.ownsRow w7.heap.size 9 1 v1 (pre.length + 1) (strCs (pre.map Prod.snd) ++ [.string (S x.2)]) → (W.alloc o).grownBy w1 (Value.slice ka pre.length kc).ownBlock → (v1.ownBlock = (Value.slice ka pre.length kc).ownBlock ∨ v1.ownBlock = some (W.alloc o).heap.size) → _) := fun o w1 v1 y1 y2 y3 => Gc.step (X := Xf W6.heap.size (W6.heap.size + 1) lb sl vs) q1 (by rw [List.length_map]; exact q2) q3 q4 q5 hN7 (by rw [List.length_map]; exact y1) y2 y3 HXX.out
        have bnd : pre.length + 1 ≤ maxLen ∧ (pre.length + 1) * 16 ≤ 140737488355328 := by unfold maxLen; omega
        clear q1 q2 q3 q4 q5 hnx
        simp only [List.setIfInBounds_toArray, List.set_cons_succ, List.set_cons_zero]
        gi_wp2_with (gi_at_builtin; refine wpListIn_append_own_at _ rfl _ _ 35 rfl w7.heap.size 9 i0 (.string ⟨#[]⟩) 1 16 Tryz.underlying35 hi0 hz0 hz1 hz2 rfl (by decide) _ pre.length _ rfl (T0.out.alloc _) ⟨W.heap.size, 0, none⟩ 1 1 [.string (S x.2)] rfl rfl (cell_one_new _ _ _) (by simp [Value.oneCell']) bnd.1 bnd.2 (by simp; omega) ?_; intro v1 w1 hown1 hgrow1 _ hat1; obtain ⟨g1, k1, rfl, -⟩ := row_slice hown1; obtain ⟨z1, z2, z3⟩ := HST.out _ w1 _ hown1 hgrow1 hat1; have Z3 : Hid _ := z3; clear z3 hown1 hgrow1 hat1)
        obtain ⟨z3, z4, z5⟩ := Z3.out
        exact ⟨z3, z4, by show Gc _ _ _ (List.map Prod.snd (pre ++ [x])) _; rw [List.map_append]; exact z5⟩
      case done =>
        rintro R W ⟨⟨v, q1, q2, q3⟩, q4, q5⟩ hD
        have hzW := q5.size
        have LW : Ls (fun x => w.heap.size ≤ x ∧ x < w5.heap.size) W w.heap.size lb w1.heap.size lg st := (HL6.out.below HB67.out).ch q5 (fun x hx e => by omega)
        have BW : Below w.heap.size w W := (bel_of (bel_of HBw.out HB56.out (Nat.le_refl _)) HB67.out (Nat.le_refl _)).trans (q5.below (by omega) (fun y hy e => by omega))
        have cD := gDrop_any (below := k) LW
        rw [HE0.out] at cD
        rw [List.length_map] at q2
        obtain ⟨ka, kc, rfl, -⟩ := row_slice q2
        obtain ⟨rs, HRS⟩ : ∃ rs, Hid ((gFrom lg k).map Prod.snd = rs) := ⟨_, show _ = _ from rfl⟩
        have hrl : rs.length = (gFrom lg k).length := by rw [← HRS.out, List.length_map]
        rw [HRS.out, ← hrl] at q2
        rw [← hrl] at q1
        obtain ⟨lg2, HG2⟩ : ∃ lg2, Hid ((gDrop lg st k).2.1 = lg2) := ⟨_, show _ = _ from rfl⟩
        have hn2 : lg2.next = lg.next := by rw [← HG2.out]; rfl
        rw [HG2.out] at cD hF1 hF2 HFD
        have HW8 : Hid (∀ w8, Lft (fun x => w.heap.size ≤ x ∧ x < w5.heap.size) W w.heap.size lb w1.heap.size lg2 (gDrop lg st k).2.2 w8 → Bx w8 w5.heap.size (.slice ka rs.length kc) 35 ∧ w8.ownsRow w7.heap.size 9 1 (.slice ka rs.length kc) rs.length (strCs rs) ∧ w8.heap[w7.heap.size]? = some (.deferred (some [])) ∧ Ls (fun x => x < w8.heap.size) w8 w.heap.size lb w1.heap.size lg2 (gDrop lg st k).2.2 ∧ Below w.heap.size w w8 ∧ W.heap.size ≤ w8.heap.size) := by
          rintro w8 ⟨L8, c8⟩
          exact ⟨q1.ch c8 (fun e => by omega), c8.row q2 (fun y hy e => by have := (row_obj q2 hy).1; omega), c8.obj hD (fun e => by omega), L8.tight.mono (fun x hx => hx.2), BW.trans (c8.below (by omega) (fun y hy e => by omega)), c8.size⟩
        clear q1 q2 q3 q4 q5 hD LW BW HL6 HL cF hS7 b7 HXX
        gi_wp2_with (first
          | (refine ⟨trivial, ?_⟩; gi_at_call 29; refine (callsIn_wide.2 cD).mono ?_; rintro e w8 ⟨rfl, L8⟩; have H8 : Hid _ := HW8.out w8 L8; clear L8 cD HW8; obtain ⟨W9, hW9⟩ : ∃ W9, W9 = w8.alloc (.cells #[.slice none 0 0] 35) := ⟨_, rfl⟩; have hB9 : Below w8.heap.size w8 W9 := (by rw [hW9]; exact (Below.refl _ w8).alloc (Nat.le_refl _) _); have HL9 : Hid _ := H8.out.2.2.2.1.below hB9; obtain ⟨es2, mo2, vs2, sl2, -, -, Lw9, ok9, -, f29⟩ := HL9.out; have cF2 := From_any (pos := k) (⟨Lw9, ok9⟩ : Lq W9 w.heap.size lb w1.heap.size lg2 vs2 sl2); rw [HFD.out] at cF2; clear Lw9 ok9)
          | (refine ⟨trivial, ?_⟩; gi_at_call 28; rw [← hW9]; refine (callsIn_wide.2 cF2).mono ?_; rintro e w10 ⟨ff, rfl, hS10, hB10, hz10⟩))
        obtain ⟨p1, p2, p3, p4, p5, p6⟩ := H8.out
        have b9 : Bx W9 w8.heap.size (.slice none 0 0) 35 := by rw [hW9]; exact Bx.new w8 _ _
        have hs9 : W9.heap.size = w8.heap.size + 1 := by rw [hW9]; simp
        have b10 := b9.below hB10 b9.lt
        have hN10 : w8.heap.size < w10.heap.size := by have := hB10.size; omega
        have hB810 : Below w8.heap.size w8 w10 := bel_of hB9 hB10 (Nat.le_refl _)
        have HXX2 : Hid (∀ y, Xf W9.heap.size (W9.heap.size + 1) lb sl2 vs2 y → y < w10.heap.size ∧ y ≠ w8.heap.size) := by
          rintro y (rfl | rfl | hy)
          · omega
          · omega
          · have := f29 y hy; omega
        have hw5 := p1.lt
        have hw7 := (Array.getElem?_eq_some_iff.1 p3).1
        have H10 : Hid (∀ (W : World), Ch (fun y => y = w8.heap.size ∨ w10.heap.size ≤ y) w10 W → Bx W w5.heap.size (.slice ka rs.length kc) 35 ∧ W.ownsRow w7.heap.size 9 1 (.slice ka rs.length kc) rs.length (strCs rs) ∧ W.heap[w7.heap.size]? = some (.deferred (some [])) ∧ Ls (fun x => x < w8.heap.size) W w.heap.size lb w1.heap.size lg2 (gDrop lg st k).2.2 ∧ Below w.heap.size w W) := fun W hc => by
          have r0 := (show Ch (fun _ => False) w8 w10 from Ch.of_below hB810).row p2 (fun _ _ => id)
          refine ⟨(p1.below hB810 hw5).ch hc (fun e => by omega), hc.row r0 (fun y hy e => ?_), hc.obj ((hB810.block _ hw7).trans p3) (fun e => by omega), (p4.below hB810).ch hc (fun x hx e => by omega), (bel_of p5 hB810 (Nat.le_refl _)).trans (hc.below (by have := p5.size; omega) (fun y hy e => by have := p5.size; omega))⟩
          obtain ⟨_, cur, hx⟩ := row_obj p2 hy
          have := (Array.getElem?_eq_some_iff.1 hx).1
          omega
        have hw78 : w7.heap.size < w8.heap.size := hw7
        clear H8 p1 p2 p3 p4 p5 b9 hB9 hB10 hB810 f29 hW9 cF2 hz10 hs9
        refine range_sqR1 (r := 17) (e1 := encE1) (e2 := encE2) rfl hS10 (fun R pre W => Gc w10 w8.heap.size R (pre.map Prod.snd) W) ?hI2 ?start2 ?assign2 ?body2 ?done2
        case hI2 => exact fun R R' pre W W' h hs hr => h.sr hN10 hs hr
        case start2 => exact fun W0 hB h0 => Gc.start b10 hB
        case assign2 =>
          intro mm l' x W K hK
          gi_wp2
          exact hK
        case body2 =>
          rintro mm l' R pre x W ⟨⟨v, q1, q2, q3⟩, q4, q5⟩ hnx
          obtain ⟨i0, hi0, hz0, hz1, hz2⟩ := info_parts infoStr
          have hple : pre.length + 1 ≤ (gFrom lg k).length := by have := hnx.length_le; simpa using this
          rw [List.length_map] at q2
          obtain ⟨ka, kc, rfl, -⟩ := row_slice q2
          have c1 := q1.cell
          have T0 : Hid (W.ownsRow w10.heap.size 9 1 (.slice ka pre.length kc) pre.length (strCs (pre.map Prod.snd))) := q2
          have hzW : w10.heap.size ≤ W.heap.size := q5.size
          have HST : Hid (∀ (o : Obj) (w1 : World) (v1 : Value), w1.ownsRow w10.heap.size 9 1 v1 (pre.length + 1) (strCs (pre.map Prod.snd) ++ [.string (S x.2)]) → (W.alloc o).grownBy w1 (Value.slice ka pre.length kc).ownBlock → (v1.ownBlock = (Value.slice ka pre.length kc).ownBlock ∨ v1.ownBlock = some (W.alloc o).heap.size) → _) := fun o w1 v1 y1 y2 y3 => Gc.step (X := Xf W9.heap.size (W9.heap.size + 1) lb sl2 vs2) q1 (by rw [List.length_map]; exact q2) q3 q4 q5 hN10 (by rw [List.length_map]; exact y1) y2 y3 HXX2.out
          have bnd : pre.length + 1 ≤ maxLen ∧ (pre.length + 1) * 16 ≤ 140737488355328 := by unfold maxLen; omega
          clear q1 q2 q3 q4 q5 hnx
          simp only [List.setIfInBounds_toArray, List.set_cons_succ, List.set_cons_zero]
          gi_wp2_with (gi_at_builtin; refine wpListIn_append_own_at _ rfl _ _ 35 rfl w10.heap.size 9 i0 (.string ⟨#[]⟩) 1 16 Tryz.underlying35 hi0 hz0 hz1 hz2 rfl (by decide) _ pre.length _ rfl (T0.out.alloc _) ⟨W.heap.size, 0, none⟩ 1 1 [.string (S x.2)] rfl rfl (cell_one_new _ _ _) (by simp [Value.oneCell']) bnd.1 bnd.2 (by simp; omega) ?_; intro v1 w1 hown1 hgrow1 _ hat1; obtain ⟨g1, k1, rfl, -⟩ := row_slice hown1; obtain ⟨z1, z2, z3⟩ := HST.out _ w1 _ hown1 hgrow1 hat1; have Z3 : Hid _ := z3; clear z3 hown1 hgrow1 hat1)
          obtain ⟨z3, z4, z5⟩ := Z3.out
          exact ⟨z3, z4, by show Gc _ _ _ (List.map Prod.snd (pre ++ [x])) _; rw [List.map_append]; exact z5⟩
        case done2 =>
          rintro R W' ⟨⟨v2, r1, r2, r3⟩, r4, r5⟩ hD2
          obtain ⟨s1, s2, s3, s4, s5⟩ := H10.out W' r5
          have hzW2 := r5.size
          rw [HRS.out] at r2
          obtain ⟨kb, kd, rfl, -⟩ := row_slice r2
          have c1 := s1.cell
          have c2 := r1.cell
          have cS := Same_true (strs_row s2) (strs_row r2) (by omega)
          have HW11 : Hid (∀ w11, Below W'.heap.size W' w11 → Calls Tryz.prog 19 #[.pointer (some ⟨lb, 0, none⟩)] w11 (fun e w' => e = .returned (.int .u64 (lg.next : Int)) ∧ w' = w11) ∧ Calls Tryz.prog 17 #[.pointer (some ⟨lb, 0, none⟩)] w11 (fun e w' => e = .returned (.int .u64 (gFirst lg2 : Int)) ∧ w' = w11) ∧ w11.heap[w10.heap.size]? = some (.deferred (some [])) ∧ w11.heap[w7.heap.size]? = some (.deferred (some [])) ∧ Below w.heap.size w w11) := fun w11 hb => by
            have h1 := gNext_any (s4.below hb)
            rw [hn2] at h1
            exact ⟨h1, gFirst_any (s4.below hb), (hb.block _ (Array.getElem?_eq_some_iff.1 hD2).1).trans hD2, (hb.block _ (Array.getElem?_eq_some_iff.1 s3).1).trans s3, bel_of s5 hb (Nat.le_refl _)⟩
          have hcs : ((lg.next = 1 ∨ (¬ lg.next = 1 ∧ gFirst lg2 < lg.next)) ∧ (k = 0 ∨ (¬ k = 0 ∧ gFirst lg2 ≤ k))) := by omega
          generalize gFirst lg2 = f1 at *
          generalize lg.next = nx at *
          clear s1 s2 s3 s4 s5 r1 r2 r3 r4 r5 hD2 hF1 hF2 H10
          obtain ⟨h1, h2⟩ := hcs
          have k1 : (((nx : Int) == 1) = true) ∨ ((((nx : Int) == 1) = false) ∧ (f1 : Int) < (nx : Int)) := by
            rcases h1 with h1 | ⟨h1, h1'⟩
            · exact .inl (by rw [beq_iff_eq]; omega)
            · exact .inr ⟨by rw [beq_eq_false_iff_ne]; omega, by omega⟩
          have k2 : (((k : Int) == 0) = true) ∨ ((((k : Int) == 0) = false) ∧ (f1 : Int) ≤ (k : Int)) := by
            rcases h2 with h2 | ⟨h2, h2'⟩
            · exact .inl (by rw [beq_iff_eq]; omega)
            · exact .inr ⟨by rw [beq_eq_false_iff_ne]; omega, by omega⟩
          have hee : ((nx : Int) == (nx : Int)) = true := by simp
          have hlt1 : w7.heap.size < w10.heap.size := by omega
          have hlt2 : w.heap.size ≤ w7.heap.size := by omega
          clear h1 h2 hnx hfl hrl hn2 hN10 hw78 hzW2 p6 hzW hN7 hNw hw5 hw7
          rcases k1 with k1 | ⟨k1, k1'⟩ <;> rcases k2 with k2 | ⟨k2, k2'⟩
          all_goals
            gi_wp2_with (first
              | (refine ⟨trivial, ?_⟩; gi_at_call 30; refine (callsIn_wide.2 cS).mono ?_; rintro e w11 ⟨rfl, b11⟩; obtain ⟨cN, cFi, y1, y2, y3⟩ := HW11.out w11 b11; have Y : Hid (w11.heap[w10.heap.size]? = some (.deferred (some [])) ∧ w11.heap[w7.heap.size]? = some (.deferred (some [])) ∧ Below w.heap.size w w11 ∧ w7.heap.size < w10.heap.size ∧ w.heap.size ≤ w7.heap.size) := ⟨y1, y2, y3, hlt1, hlt2⟩; clear b11 y1 y2 y3 HW11 cS)
              | (refine ⟨trivial, ?_⟩; gi_at_call 19; refine (callsIn_wide.2 cN).mono ?_; rintro e w12 ⟨rfl, hw12⟩; rw [hw12]; clear hw12)
              | (refine ⟨trivial, ?_⟩; gi_at_call 17; refine (callsIn_wide.2 cFi).mono ?_; rintro e w12 ⟨rfl, hw12⟩; rw [hw12]; clear hw12)
              | (refine ⟨trivial, ?_⟩))
            obtain ⟨y1, y2, y3, y4, y5⟩ := Y.out
            have y2' := (World.putObj_heap_other (o := .deferred none) (show w7.heap.size ≠ w10.heap.size by omega)).trans y2
            refine ⟨by simp, .inl ⟨_, _, rfl, takes y1, ?_⟩⟩
            refine ⟨by simp, .inl ⟨_, _, rfl, takes y2', ?_⟩⟩
            exact ⟨_, results_tmp rfl _ _ _, by simp, below_take (below_take y3 (Nat.le_refl _) (by omega) _) (Nat.le_refl _) (by omega) _⟩

open Go.ChangeShapes Go.WideShapes Go.ChangeAt Go.WideMaps Go.WideElems in
set_option maxRecDepth 100000 in
theorem lifted (os : Os) (started : os.Started) (H : Type) (enc : TypeId × Value → H) :
    ReturnsInHanded {} Tryz.checked os 6 .any (fun w args => (Rows.seglogDropsSpec.pre enc Tryz.prog Tryz.f6 [] false w args ∧ laidMetH Tryz.prog laid5 w) ∧ sizedMet enc Tryz.prog Tryz.f6 (OpenSpec.ofChange Rows.seglogDropsSpec) false w args)
      (Rows.seglogDropsSpec.post enc Tryz.prog Tryz.f6 false true false false) := by
  refine returnsInHanded_of_change_and (C := Tryz.checked) (X := fun w _ => laidMetH Tryz.prog laid5 w) (fun _ _ _ hh h => h.of_heap hh) own6 started (by kernel_rfl) Tryz.func6
    (ChangeSpec.witness_shaped (enc := enc) (C := Tryz.checked) (os := os) (X := fun w _ => laidMetH Tryz.prog laid5 w) false (World.doorLaid Tryz.prog 400 os) #[.slice none 0 0, .int .u64 0] 8 rfl (World.shaped_of_RefB (by kernel_rfl) (by kernel_rfl)) (by kernel_rfl) (by kernel_rfl) (by kernel_rfl) (door_met os _)) ?_
  intro W base args ds gs before hval0 hW _ _ hL _
  have hval : ∀ (j : Nat) t v, Tryz.f6.params[j]? = some t → args[j]? = some v → Value.okWide Tryz.prog W .any base t v := hval0
  have hW' := hW
  obtain ⟨p, q, hA0, hV, rfl, hfz, hnd⟩ := hW
  have hA : DataW.TrodAll enc Tryz.prog W 0 (fun _ => true) true Tryz.f6.params.toList args.toList ds p := hA0
  rw [Tryz.params6] at hA hval
  obtain ⟨v0, vs0, d0, ds0, p0, q0, hargs, rfl, rfl, h0, r0⟩ := trodAll_cons hA
  obtain ⟨v1, vs1, d1, ds1, p1, q1, rfl, rfl, rfl, h1, r1⟩ := trodAll_cons r0
  obtain ⟨rfl, rfl, rfl⟩ := trodAll_nil r1
  obtain rfl : args = #[v0, v1] := by cases args; simp_all
  obtain ⟨rfl, rfl⟩ := trodVars_none hV
  have k0 := h0
  have lt0 : ∀ x ∈ p0, x.block < W.heap.size := by obtain ⟨m, hm⟩ := k0; exact DataW.trod_lt m _ _ _ hm
  obtain ⟨fuel, hf⟩ := h0
  obtain ⟨a0, len0, cap0, rfl⟩ := okWide_slice Tryz.underlying58 (hval 0 58 v0 rfl rfl)
  obtain ⟨ls, hb, hlen⟩ := openBats (x := (d0, p0)) hf
  have hbb := hb
  obtain ⟨a', c', e', -⟩ := hb
  cases e'
  obtain ⟨a2, rfl, rfl, rfl, w2⟩ := open_int Tryz.underlying36 (hval 1 36 v1 rfl rfl) h1
  clear hA0 hval0
  obtain ⟨k, rfl⟩ : ∃ k : Nat, a2 = (k : Int) := ⟨a2.toNat, by have := bounds_u64 w2; omega⟩
  refine (walk a0 cap0 ls k W (gv_of hL) hbb hlen).mono fun e W' ⟨he, bel⟩ => ?_
  subst he
  exact ⟨_, rfl, _, _, _, [], _, [], hW', trodAll_mk1 (shut_bool Tryz.underlying4 _), (trodAll_cons_mk (Below.trod laidOut6 (by kernel_rfl) (of_decide_eq_true (by kernel_rfl)) k0 bel lt0) (trodAll_cons_mk (shut_int Tryz.underlying36 w2) trodAll_mk0)), rfl, bel.frame _, fun h => by cases h⟩
theorem said : Rows.SeglogDropsSaid :=
  OpenClaim.holds_of_wide 6 Tryz.f6 rfl rfl rfl rfl rfl rfl rfl ⟨rfl, rfl, rfl, rfl, rfl⟩ rfl rfl rfl rfl rfl (by kernel_rfl) Tryz.func6 (by kernel_rfl)
    (of_decide_eq_true (by kernel_rfl)) (by unfold Func.isWrapper; first | (rw [if_pos (by decide +kernel)]; kernel_rfl) | (rw [if_neg (by decide +kernel)]; exact ⟨rfl, rfl⟩))
    (fun os started H enc _ => lifted os started H enc)
theorem proved : Rows.SeglogDropsCardSaid :=
  Claim7.holds_tied_plain_at .later [] [.data, .data, .data, .sentinel, .sentinel] true (true, "e5f48cf818838eb1a04915034e31cf977e59c38cd69832c65d006d2f737c3ddd") true
    said (fun _ h => by cases h) (by kernel_rfl) (fun _ h => by cases h) seglogDrops_row_tie rfl ⟨rfl, rfl⟩ (by kernel_rfl) rfl
    (fun f fn hf hfn => by
      obtain rfl : f = 6 := Option.some.inj ((show Tryz.prog.funcNamed "wherry/wherrylaw06.SeglogDrops" = some 6 by kernel_rfl).symm.trans hf) |>.symm
      obtain rfl : fn = Tryz.f6 := (Option.some.inj (Tryz.func6.symm.trans hfn)).symm
      exact ⟨by kernel_rfl, fun j t ht => by
        rw [Tryz.params6] at ht
        have hm : t ∈ [58, 36] := by simpa using Array.mem_of_getElem? ht
        have hall : ([58, 36].all fun u => !Tryz.prog.wantsStandIn u) = true := by kernel_rfl
        exact (show Tryz.prog.wantsStandIn t = false by simpa using List.all_eq_true.1 hall t hm)⟩)
    (by kernel_rfl)
end Go.Proofs.YtlocnkheoahkbaaGreatDoor.seglogDrops

/-
  Package model: the rules of flows.
-/
import Derived.Test.YtlmdoiagjepmbaaGreatDoorM11Out
namespace Go.Proofs.YtlmdoiagjepmbaaGreatDoor.m11
open Go.Proofs.YtlmdoiagjepmbaaGreatDoor.x10
open Go.RowKit Go.Shelf Go.Sort
open Go.Lib hiding intOf

theorem fc_new (w : World) (a z : Int) (cd : List UInt8) : Fc (w.alloc (.cells #[.int .i64 a, .int .i64 z, .string (S cd)] 37)) w.heap.size 0 ⟨a, z, cd⟩ := ⟨World.cell?_alloc_new _ _ _ _, World.cell?_alloc_new _ _ _ _, World.cell?_alloc_new _ _ _ _⟩

set_option maxHeartbeats 400000 in
theorem fr1_any {w : World} {pb : Nat} {nv fv : Value} {P : Pc} (hb : Pb w pb nv fv P) (j : Int) (x : Fl) : Calls Tryz.prog 70 #[.int .i64 j, fA x, .pointer (some ⟨pb, 0, none⟩)] w fun e w' => e = .returned (.bool (isPl P.nodes.length x.src && isPl P.nodes.length x.dst)) ∧ Below w.heap.size w w' := by
  obtain ⟨a, z, cd⟩ := x
  have hB1 : Below w.heap.size w (w.alloc (.cells #[.int .i64 a, .int .i64 z, .string (S cd)] 37)) := (Below.refl _ w).alloc (Nat.le_refl _) _
  have B1 : Hid (Below w.heap.size w (w.alloc (.cells #[.int .i64 a, .int .i64 z, .string (S cd)] 37))) := hB1
  obtain ⟨b0, b1, b2, blt, bpo⟩ := hb.up hB1
  have C1 := fun W => isPlace_any (w := W) a hb.po.ns
  have C2 := fun W => isPlace_any (w := W) z hb.po.ns
  obtain ⟨na, nc, rfl, -⟩ := hb.po.ns
  unfold fA
  simp only
  clear hb hB1 bpo
  generalize isPl P.nodes.length a = r1 at *
  generalize isPl P.nodes.length z = r2 at *
  cases r1 with
  | false =>
    clear C2
    go_enter Tryz.func70, Tryz.ntmps70
    go_wp2_with (go_at_call 63; refine (C1 _).mono ?_; rintro e u1 ⟨rfl, hu1⟩; rw [hu1]; clear hu1)
    go_ret
    exact ⟨rfl, B1.out⟩
  | true =>
    go_enter Tryz.func70, Tryz.ntmps70
    go_wp2_with (first
      | (go_at_call_of 63 (Value.int .i64 a); refine (C1 _).mono ?_; rintro e u1 ⟨rfl, hu1⟩; rw [hu1]; clear hu1 C1)
      | (go_at_call 63; refine (C2 _).mono ?_; rintro e u1 ⟨rfl, hu1⟩; rw [hu1]; clear hu1))
    go_ret
    exact ⟨by simp, B1.out⟩

set_option maxHeartbeats 1000000 in
theorem fr2_any {w : World} {pb : Nat} {nv fv : Value} {P : Pc} (hb : Pb w pb nv fv P) (j : Int) {x : Fl} (hq : (isPl P.nodes.length x.src && isPl P.nodes.length x.dst) = true) : Calls Tryz.prog 71 #[.int .i64 j, fA x, .pointer (some ⟨pb, 0, none⟩)] w fun e w' => e = .returned (.bool ((P.nd x.src).parent == (P.nd x.dst).parent)) ∧ Below w.heap.size w w' := by
  obtain ⟨a, z, cd⟩ := x
  simp only [Bool.and_eq_true] at hq
  obtain ⟨h1, h2⟩ := hq
  obtain ⟨m, rfl, hm⟩ := isPl_iff.1 h1
  obtain ⟨t, rfl, ht⟩ := isPl_iff.1 h2
  have hB1 : Below w.heap.size w (w.alloc (.cells #[.int .i64 (m : Int), .int .i64 (t : Int), .string (S cd)] 37)) := (Below.refl _ w).alloc (Nat.le_refl _) _
  have B1 : Hid (Below w.heap.size w (w.alloc (.cells #[.int .i64 (m : Int), .int .i64 (t : Int), .string (S cd)] 37))) := hB1
  obtain ⟨c0, c1, c2⟩ := fc_new w (m : Int) (t : Int) cd
  obtain ⟨b0, b1, b2, blt, bpo⟩ := hb.up hB1
  obtain ⟨b', off, cap', hsl, hcap, hbl, hcell⟩ := bpo.ns.at hm
  subst hsl
  have dm := (hcell _ (Below.refl _ _) m hm).c1
  have dt := (hcell _ (Below.refl _ _) t ht).c1
  rw [nd_at P hm, nd_at P ht]
  have j1 : (0 : Int) ≤ (m : Int) := by omega
  have j2 : (m : Int) < (P.nodes.length : Int) := by omega
  have j3 : (0 : Int) ≤ (t : Int) := by omega
  have j4 : (t : Int) < (P.nodes.length : Int) := by omega
  unfold fA
  simp only at c0 c1 c2 ⊢
  generalize P.nodes[m].parent = y at *
  generalize P.nodes[t].parent = y' at *
  clear hcell hb hB1 bpo h1 h2
  go_enter Tryz.func71, Tryz.ntmps71
  go_wp2
  go_quiet (fail)
  go_wp2
  go_ret
  exact ⟨rfl, below_drewN B1.out _⟩

set_option maxHeartbeats 400000 in
theorem fr3_any {w : World} {pb : Nat} {nv fv : Value} {P : Pc} (hb : Pb w pb nv fv P) (j : Int) {x : Fl} (hq : isPl P.nodes.length x.src = true) : Calls Tryz.prog 72 #[.int .i64 j, fA x, .pointer (some ⟨pb, 0, none⟩)] w fun e w' => e = .returned (.bool (!([(2 : Int)].contains (P.nd x.src).kind))) ∧ Below w.heap.size w w' := by
  obtain ⟨a, z, cd⟩ := x
  obtain ⟨m, hm1, hm⟩ := isPl_iff.1 hq
  simp only at hm1
  subst hm1
  have hB1 : Below w.heap.size w (w.alloc (.cells #[.int .i64 (m : Int), .int .i64 z, .string (S cd)] 37)) := (Below.refl _ w).alloc (Nat.le_refl _) _
  have B1 : Hid (Below w.heap.size w (w.alloc (.cells #[.int .i64 (m : Int), .int .i64 z, .string (S cd)] 37))) := hB1
  obtain ⟨b0, b1, b2, blt, bpo⟩ := hb.up hB1
  obtain ⟨b', off, cap', hsl, hcap, hbl, hcell⟩ := bpo.ns.at hm
  subst hsl
  obtain ⟨d0, d1, d2, d3, d4, d5, d6⟩ := hcell _ (Below.refl _ _) m hm
  rw [nd_at P hm]
  have j1 : (0 : Int) ≤ (m : Int) := by omega
  have j2 : (m : Int) < (P.nodes.length : Int) := by omega
  generalize P.nodes[m] = y at *
  have CC := isOf_lit y (w.alloc (.cells #[.int .i64 (m : Int), .int .i64 z, .string (S cd)] 37)) (w.heap.size + 1) (by simp) [(2 : Int)] (by decide) 3
  obtain ⟨y0, y1, y2, y3, y4, y5, y6⟩ := y
  unfold nA at CC
  unfold fA
  simp only [List.length_cons, List.length_nil, Nat.reduceAdd, List.map_cons, List.map_nil] at d0 d1 d2 d3 d4 d5 d6 CC ⊢
  generalize [(2 : Int)].contains y0 = r at *
  clear hcell hb hB1 bpo hq
  go_enter Tryz.func72, Tryz.ntmps72
  go_wp2_with (go_at_call 35; refine CC.mono ?_; rintro e w1 ⟨rfl, hb1⟩; (have B2 : Hid (Below w.heap.size w w1) := bel_of B1.out hb1 (Nat.le_refl _)); clear hb1 CC)
  go_ret
  exact ⟨rfl, B2.out⟩

set_option maxHeartbeats 400000 in
theorem fr4_any {w : World} {pb : Nat} {nv fv : Value} {P : Pc} (hb : Pb w pb nv fv P) (j : Int) {x : Fl} (hq : isPl P.nodes.length x.dst = true) : Calls Tryz.prog 73 #[.int .i64 j, fA x, .pointer (some ⟨pb, 0, none⟩)] w fun e w' => e = .returned (.bool (!(nwi (P.nd x.dst).kind))) ∧ Below w.heap.size w w' := by
  obtain ⟨a, z, cd⟩ := x
  obtain ⟨m, hm1, hm⟩ := isPl_iff.1 hq
  simp only at hm1
  subst hm1
  have hB1 : Below w.heap.size w (w.alloc (.cells #[.int .i64 a, .int .i64 (m : Int), .string (S cd)] 37)) := (Below.refl _ w).alloc (Nat.le_refl _) _
  have B1 : Hid (Below w.heap.size w (w.alloc (.cells #[.int .i64 a, .int .i64 (m : Int), .string (S cd)] 37))) := hB1
  obtain ⟨b0, b1, b2, blt, bpo⟩ := hb.up hB1
  obtain ⟨b', off, cap', hsl, hcap, hbl, hcell⟩ := bpo.ns.at hm
  subst hsl
  obtain ⟨d0, d1, d2, d3, d4, d5, d6⟩ := hcell _ (Below.refl _ _) m hm
  rw [nd_at P hm]
  have j1 : (0 : Int) ≤ (m : Int) := by omega
  have j2 : (m : Int) < (P.nodes.length : Int) := by omega
  generalize P.nodes[m] = y at *
  have CC := noWayIn_any y (w.alloc (.cells #[.int .i64 a, .int .i64 (m : Int), .string (S cd)] 37))
  obtain ⟨y0, y1, y2, y3, y4, y5, y6⟩ := y
  unfold nA at CC
  unfold fA
  simp only at d0 d1 d2 d3 d4 d5 d6 CC ⊢
  generalize nwi y0 = r at *
  clear hcell hb hB1 bpo hq
  go_enter Tryz.func73, Tryz.ntmps73
  go_wp2_with (go_at_call 74; refine CC.mono ?_; rintro e w1 ⟨rfl, hb1⟩; (have B2 : Hid (Below w.heap.size w w1) := bel_of B1.out hb1 (Nat.le_refl _)); clear hb1 CC)
  go_ret
  exact ⟨rfl, B2.out⟩

theorem two_all {w1 : World} {v : Value} {l : List Fl} (hv : Fs w1 v l) (hn : l.length ≤ 4398046511104) {b : Nat} (y : Fl) (hc : Fc w1 b 0 y) (hlt : b < w1.heap.size) : Calls Tryz.prog 76 #[v, .func (.func 77) #[] #[.pointer (some ⟨b, 0, none⟩)]] w1 fun e w' => e = .returned (.bool (l.any fun x => x.src == y.src && x.cond == [])) ∧ Below w1.heap.size w1 w' :=
  containsFuncFlow (fun x => x.src == y.src && x.cond == []) hv (by omega) (enters_of Tryz.func77 (by kernel_rfl) rfl) (fun x _ W hW => two1_any x y W (hc.below hW hlt) (Nat.lt_of_lt_of_le hlt hW.size))

set_option maxRecDepth 100000 in
set_option maxHeartbeats 1000000 in
theorem fr5_any {w : World} {pb : Nat} {nv fv : Value} {P : Pc} (hb : Pb w pb nv fv P) (hz : Pz P) (hg : Gg w) {i : Nat} (hi : i < P.flows.length) (hq : isPl P.nodes.length P.flows[i].src = true) : Calls Tryz.prog 75 #[.int .i64 (i : Int), fA P.flows[i], .pointer (some ⟨pb, 0, none⟩)] w fun e w' => e = .returned (.bool (if [(4 : Int)].contains (P.nd P.flows[i].src).kind then (if P.flows[i].cond = [] then !((P.flows.take i).any fun y => y.src == P.flows[i].src && y.cond == []) else prsB P.flows[i].cond) else P.flows[i].cond == [])) ∧ Below w.heap.size w w' := by
  have hmf : ∀ (fn : Fn) (first cap : Array Value) (w : World), (Instr.makeFunc fn first cap).run Tryz.prog w = .ok (.func fn first cap) w := fun _ _ _ _ => rfl
  have HL : Hid (i ≤ P.flows.length) := Nat.le_of_lt hi
  generalize P.flows[i] = x at *
  obtain ⟨a, z, cd⟩ := x
  obtain ⟨m, hm1, hm⟩ := isPl_iff.1 hq
  simp only at hm1
  subst hm1
  have hB1 : Below w.heap.size w (w.alloc (.cells #[.int .i64 (m : Int), .int .i64 z, .string (S cd)] 37)) := (Below.refl _ w).alloc (Nat.le_refl _) _
  have hbS := hb.up hB1
  obtain ⟨b0, b1, b2, blt, bpo⟩ := hbS
  obtain ⟨b', off, cap', hsl, -, hbl, hcell⟩ := bpo.ns.at hm
  subst hsl
  obtain ⟨d0, d1, d2, d3, d4, d5, d6⟩ := hcell _ (Below.refl _ _) m hm
  obtain ⟨fb, foff, fcap, hfl, hfcap, -, -⟩ := bpo.fs.at hi
  subst hfl
  rw [nd_at P hm]
  have j1 : (0 : Int) ≤ (m : Int) := by omega
  have j2 : (m : Int) < (P.nodes.length : Int) := by omega
  have i1 : (0 : Int) ≤ (i : Int) := by omega
  have i2 : (i : Int) ≤ (fcap : Int) := by omega
  have i3 : i ≤ fcap := by omega
  generalize P.nodes[m] = y at *
  have CC := isOf_lit y (w.alloc (.cells #[.int .i64 (m : Int), .int .i64 z, .string (S cd)] 37)) (w.heap.size + 1) (by simp) [(4 : Int)] (by decide) 3
  have HB : Hid (∀ w1, Below (w.alloc (.cells #[.int .i64 (m : Int), .int .i64 z, .string (S cd)] 37)).heap.size (w.alloc (.cells #[.int .i64 (m : Int), .int .i64 z, .string (S cd)] 37)) w1 → Fc w1 w.heap.size 0 ⟨(m : Int), z, cd⟩ ∧ w1.cell? ⟨pb, 2, none⟩ = some (.slice (some ⟨fb, foff, none⟩) P.flows.length fcap) ∧ Below w.heap.size w w1) := fun w1 h1 => ⟨(fc_new w (m : Int) z cd).below h1 (by simp), (h1.cell (p := ⟨pb, 2, none⟩) blt).trans b2, bel_of hB1 h1 (Nat.le_refl _)⟩
  have CP : Hid (∀ W, Below w.heap.size w W → Calls Tryz.prog 68 #[.string (S cd)] W fun e w' => e = .returned (.bool (prsB cd)) ∧ Below w.heap.size w w') := fun W hW => (parses_any cd (hg.up hW)).mono fun e w' hh => ⟨hh.1, bel_of hW hh.2 (Nat.le_refl _)⟩
  have CF : Hid (∀ w1, Below (w.alloc (.cells #[.int .i64 (m : Int), .int .i64 z, .string (S cd)] 37)).heap.size (w.alloc (.cells #[.int .i64 (m : Int), .int .i64 z, .string (S cd)] 37)) w1 → Calls Tryz.prog 76 #[.slice (some ⟨fb, foff, none⟩) i fcap, .func (.func 77) #[] #[.pointer (some ⟨w.heap.size, 0, none⟩)]] w1 fun e w' => e = .returned (.bool ((P.flows.take i).any fun y => y.src == (m : Int) && y.cond == [])) ∧ Below w.heap.size w w') := fun w1 h1 => by
    have hlen : (P.flows.take i).length ≤ 4398046511104 := by rw [List.length_take]; exact Nat.le_trans (Nat.min_le_right _ _) hz.fl
    have hsz : w.heap.size < (w.alloc (.cells #[.int .i64 (m : Int), .int .i64 z, .string (S cd)] 37)).heap.size := by simp
    have hC := two_all ((bpo.fs.take HL.out).up h1) hlen ⟨(m : Int), z, cd⟩ ((fc_new w (m : Int) z cd).below h1 hsz) (Nat.lt_of_lt_of_le hsz h1.size)
    exact hC.mono fun e w' hh => ⟨hh.1, bel_of (bel_of hB1 h1 (Nat.le_refl _)) hh.2 (Nat.le_refl _)⟩
  obtain ⟨y0, y1, y2, y3, y4, y5, y6⟩ := y
  unfold nA at CC
  unfold fA
  simp only [List.length_cons, List.length_nil, Nat.reduceAdd, List.map_cons, List.map_nil] at d0 d1 d2 d3 d4 d5 d6 CC ⊢
  generalize [(4 : Int)].contains y0 = r at *
  clear hcell hb hB1 bpo hq hg hz hbl
  cases r with
  | false =>
    rw [if_neg (by simp)]
    have HQ : Hid ((S cd).toList.isEmpty = (cd == [])) := S_emp cd
    go_enter Tryz.func75, Tryz.ntmps75
    go_wp2_with (go_at_call 35; refine CC.mono ?_; rintro e w1 ⟨rfl, hb1⟩; obtain ⟨⟨c0, c1, c2⟩, e2, hb2⟩ := HB.out w1 hb1; simp only at c0 c1 c2; (have B2 : Hid (Below w.heap.size w w1) := hb2); clear hb1 CC hb2 HB)
    go_ret
    exact ⟨by rw [← HQ.out]; rfl, B2.out⟩
  | true =>
    rw [if_pos rfl]
    by_cases hc : cd = []
    · subst hc
      rw [if_pos rfl]
      generalize ((P.flows.take i).any fun y => y.src == (m : Int) && y.cond == []) = r at *
      have hem : S [] = ⟨#[]⟩ := rfl
      rw [hem] at CC HB CF d0 d1 d2 d3 d4 d5 d6 b0 b1 b2 ⊢
      go_enter Tryz.func75, Tryz.ntmps75
      go_wp2_with (first
        | (go_at_call 35; refine CC.mono ?_; rintro e w1 ⟨rfl, hb1⟩; obtain ⟨⟨c0, c1, c2⟩, e2, hb2⟩ := HB.out w1 hb1; simp only at c0 c1 c2; (have CG := CF.out w1 hb1); clear hb1 CC hb2 HB CF)
        | (go_at_call 76; refine CG.mono ?_; rintro e w2 ⟨rfl, hb2⟩; (have B2 : Hid (Below w.heap.size w w2) := hb2); clear hb2 CG))
      go_ret
      exact ⟨rfl, B2.out⟩
    · rw [if_neg hc]
      have hse : (S cd).toList.isEmpty = false := by rw [S_emp]; simpa using hc
      go_enter Tryz.func75, Tryz.ntmps75
      go_wp2_with (first
        | (go_at_call 35; refine CC.mono ?_; rintro e w1 ⟨rfl, hb1⟩; obtain ⟨⟨c0, c1, c2⟩, e2, hb2⟩ := HB.out w1 hb1; simp only at c0 c1 c2; (have CG := CP.out w1 hb2); clear hb1 CC hb2 HB CF)
        | (go_at_call 68; refine CG.mono ?_; rintro e w2 ⟨rfl, hb2⟩; (have B2 : Hid (Below w.heap.size w w2) := hb2); clear hb2 CG))
      go_ret
      exact ⟨rfl, B2.out⟩
end Go.Proofs.YtlmdoiagjepmbaaGreatDoor.m11

/-
  Package rec's Same: are two records the same?
-/
import Derived.Test.YtippnkendoghpaaR12Tkn
import Derived.Test.YtippnkendoghpaaV9Get
import Derived.Deep.RegionHeld3
import Derived.Laws.StructEq
namespace Go.Proofs.Ytippnkendoghpaa.r12
open Go.RowKit Go.Shelf Go.Sort
open Go.Lib hiding intOf

/-- a record without its list -/
def pV (r : R12) : Value := .agg #[.int .i64 r.cl, .int .i64 r.kd, .int .u64 (r.fr : Int), .int .i64 r.tm, .int .u64 (r.k1 : Int), .int .u64 (r.k2 : Int), .int .u64 (r.k3 : Int), .int .i64 r.n, .int .i64 r.m, .string (S r.a), .string (S r.b), .string (S r.c)]
def Pe (r q : R12) : Prop := r.cl = q.cl ∧ r.kd = q.kd ∧ r.fr = q.fr ∧ r.tm = q.tm ∧ r.k1 = q.k1 ∧ r.k2 = q.k2 ∧ r.k3 = q.k3 ∧ r.n = q.n ∧ r.m = q.m ∧ r.a = q.a ∧ r.b = q.b ∧ r.c = q.c
theorem Pe.eq {r q : R12} (h : Pe r q) (hv : r.v = q.v) : r = q := by
  obtain ⟨h0, h1, h2, h3, h4, h5, h6, h7, h8, h9, h10, h11⟩ := h
  exact R12.ext12 h0 h1 h2 h3 h4 h5 h6 h7 h8 h9 h10 h11 hv
theorem Pe.refl (r : R12) : Pe r r := ⟨rfl, rfl, rfl, rfl, rfl, rfl, rfl, rfl, rfl, rfl, rfl, rfl⟩
theorem str_ne {a b : List UInt8} (h : a ≠ b) : ((S a).toList == (S b).toList) = false := by rw [S_toList, S_toList]; exact beq_eq_false_iff_ne.2 h
theorem nat_ne {a b : Nat} (h : a ≠ b) : ((a : Int) == (b : Int)) = false := beq_eq_false_iff_ne.2 (by omega)
theorem int_ne {a b : Int} (h : a ≠ b) : (a == b) = false := beq_eq_false_iff_ne.2 h

set_option maxRecDepth 100000 in
theorem cmp_yes {r q : R12} (h : Pe r q) (W : World) : (binOp .eql 48 (pV r) (pV q)).run Try.prog W = .ok (.bool true) W := by
  obtain ⟨cl, kd, fr, tm, k1, k2, k3, n, m, a, b, c, l⟩ := r
  obtain ⟨cl', kd', fr', tm', k1', k2', k3', n', m', a', b', c', l'⟩ := q
  obtain ⟨h0, h1, h2, h3, h4, h5, h6, h7, h8, h9, h10, h11⟩ := h
  simp only at h0 h1 h2 h3 h4 h5 h6 h7 h8 h9 h10 h11
  subst h0 h1 h2 h3 h4 h5 h6 h7 h8 h9 h10 h11
  unfold pV
  go_simp
set_option maxRecDepth 100000 in
set_option maxHeartbeats 1000000 in
theorem cmp_no {r q : R12} (h : ¬ Pe r q) (W : World) : (binOp .eql 48 (pV r) (pV q)).run Try.prog W = .ok (.bool false) W := by
  obtain ⟨cl, kd, fr, tm, k1, k2, k3, n, m, a, b, c, l⟩ := r
  obtain ⟨cl', kd', fr', tm', k1', k2', k3', n', m', a', b', c', l'⟩ := q
  unfold pV
  unfold Pe at h
  simp only at h ⊢
  by_cases h0 : cl = cl'
  · subst h0
    by_cases h1 : kd = kd'
    · subst h1
      by_cases h2 : fr = fr'
      · subst h2
        by_cases h3 : tm = tm'
        · subst h3
          by_cases h4 : k1 = k1'
          · subst h4
            by_cases h5 : k2 = k2'
            · subst h5
              by_cases h6 : k3 = k3'
              · subst h6
                by_cases h7 : n = n'
                · subst h7
                  by_cases h8 : m = m'
                  · subst h8
                    by_cases h9 : a = a'
                    · subst h9
                      by_cases h10 : b = b'
                      · subst h10
                        by_cases h11 : c = c'
                        · subst h11
                          exact absurd ⟨rfl, rfl, rfl, rfl, rfl, rfl, rfl, rfl, rfl, rfl, rfl, rfl⟩ h
                        · have e := str_ne h11
                          clear h
                          go_simp
                      · have e := str_ne h10
                        clear h
                        go_simp
                    · have e := str_ne h9
                      clear h
                      go_simp
                  · have e := int_ne h8
                    clear h
                    go_simp
                · have e := int_ne h7
                  clear h
                  go_simp
              · have e := nat_ne h6
                clear h
                go_simp
            · have e := nat_ne h5
              clear h
              go_simp
          · have e := nat_ne h4
            clear h
            go_simp
        · have e := int_ne h3
          clear h
          go_simp
      · have e := nat_ne h2
        clear h
        go_simp
    · have e := int_ne h1
      clear h
      go_simp
  · have e := int_ne h0
    clear h
    go_simp
theorem cmp_ok (op : BinOp) (x y : Operand) (r q : R12) (W : World) : (eqGuard op 48 x y (pV r) (pV q)).run Try.prog W = .ok () W := run_eqGuard_agg W op 48 x y _ _ (by kernel_rfl)

/-- two boxes of records, one behind the other -/
theorem box2 (w : World) (x0 x1 x2 x3 x4 x5 x6 x7 x8 x9 x10 x11 x12 y0 y1 y2 y3 y4 y5 y6 y7 y8 y9 y10 y11 y12 : Value) (W : World) (hW : Below ((w.alloc (.cells #[x0, x1, x2, x3, x4, x5, x6, x7, x8, x9, x10, x11, x12] 25)).alloc (.cells #[y0, y1, y2, y3, y4, y5, y6, y7, y8, y9, y10, y11, y12] 25)).heap.size ((w.alloc (.cells #[x0, x1, x2, x3, x4, x5, x6, x7, x8, x9, x10, x11, x12] 25)).alloc (.cells #[y0, y1, y2, y3, y4, y5, y6, y7, y8, y9, y10, y11, y12] 25)) W) : W.cell? ⟨w.heap.size, 0, none⟩ = some x0 ∧ W.cell? ⟨w.heap.size, 1, none⟩ = some x1 ∧ W.cell? ⟨w.heap.size, 2, none⟩ = some x2 ∧ W.cell? ⟨w.heap.size, 3, none⟩ = some x3 ∧ W.cell? ⟨w.heap.size, 4, none⟩ = some x4 ∧ W.cell? ⟨w.heap.size, 5, none⟩ = some x5 ∧ W.cell? ⟨w.heap.size, 6, none⟩ = some x6 ∧ W.cell? ⟨w.heap.size, 7, none⟩ = some x7 ∧ W.cell? ⟨w.heap.size, 8, none⟩ = some x8 ∧ W.cell? ⟨w.heap.size, 9, none⟩ = some x9 ∧ W.cell? ⟨w.heap.size, 10, none⟩ = some x10 ∧ W.cell? ⟨w.heap.size, 11, none⟩ = some x11 ∧ W.cell? ⟨w.heap.size, 12, none⟩ = some x12 ∧ W.cell? ⟨w.heap.size + 1, 0, none⟩ = some y0 ∧ W.cell? ⟨w.heap.size + 1, 1, none⟩ = some y1 ∧ W.cell? ⟨w.heap.size + 1, 2, none⟩ = some y2 ∧ W.cell? ⟨w.heap.size + 1, 3, none⟩ = some y3 ∧ W.cell? ⟨w.heap.size + 1, 4, none⟩ = some y4 ∧ W.cell? ⟨w.heap.size + 1, 5, none⟩ = some y5 ∧ W.cell? ⟨w.heap.size + 1, 6, none⟩ = some y6 ∧ W.cell? ⟨w.heap.size + 1, 7, none⟩ = some y7 ∧ W.cell? ⟨w.heap.size + 1, 8, none⟩ = some y8 ∧ W.cell? ⟨w.heap.size + 1, 9, none⟩ = some y9 ∧ W.cell? ⟨w.heap.size + 1, 10, none⟩ = some y10 ∧ W.cell? ⟨w.heap.size + 1, 11, none⟩ = some y11 ∧ W.cell? ⟨w.heap.size + 1, 12, none⟩ = some y12 := by
  have hba : w.heap.size < ((w.alloc (.cells #[x0, x1, x2, x3, x4, x5, x6, x7, x8, x9, x10, x11, x12] 25)).alloc (.cells #[y0, y1, y2, y3, y4, y5, y6, y7, y8, y9, y10, y11, y12] 25)).heap.size := by simp; omega
  have hbb : w.heap.size + 1 < ((w.alloc (.cells #[x0, x1, x2, x3, x4, x5, x6, x7, x8, x9, x10, x11, x12] 25)).alloc (.cells #[y0, y1, y2, y3, y4, y5, y6, y7, y8, y9, y10, y11, y12] 25)).heap.size := by simp
  exact ⟨(hW.cell (p := ⟨w.heap.size, 0, none⟩) hba).trans (by go_simp), (hW.cell (p := ⟨w.heap.size, 1, none⟩) hba).trans (by go_simp), (hW.cell (p := ⟨w.heap.size, 2, none⟩) hba).trans (by go_simp), (hW.cell (p := ⟨w.heap.size, 3, none⟩) hba).trans (by go_simp), (hW.cell (p := ⟨w.heap.size, 4, none⟩) hba).trans (by go_simp), (hW.cell (p := ⟨w.heap.size, 5, none⟩) hba).trans (by go_simp), (hW.cell (p := ⟨w.heap.size, 6, none⟩) hba).trans (by go_simp), (hW.cell (p := ⟨w.heap.size, 7, none⟩) hba).trans (by go_simp), (hW.cell (p := ⟨w.heap.size, 8, none⟩) hba).trans (by go_simp), (hW.cell (p := ⟨w.heap.size, 9, none⟩) hba).trans (by go_simp), (hW.cell (p := ⟨w.heap.size, 10, none⟩) hba).trans (by go_simp), (hW.cell (p := ⟨w.heap.size, 11, none⟩) hba).trans (by go_simp), (hW.cell (p := ⟨w.heap.size, 12, none⟩) hba).trans (by go_simp), (hW.cell (p := ⟨w.heap.size + 1, 0, none⟩) hbb).trans (by go_simp), (hW.cell (p := ⟨w.heap.size + 1, 1, none⟩) hbb).trans (by go_simp), (hW.cell (p := ⟨w.heap.size + 1, 2, none⟩) hbb).trans (by go_simp), (hW.cell (p := ⟨w.heap.size + 1, 3, none⟩) hbb).trans (by go_simp), (hW.cell (p := ⟨w.heap.size + 1, 4, none⟩) hbb).trans (by go_simp), (hW.cell (p := ⟨w.heap.size + 1, 5, none⟩) hbb).trans (by go_simp), (hW.cell (p := ⟨w.heap.size + 1, 6, none⟩) hbb).trans (by go_simp), (hW.cell (p := ⟨w.heap.size + 1, 7, none⟩) hbb).trans (by go_simp), (hW.cell (p := ⟨w.heap.size + 1, 8, none⟩) hbb).trans (by go_simp), (hW.cell (p := ⟨w.heap.size + 1, 9, none⟩) hbb).trans (by go_simp), (hW.cell (p := ⟨w.heap.size + 1, 10, none⟩) hbb).trans (by go_simp), (hW.cell (p := ⟨w.heap.size + 1, 11, none⟩) hbb).trans (by go_simp), (hW.cell (p := ⟨w.heap.size + 1, 12, none⟩) hbb).trans (by go_simp)⟩

set_option maxHeartbeats 1000000 in
set_option maxRecDepth 100000 in
theorem plainOf_any (r : R12) {a0 : Option Addr} {n0 c0 : Nat} (w : World) : Calls Try.prog 22 #[rV r (.slice a0 n0 c0)] w fun e w' => e = .returned (pV r) ∧ Below w.heap.size w w' := by
  obtain ⟨cl, kd, fr, tm, k1, k2, k3, n, m, a, b, c, l⟩ := r
  unfold rV rC pV
  simp only
  have HB : Hid (∀ o1 o2, Below w.heap.size w ((w.alloc o1).alloc o2)) := fun o1 o2 => ((Below.refl _ _).alloc (Nat.le_refl _) _).alloc (by rw [World.size_alloc]; omega) _
  go_enter Try.func22, Try.ntmps22
  go_wp2
  refine bodyPost_ret (v := .agg #[.int .i64 cl, .int .i64 kd, .int .u64 (fr : Int), .int .i64 tm, .int .u64 (k1 : Int), .int .u64 (k2 : Int), .int .u64 (k3 : Int), .int .i64 n, .int .i64 m, .string (S a), .string (S b), .string (S c)]) (by simp [results, Try.results22, go_sem]) rfl ⟨rfl, ?_⟩
  exact HB.out _ _

set_option maxHeartbeats 4000000 in
set_option maxRecDepth 100000 in
theorem Equal_any {w : World} {v u : Value} {l m : List Vr} (hv : Vs w v l) (hu : Vs w u m) (hn : l.length ≤ 4611686018427387904) (hm : m.length ≤ 4611686018427387904) :
    Calls Try.prog 23 #[v, u] w fun e w' => e = .returned (.bool (decide (l = m))) ∧ Below w.heap.size w w' := by
  have HV : Hid (Vs w v l) := hv
  have HU : Hid (Vs w u m) := hu
  obtain ⟨a, cap, rfl, -⟩ := hv
  obtain ⟨a2, cap2, rfl, -⟩ := hu
  by_cases hl : l.length = m.length
  · have hl' : ((l.length : Int) != (m.length : Int)) = false := by rw [hl]; simp
    have HL : Hid (l.length = m.length) := hl
    clear hl
    go_enter Try.func23, Try.ntmps23
    go_wp2
    go_loopw [13] (fun v5 wr => ∃ i : Nat, v5 = .int .i64 (i : Int) ∧ i ≤ l.length ∧ Hid (l.take i = m.take i) ∧ Hid (Below w.heap.size w wr)) (fun v5 _ => l.length - (intOf v5).toNat)
    case atStart => exact ⟨0, rfl, Nat.zero_le _, by show _ = _; simp, Below.refl _ _⟩
    case round =>
      obtain ⟨i, rfl, hi, HT, HW⟩ := hrel
      by_cases hil : i < l.length
      · have hil' : (i : Int) < (l.length : Int) := by omega
        have hi0 : (0 : Int) ≤ (i : Int) := by omega
        have him : i < m.length := by have := HL.out; omega
        have him' : (i : Int) < (m.length : Int) := by omega
        obtain ⟨b', off, cap', hsl, hbl, hcell⟩ := HV.out.at hil
        cases hsl
        obtain ⟨b2, off2, cap2', hsl2, hbl2, hcell2⟩ := HU.out.at him
        cases hsl2
        obtain ⟨m0, m1, m2, m3⟩ := hcell wr HW.out
        obtain ⟨n0, n1, n2, n3⟩ := hcell2 wr HW.out
        have HN : Hid (l[i] = m[i] → l.take (i + 1) = m.take (i + 1)) := fun e => by rw [List.take_succ_eq_append_getElem hil, List.take_succ_eq_append_getElem him, HT.out, e]
        have HF : Hid (l[i] ≠ m[i] → l ≠ m) := fun h e => h (by subst e; rfl)
        clear hcell hcell2
        obtain ⟨x, hx⟩ : ∃ x, l[i] = x := ⟨_, rfl⟩
        obtain ⟨y, hy⟩ : ∃ y, m[i] = y := ⟨_, rfl⟩
        rw [hx] at m0 m1 m2 m3 HN HF
        rw [hy] at n0 n1 n2 n3 HN HF
        clear hx hy
        by_cases hxy : x = y
        · subst hxy
          obtain ⟨nm, x1, x2, x3⟩ := x
          simp only at m0 m1 m2 m3 n0 n1 n2 n3
          go_wp2
          go_quiet (fail)
          go_wp2
          go_roundw
          case rel =>
            exact ⟨i + 1, by simp, by omega, HN.out (by first | rfl | trivial), below_drewN HW.out _⟩
          case measure => simp [intOf]; omega
        · have hd := xA_ways hxy
          have HE : Hid (decide (l = m) = false) := decide_eq_false (HF.out hxy)
          obtain ⟨nm, x1, x2, x3⟩ := x
          obtain ⟨nm', y1, y2, y3⟩ := y
          simp only at m0 m1 m2 m3 n0 n1 n2 n3 hd
          clear hxy HN HF
          rcases hd with d1 | ⟨d1, d2⟩ | ⟨d1, d2, d3⟩ | ⟨d1, d2, d3, d4⟩
          all_goals
            go_wp2
            go_quiet (fail)
            go_wp2
            go_ret
            exact ⟨by rw [HE.out]; rfl, below_drewN HW.out _⟩
      · have hil' : ¬ (i : Int) < (l.length : Int) := by omega
        have HE : Hid (decide (l = m) = true) := decide_eq_true (by have := HT.out; have hl := HL.out; rwa [List.take_of_length_le (by omega), List.take_of_length_le (by omega)] at this)
        go_wp2
        go_ret
        exact ⟨by rw [HE.out]; rfl, HW.out⟩
  · have hl' : ((l.length : Int) != (m.length : Int)) = true := bne_iff_ne.2 (by omega)
    have HE : Hid (decide (l = m) = false) := decide_eq_false (fun e => hl (by rw [e]))
    go_enter Try.func23, Try.ntmps23
    go_wp2
    go_ret
    exact ⟨by rw [HE.out]; rfl, Below.refl _ _⟩

set_option maxHeartbeats 8000000 in
set_option maxRecDepth 100000 in
theorem Same_p {r q : R12} {w : World} {vv uu : Value} (hv : Vs w vv r.v) (hu : Vs w uu q.v) (hn : r.v.length ≤ 4611686018427387904) (hm : q.v.length ≤ 4611686018427387904) (h : Pe r q) : Calls Try.prog 13 #[rV r vv, rV q uu] w fun e w' => e = .returned (.bool (decide (r.v = q.v))) ∧ Below w.heap.size w w' := by
  have hcmp := cmp_yes h
  have hgrd := fun op x y => cmp_ok op x y r q
  have CE0 : ∀ W, Below w.heap.size w W → Calls Try.prog 23 #[vv, uu] W fun e w' => e = .returned (.bool (decide (r.v = q.v))) ∧ Below W.heap.size W w' := fun W hW => Equal_any (hv.up hW) (hu.up hW) hn hm
  obtain ⟨va, vc, rfl, -⟩ := hv
  obtain ⟨va', vc', rfl, -⟩ := hu
  have CP0 := fun W => plainOf_any r (a0 := va) (n0 := r.v.length) (c0 := vc) W
  have CQ0 := fun W => plainOf_any q (a0 := va') (n0 := q.v.length) (c0 := vc') W
  clear hn hm h
  generalize pV r = P at *
  generalize pV q = Q at *
  obtain ⟨cl, kd, fr, tm, k1, k2, k3, n, m, a, b, c, l⟩ := r
  obtain ⟨cl', kd', fr', tm', k1', k2', k3', n', m', a', b', c', l'⟩ := q
  unfold rV rC at CP0 CQ0 ⊢
  simp only at CP0 CQ0 CE0 ⊢
  generalize l.length = vl at *
  generalize l'.length = vl' at *
  generalize decide (l = l') = rr at *
  have HS : Hid (∀ W, Below ((w.alloc (.cells #[.int .i64 cl, .int .i64 kd, .int .u64 (fr : Int), .int .i64 tm, .int .u64 (k1 : Int), .int .u64 (k2 : Int), .int .u64 (k3 : Int), .int .i64 n, .int .i64 m, .string (S a), .string (S b), .string (S c), .slice va vl vc] 25)).alloc (.cells #[.int .i64 cl', .int .i64 kd', .int .u64 (fr' : Int), .int .i64 tm', .int .u64 (k1' : Int), .int .u64 (k2' : Int), .int .u64 (k3' : Int), .int .i64 n', .int .i64 m', .string (S a'), .string (S b'), .string (S c'), .slice va' vl' vc'] 25)).heap.size ((w.alloc (.cells #[.int .i64 cl, .int .i64 kd, .int .u64 (fr : Int), .int .i64 tm, .int .u64 (k1 : Int), .int .u64 (k2 : Int), .int .u64 (k3 : Int), .int .i64 n, .int .i64 m, .string (S a), .string (S b), .string (S c), .slice va vl vc] 25)).alloc (.cells #[.int .i64 cl', .int .i64 kd', .int .u64 (fr' : Int), .int .i64 tm', .int .u64 (k1' : Int), .int .u64 (k2' : Int), .int .u64 (k3' : Int), .int .i64 n', .int .i64 m', .string (S a'), .string (S b'), .string (S c'), .slice va' vl' vc'] 25)) W → W.cell? ⟨w.heap.size, 0, none⟩ = some (.int .i64 cl) ∧ W.cell? ⟨w.heap.size, 1, none⟩ = some (.int .i64 kd) ∧ W.cell? ⟨w.heap.size, 2, none⟩ = some (.int .u64 (fr : Int)) ∧ W.cell? ⟨w.heap.size, 3, none⟩ = some (.int .i64 tm) ∧ W.cell? ⟨w.heap.size, 4, none⟩ = some (.int .u64 (k1 : Int)) ∧ W.cell? ⟨w.heap.size, 5, none⟩ = some (.int .u64 (k2 : Int)) ∧ W.cell? ⟨w.heap.size, 6, none⟩ = some (.int .u64 (k3 : Int)) ∧ W.cell? ⟨w.heap.size, 7, none⟩ = some (.int .i64 n) ∧ W.cell? ⟨w.heap.size, 8, none⟩ = some (.int .i64 m) ∧ W.cell? ⟨w.heap.size, 9, none⟩ = some (.string (S a)) ∧ W.cell? ⟨w.heap.size, 10, none⟩ = some (.string (S b)) ∧ W.cell? ⟨w.heap.size, 11, none⟩ = some (.string (S c)) ∧ W.cell? ⟨w.heap.size, 12, none⟩ = some (.slice va vl vc) ∧ W.cell? ⟨w.heap.size + 1, 0, none⟩ = some (.int .i64 cl') ∧ W.cell? ⟨w.heap.size + 1, 1, none⟩ = some (.int .i64 kd') ∧ W.cell? ⟨w.heap.size + 1, 2, none⟩ = some (.int .u64 (fr' : Int)) ∧ W.cell? ⟨w.heap.size + 1, 3, none⟩ = some (.int .i64 tm') ∧ W.cell? ⟨w.heap.size + 1, 4, none⟩ = some (.int .u64 (k1' : Int)) ∧ W.cell? ⟨w.heap.size + 1, 5, none⟩ = some (.int .u64 (k2' : Int)) ∧ W.cell? ⟨w.heap.size + 1, 6, none⟩ = some (.int .u64 (k3' : Int)) ∧ W.cell? ⟨w.heap.size + 1, 7, none⟩ = some (.int .i64 n') ∧ W.cell? ⟨w.heap.size + 1, 8, none⟩ = some (.int .i64 m') ∧ W.cell? ⟨w.heap.size + 1, 9, none⟩ = some (.string (S a')) ∧ W.cell? ⟨w.heap.size + 1, 10, none⟩ = some (.string (S b')) ∧ W.cell? ⟨w.heap.size + 1, 11, none⟩ = some (.string (S c')) ∧ W.cell? ⟨w.heap.size + 1, 12, none⟩ = some ((.slice va' vl' vc'))) := fun W hW => box2 w _ _ _ _ _ _ _ _ _ _ _ _ _ _ _ _ _ _ _ _ _ _ _ _ _ _ W hW
  have B1 : Hid (Below w.heap.size w ((w.alloc (.cells #[.int .i64 cl, .int .i64 kd, .int .u64 (fr : Int), .int .i64 tm, .int .u64 (k1 : Int), .int .u64 (k2 : Int), .int .u64 (k3 : Int), .int .i64 n, .int .i64 m, .string (S a), .string (S b), .string (S c), .slice va vl vc] 25)).alloc (.cells #[.int .i64 cl', .int .i64 kd', .int .u64 (fr' : Int), .int .i64 tm', .int .u64 (k1' : Int), .int .u64 (k2' : Int), .int .u64 (k3' : Int), .int .i64 n', .int .i64 m', .string (S a'), .string (S b'), .string (S c'), .slice va' vl' vc'] 25))) := ((Below.refl _ w).alloc (Nat.le_refl _) _).alloc (by rw [World.size_alloc]; omega) _
  have CP : ∀ W, Below ((w.alloc (.cells #[.int .i64 cl, .int .i64 kd, .int .u64 (fr : Int), .int .i64 tm, .int .u64 (k1 : Int), .int .u64 (k2 : Int), .int .u64 (k3 : Int), .int .i64 n, .int .i64 m, .string (S a), .string (S b), .string (S c), .slice va vl vc] 25)).alloc (.cells #[.int .i64 cl', .int .i64 kd', .int .u64 (fr' : Int), .int .i64 tm', .int .u64 (k1' : Int), .int .u64 (k2' : Int), .int .u64 (k3' : Int), .int .i64 n', .int .i64 m', .string (S a'), .string (S b'), .string (S c'), .slice va' vl' vc'] 25)).heap.size ((w.alloc (.cells #[.int .i64 cl, .int .i64 kd, .int .u64 (fr : Int), .int .i64 tm, .int .u64 (k1 : Int), .int .u64 (k2 : Int), .int .u64 (k3 : Int), .int .i64 n, .int .i64 m, .string (S a), .string (S b), .string (S c), .slice va vl vc] 25)).alloc (.cells #[.int .i64 cl', .int .i64 kd', .int .u64 (fr' : Int), .int .i64 tm', .int .u64 (k1' : Int), .int .u64 (k2' : Int), .int .u64 (k3' : Int), .int .i64 n', .int .i64 m', .string (S a'), .string (S b'), .string (S c'), .slice va' vl' vc'] 25)) W → Calls Try.prog 22 #[.agg #[.int .i64 cl, .int .i64 kd, .int .u64 (fr : Int), .int .i64 tm, .int .u64 (k1 : Int), .int .u64 (k2 : Int), .int .u64 (k3 : Int), .int .i64 n, .int .i64 m, .string (S a), .string (S b), .string (S c), .slice va vl vc]] W fun e w' => e = .returned P ∧ Below ((w.alloc (.cells #[.int .i64 cl, .int .i64 kd, .int .u64 (fr : Int), .int .i64 tm, .int .u64 (k1 : Int), .int .u64 (k2 : Int), .int .u64 (k3 : Int), .int .i64 n, .int .i64 m, .string (S a), .string (S b), .string (S c), .slice va vl vc] 25)).alloc (.cells #[.int .i64 cl', .int .i64 kd', .int .u64 (fr' : Int), .int .i64 tm', .int .u64 (k1' : Int), .int .u64 (k2' : Int), .int .u64 (k3' : Int), .int .i64 n', .int .i64 m', .string (S a'), .string (S b'), .string (S c'), .slice va' vl' vc'] 25)).heap.size ((w.alloc (.cells #[.int .i64 cl, .int .i64 kd, .int .u64 (fr : Int), .int .i64 tm, .int .u64 (k1 : Int), .int .u64 (k2 : Int), .int .u64 (k3 : Int), .int .i64 n, .int .i64 m, .string (S a), .string (S b), .string (S c), .slice va vl vc] 25)).alloc (.cells #[.int .i64 cl', .int .i64 kd', .int .u64 (fr' : Int), .int .i64 tm', .int .u64 (k1' : Int), .int .u64 (k2' : Int), .int .u64 (k3' : Int), .int .i64 n', .int .i64 m', .string (S a'), .string (S b'), .string (S c'), .slice va' vl' vc'] 25)) w' := fun W hW => (CP0 W).mono fun e w' hh => ⟨hh.1, bel_of hW hh.2 (Nat.le_refl _)⟩
  have CQ : ∀ W, Below ((w.alloc (.cells #[.int .i64 cl, .int .i64 kd, .int .u64 (fr : Int), .int .i64 tm, .int .u64 (k1 : Int), .int .u64 (k2 : Int), .int .u64 (k3 : Int), .int .i64 n, .int .i64 m, .string (S a), .string (S b), .string (S c), .slice va vl vc] 25)).alloc (.cells #[.int .i64 cl', .int .i64 kd', .int .u64 (fr' : Int), .int .i64 tm', .int .u64 (k1' : Int), .int .u64 (k2' : Int), .int .u64 (k3' : Int), .int .i64 n', .int .i64 m', .string (S a'), .string (S b'), .string (S c'), .slice va' vl' vc'] 25)).heap.size ((w.alloc (.cells #[.int .i64 cl, .int .i64 kd, .int .u64 (fr : Int), .int .i64 tm, .int .u64 (k1 : Int), .int .u64 (k2 : Int), .int .u64 (k3 : Int), .int .i64 n, .int .i64 m, .string (S a), .string (S b), .string (S c), .slice va vl vc] 25)).alloc (.cells #[.int .i64 cl', .int .i64 kd', .int .u64 (fr' : Int), .int .i64 tm', .int .u64 (k1' : Int), .int .u64 (k2' : Int), .int .u64 (k3' : Int), .int .i64 n', .int .i64 m', .string (S a'), .string (S b'), .string (S c'), .slice va' vl' vc'] 25)) W → Calls Try.prog 22 #[.agg #[.int .i64 cl', .int .i64 kd', .int .u64 (fr' : Int), .int .i64 tm', .int .u64 (k1' : Int), .int .u64 (k2' : Int), .int .u64 (k3' : Int), .int .i64 n', .int .i64 m', .string (S a'), .string (S b'), .string (S c'), .slice va' vl' vc']] W fun e w' => e = .returned Q ∧ Below ((w.alloc (.cells #[.int .i64 cl, .int .i64 kd, .int .u64 (fr : Int), .int .i64 tm, .int .u64 (k1 : Int), .int .u64 (k2 : Int), .int .u64 (k3 : Int), .int .i64 n, .int .i64 m, .string (S a), .string (S b), .string (S c), .slice va vl vc] 25)).alloc (.cells #[.int .i64 cl', .int .i64 kd', .int .u64 (fr' : Int), .int .i64 tm', .int .u64 (k1' : Int), .int .u64 (k2' : Int), .int .u64 (k3' : Int), .int .i64 n', .int .i64 m', .string (S a'), .string (S b'), .string (S c'), .slice va' vl' vc'] 25)).heap.size ((w.alloc (.cells #[.int .i64 cl, .int .i64 kd, .int .u64 (fr : Int), .int .i64 tm, .int .u64 (k1 : Int), .int .u64 (k2 : Int), .int .u64 (k3 : Int), .int .i64 n, .int .i64 m, .string (S a), .string (S b), .string (S c), .slice va vl vc] 25)).alloc (.cells #[.int .i64 cl', .int .i64 kd', .int .u64 (fr' : Int), .int .i64 tm', .int .u64 (k1' : Int), .int .u64 (k2' : Int), .int .u64 (k3' : Int), .int .i64 n', .int .i64 m', .string (S a'), .string (S b'), .string (S c'), .slice va' vl' vc'] 25)) w' := fun W hW => (CQ0 W).mono fun e w' hh => ⟨hh.1, bel_of hW hh.2 (Nat.le_refl _)⟩
  have CE : ∀ W, Below ((w.alloc (.cells #[.int .i64 cl, .int .i64 kd, .int .u64 (fr : Int), .int .i64 tm, .int .u64 (k1 : Int), .int .u64 (k2 : Int), .int .u64 (k3 : Int), .int .i64 n, .int .i64 m, .string (S a), .string (S b), .string (S c), .slice va vl vc] 25)).alloc (.cells #[.int .i64 cl', .int .i64 kd', .int .u64 (fr' : Int), .int .i64 tm', .int .u64 (k1' : Int), .int .u64 (k2' : Int), .int .u64 (k3' : Int), .int .i64 n', .int .i64 m', .string (S a'), .string (S b'), .string (S c'), .slice va' vl' vc'] 25)).heap.size ((w.alloc (.cells #[.int .i64 cl, .int .i64 kd, .int .u64 (fr : Int), .int .i64 tm, .int .u64 (k1 : Int), .int .u64 (k2 : Int), .int .u64 (k3 : Int), .int .i64 n, .int .i64 m, .string (S a), .string (S b), .string (S c), .slice va vl vc] 25)).alloc (.cells #[.int .i64 cl', .int .i64 kd', .int .u64 (fr' : Int), .int .i64 tm', .int .u64 (k1' : Int), .int .u64 (k2' : Int), .int .u64 (k3' : Int), .int .i64 n', .int .i64 m', .string (S a'), .string (S b'), .string (S c'), .slice va' vl' vc'] 25)) W → Calls Try.prog 23 #[.slice va vl vc, .slice va' vl' vc'] W fun e w' => e = .returned (.bool rr) ∧ Below ((w.alloc (.cells #[.int .i64 cl, .int .i64 kd, .int .u64 (fr : Int), .int .i64 tm, .int .u64 (k1 : Int), .int .u64 (k2 : Int), .int .u64 (k3 : Int), .int .i64 n, .int .i64 m, .string (S a), .string (S b), .string (S c), .slice va vl vc] 25)).alloc (.cells #[.int .i64 cl', .int .i64 kd', .int .u64 (fr' : Int), .int .i64 tm', .int .u64 (k1' : Int), .int .u64 (k2' : Int), .int .u64 (k3' : Int), .int .i64 n', .int .i64 m', .string (S a'), .string (S b'), .string (S c'), .slice va' vl' vc'] 25)).heap.size ((w.alloc (.cells #[.int .i64 cl, .int .i64 kd, .int .u64 (fr : Int), .int .i64 tm, .int .u64 (k1 : Int), .int .u64 (k2 : Int), .int .u64 (k3 : Int), .int .i64 n, .int .i64 m, .string (S a), .string (S b), .string (S c), .slice va vl vc] 25)).alloc (.cells #[.int .i64 cl', .int .i64 kd', .int .u64 (fr' : Int), .int .i64 tm', .int .u64 (k1' : Int), .int .u64 (k2' : Int), .int .u64 (k3' : Int), .int .i64 n', .int .i64 m', .string (S a'), .string (S b'), .string (S c'), .slice va' vl' vc'] 25)) w' := fun W hW => (CE0 W (bel_of B1.out hW (Nat.le_refl _))).mono fun e w' hh => ⟨hh.1, bel_of hW hh.2 (Nat.le_refl _)⟩
  clear CP0 CQ0 CE0
  obtain ⟨c0, c1, c2, c3, c4, c5, c6, c7, c8, c9, c10, c11, c12, c13, c14, c15, c16, c17, c18, c19, c20, c21, c22, c23, c24, c25⟩ := HS.out _ (Below.refl _ _)
  go_enter Try.func13, Try.ntmps13
  go_wp2
  generalize ((w.alloc (.cells #[.int .i64 cl, .int .i64 kd, .int .u64 (fr : Int), .int .i64 tm, .int .u64 (k1 : Int), .int .u64 (k2 : Int), .int .u64 (k3 : Int), .int .i64 n, .int .i64 m, .string (S a), .string (S b), .string (S c), .slice va vl vc] 25)).alloc (.cells #[.int .i64 cl', .int .i64 kd', .int .u64 (fr' : Int), .int .i64 tm', .int .u64 (k1' : Int), .int .u64 (k2' : Int), .int .u64 (k3' : Int), .int .i64 n', .int .i64 m', .string (S a'), .string (S b'), .string (S c'), .slice va' vl' vc'] 25)) = W1 at *
  go_region_held3 (fun W => W.cell? ⟨w.heap.size, 0, none⟩ = some (.int .i64 cl) ∧ W.cell? ⟨w.heap.size, 1, none⟩ = some (.int .i64 kd) ∧ W.cell? ⟨w.heap.size, 2, none⟩ = some (.int .u64 (fr : Int)) ∧ W.cell? ⟨w.heap.size, 3, none⟩ = some (.int .i64 tm) ∧ W.cell? ⟨w.heap.size, 4, none⟩ = some (.int .u64 (k1 : Int)) ∧ W.cell? ⟨w.heap.size, 5, none⟩ = some (.int .u64 (k2 : Int)) ∧ W.cell? ⟨w.heap.size, 6, none⟩ = some (.int .u64 (k3 : Int)) ∧ W.cell? ⟨w.heap.size, 7, none⟩ = some (.int .i64 n) ∧ W.cell? ⟨w.heap.size, 8, none⟩ = some (.int .i64 m) ∧ W.cell? ⟨w.heap.size, 9, none⟩ = some (.string (S a)) ∧ W.cell? ⟨w.heap.size, 10, none⟩ = some (.string (S b)) ∧ W.cell? ⟨w.heap.size, 11, none⟩ = some (.string (S c)) ∧ W.cell? ⟨w.heap.size, 12, none⟩ = some (.slice va vl vc) ∧ W.cell? ⟨w.heap.size + 1, 0, none⟩ = some (.int .i64 cl') ∧ W.cell? ⟨w.heap.size + 1, 1, none⟩ = some (.int .i64 kd') ∧ W.cell? ⟨w.heap.size + 1, 2, none⟩ = some (.int .u64 (fr' : Int)) ∧ W.cell? ⟨w.heap.size + 1, 3, none⟩ = some (.int .i64 tm') ∧ W.cell? ⟨w.heap.size + 1, 4, none⟩ = some (.int .u64 (k1' : Int)) ∧ W.cell? ⟨w.heap.size + 1, 5, none⟩ = some (.int .u64 (k2' : Int)) ∧ W.cell? ⟨w.heap.size + 1, 6, none⟩ = some (.int .u64 (k3' : Int)) ∧ W.cell? ⟨w.heap.size + 1, 7, none⟩ = some (.int .i64 n') ∧ W.cell? ⟨w.heap.size + 1, 8, none⟩ = some (.int .i64 m') ∧ W.cell? ⟨w.heap.size + 1, 9, none⟩ = some (.string (S a')) ∧ W.cell? ⟨w.heap.size + 1, 10, none⟩ = some (.string (S b')) ∧ W.cell? ⟨w.heap.size + 1, 11, none⟩ = some (.string (S c')) ∧ W.cell? ⟨w.heap.size + 1, 12, none⟩ = some ((.slice va' vl' vc')))
    (first | go_keep | exact HS.out _ (Below.refl _ _) | exact HS.out _ (Below.refl _ _).drew | exact HS.out _ hX)
    (first
      | (go_at_call_of 22 (Value.agg #[.int .i64 cl, .int .i64 kd, .int .u64 (fr : Int), .int .i64 tm, .int .u64 (k1 : Int), .int .u64 (k2 : Int), .int .u64 (k3 : Int), .int .i64 n, .int .i64 m, .string (S a), .string (S b), .string (S c), .slice va vl vc]); refine (CP _ (by first | exact Below.refl _ _ | exact (Below.refl _ _).drew | exact hX | exact hX.drew)).mono ?_; rintro e u1 ⟨rfl, hX⟩; clear CP)
      | (go_at_call 22; refine (CQ _ (by first | exact Below.refl _ _ | exact (Below.refl _ _).drew | exact hX | exact hX.drew)).mono ?_; rintro e u1 ⟨rfl, hX⟩; clear CQ)
      | (go_at_call 23; refine (CE _ (by first | exact Below.refl _ _ | exact (Below.refl _ _).drew | exact hX | exact hX.drew)).mono ?_; rintro e u1 ⟨rfl, hX⟩; (have B2 : Hid (Below w.heap.size w u1) := bel_of B1.out hX (Nat.le_refl _)); clear CE))
  all_goals
    go_wp2
    go_ret
    exact ⟨rfl, B2.out⟩

set_option maxHeartbeats 8000000 in
set_option maxRecDepth 100000 in
theorem Same_n {r q : R12} {w : World} {vv uu : Value} (hv : Vs w vv r.v) (hu : Vs w uu q.v) (hn : r.v.length ≤ 4611686018427387904) (hm : q.v.length ≤ 4611686018427387904) (h : ¬ Pe r q) : Calls Try.prog 13 #[rV r vv, rV q uu] w fun e w' => e = .returned (.bool false) ∧ Below w.heap.size w w' := by
  have hcmp := cmp_no h
  have hgrd := fun op x y => cmp_ok op x y r q
  have CE0 : ∀ W, Below w.heap.size w W → Calls Try.prog 23 #[vv, uu] W fun e w' => e = .returned (.bool (decide (r.v = q.v))) ∧ Below W.heap.size W w' := fun W hW => Equal_any (hv.up hW) (hu.up hW) hn hm
  obtain ⟨va, vc, rfl, -⟩ := hv
  obtain ⟨va', vc', rfl, -⟩ := hu
  have CP0 := fun W => plainOf_any r (a0 := va) (n0 := r.v.length) (c0 := vc) W
  have CQ0 := fun W => plainOf_any q (a0 := va') (n0 := q.v.length) (c0 := vc') W
  clear hn hm h
  generalize pV r = P at *
  generalize pV q = Q at *
  obtain ⟨cl, kd, fr, tm, k1, k2, k3, n, m, a, b, c, l⟩ := r
  obtain ⟨cl', kd', fr', tm', k1', k2', k3', n', m', a', b', c', l'⟩ := q
  unfold rV rC at CP0 CQ0 ⊢
  simp only at CP0 CQ0 CE0 ⊢
  generalize l.length = vl at *
  generalize l'.length = vl' at *
  generalize decide (l = l') = rr at *
  have HS : Hid (∀ W, Below ((w.alloc (.cells #[.int .i64 cl, .int .i64 kd, .int .u64 (fr : Int), .int .i64 tm, .int .u64 (k1 : Int), .int .u64 (k2 : Int), .int .u64 (k3 : Int), .int .i64 n, .int .i64 m, .string (S a), .string (S b), .string (S c), .slice va vl vc] 25)).alloc (.cells #[.int .i64 cl', .int .i64 kd', .int .u64 (fr' : Int), .int .i64 tm', .int .u64 (k1' : Int), .int .u64 (k2' : Int), .int .u64 (k3' : Int), .int .i64 n', .int .i64 m', .string (S a'), .string (S b'), .string (S c'), .slice va' vl' vc'] 25)).heap.size ((w.alloc (.cells #[.int .i64 cl, .int .i64 kd, .int .u64 (fr : Int), .int .i64 tm, .int .u64 (k1 : Int), .int .u64 (k2 : Int), .int .u64 (k3 : Int), .int .i64 n, .int .i64 m, .string (S a), .string (S b), .string (S c), .slice va vl vc] 25)).alloc (.cells #[.int .i64 cl', .int .i64 kd', .int .u64 (fr' : Int), .int .i64 tm', .int .u64 (k1' : Int), .int .u64 (k2' : Int), .int .u64 (k3' : Int), .int .i64 n', .int .i64 m', .string (S a'), .string (S b'), .string (S c'), .slice va' vl' vc'] 25)) W → W.cell? ⟨w.heap.size, 0, none⟩ = some (.int .i64 cl) ∧ W.cell? ⟨w.heap.size, 1, none⟩ = some (.int .i64 kd) ∧ W.cell? ⟨w.heap.size, 2, none⟩ = some (.int .u64 (fr : Int)) ∧ W.cell? ⟨w.heap.size, 3, none⟩ = some (.int .i64 tm) ∧ W.cell? ⟨w.heap.size, 4, none⟩ = some (.int .u64 (k1 : Int)) ∧ W.cell? ⟨w.heap.size, 5, none⟩ = some (.int .u64 (k2 : Int)) ∧ W.cell? ⟨w.heap.size, 6, none⟩ = some (.int .u64 (k3 : Int)) ∧ W.cell? ⟨w.heap.size, 7, none⟩ = some (.int .i64 n) ∧ W.cell? ⟨w.heap.size, 8, none⟩ = some (.int .i64 m) ∧ W.cell? ⟨w.heap.size, 9, none⟩ = some (.string (S a)) ∧ W.cell? ⟨w.heap.size, 10, none⟩ = some (.string (S b)) ∧ W.cell? ⟨w.heap.size, 11, none⟩ = some (.string (S c)) ∧ W.cell? ⟨w.heap.size, 12, none⟩ = some (.slice va vl vc) ∧ W.cell? ⟨w.heap.size + 1, 0, none⟩ = some (.int .i64 cl') ∧ W.cell? ⟨w.heap.size + 1, 1, none⟩ = some (.int .i64 kd') ∧ W.cell? ⟨w.heap.size + 1, 2, none⟩ = some (.int .u64 (fr' : Int)) ∧ W.cell? ⟨w.heap.size + 1, 3, none⟩ = some (.int .i64 tm') ∧ W.cell? ⟨w.heap.size + 1, 4, none⟩ = some (.int .u64 (k1' : Int)) ∧ W.cell? ⟨w.heap.size + 1, 5, none⟩ = some (.int .u64 (k2' : Int)) ∧ W.cell? ⟨w.heap.size + 1, 6, none⟩ = some (.int .u64 (k3' : Int)) ∧ W.cell? ⟨w.heap.size + 1, 7, none⟩ = some (.int .i64 n') ∧ W.cell? ⟨w.heap.size + 1, 8, none⟩ = some (.int .i64 m') ∧ W.cell? ⟨w.heap.size + 1, 9, none⟩ = some (.string (S a')) ∧ W.cell? ⟨w.heap.size + 1, 10, none⟩ = some (.string (S b')) ∧ W.cell? ⟨w.heap.size + 1, 11, none⟩ = some (.string (S c')) ∧ W.cell? ⟨w.heap.size + 1, 12, none⟩ = some ((.slice va' vl' vc'))) := fun W hW => box2 w _ _ _ _ _ _ _ _ _ _ _ _ _ _ _ _ _ _ _ _ _ _ _ _ _ _ W hW
  have B1 : Hid (Below w.heap.size w ((w.alloc (.cells #[.int .i64 cl, .int .i64 kd, .int .u64 (fr : Int), .int .i64 tm, .int .u64 (k1 : Int), .int .u64 (k2 : Int), .int .u64 (k3 : Int), .int .i64 n, .int .i64 m, .string (S a), .string (S b), .string (S c), .slice va vl vc] 25)).alloc (.cells #[.int .i64 cl', .int .i64 kd', .int .u64 (fr' : Int), .int .i64 tm', .int .u64 (k1' : Int), .int .u64 (k2' : Int), .int .u64 (k3' : Int), .int .i64 n', .int .i64 m', .string (S a'), .string (S b'), .string (S c'), .slice va' vl' vc'] 25))) := ((Below.refl _ w).alloc (Nat.le_refl _) _).alloc (by rw [World.size_alloc]; omega) _
  have CP : ∀ W, Below ((w.alloc (.cells #[.int .i64 cl, .int .i64 kd, .int .u64 (fr : Int), .int .i64 tm, .int .u64 (k1 : Int), .int .u64 (k2 : Int), .int .u64 (k3 : Int), .int .i64 n, .int .i64 m, .string (S a), .string (S b), .string (S c), .slice va vl vc] 25)).alloc (.cells #[.int .i64 cl', .int .i64 kd', .int .u64 (fr' : Int), .int .i64 tm', .int .u64 (k1' : Int), .int .u64 (k2' : Int), .int .u64 (k3' : Int), .int .i64 n', .int .i64 m', .string (S a'), .string (S b'), .string (S c'), .slice va' vl' vc'] 25)).heap.size ((w.alloc (.cells #[.int .i64 cl, .int .i64 kd, .int .u64 (fr : Int), .int .i64 tm, .int .u64 (k1 : Int), .int .u64 (k2 : Int), .int .u64 (k3 : Int), .int .i64 n, .int .i64 m, .string (S a), .string (S b), .string (S c), .slice va vl vc] 25)).alloc (.cells #[.int .i64 cl', .int .i64 kd', .int .u64 (fr' : Int), .int .i64 tm', .int .u64 (k1' : Int), .int .u64 (k2' : Int), .int .u64 (k3' : Int), .int .i64 n', .int .i64 m', .string (S a'), .string (S b'), .string (S c'), .slice va' vl' vc'] 25)) W → Calls Try.prog 22 #[.agg #[.int .i64 cl, .int .i64 kd, .int .u64 (fr : Int), .int .i64 tm, .int .u64 (k1 : Int), .int .u64 (k2 : Int), .int .u64 (k3 : Int), .int .i64 n, .int .i64 m, .string (S a), .string (S b), .string (S c), .slice va vl vc]] W fun e w' => e = .returned P ∧ Below ((w.alloc (.cells #[.int .i64 cl, .int .i64 kd, .int .u64 (fr : Int), .int .i64 tm, .int .u64 (k1 : Int), .int .u64 (k2 : Int), .int .u64 (k3 : Int), .int .i64 n, .int .i64 m, .string (S a), .string (S b), .string (S c), .slice va vl vc] 25)).alloc (.cells #[.int .i64 cl', .int .i64 kd', .int .u64 (fr' : Int), .int .i64 tm', .int .u64 (k1' : Int), .int .u64 (k2' : Int), .int .u64 (k3' : Int), .int .i64 n', .int .i64 m', .string (S a'), .string (S b'), .string (S c'), .slice va' vl' vc'] 25)).heap.size ((w.alloc (.cells #[.int .i64 cl, .int .i64 kd, .int .u64 (fr : Int), .int .i64 tm, .int .u64 (k1 : Int), .int .u64 (k2 : Int), .int .u64 (k3 : Int), .int .i64 n, .int .i64 m, .string (S a), .string (S b), .string (S c), .slice va vl vc] 25)).alloc (.cells #[.int .i64 cl', .int .i64 kd', .int .u64 (fr' : Int), .int .i64 tm', .int .u64 (k1' : Int), .int .u64 (k2' : Int), .int .u64 (k3' : Int), .int .i64 n', .int .i64 m', .string (S a'), .string (S b'), .string (S c'), .slice va' vl' vc'] 25)) w' := fun W hW => (CP0 W).mono fun e w' hh => ⟨hh.1, bel_of hW hh.2 (Nat.le_refl _)⟩
  have CQ : ∀ W, Below ((w.alloc (.cells #[.int .i64 cl, .int .i64 kd, .int .u64 (fr : Int), .int .i64 tm, .int .u64 (k1 : Int), .int .u64 (k2 : Int), .int .u64 (k3 : Int), .int .i64 n, .int .i64 m, .string (S a), .string (S b), .string (S c), .slice va vl vc] 25)).alloc (.cells #[.int .i64 cl', .int .i64 kd', .int .u64 (fr' : Int), .int .i64 tm', .int .u64 (k1' : Int), .int .u64 (k2' : Int), .int .u64 (k3' : Int), .int .i64 n', .int .i64 m', .string (S a'), .string (S b'), .string (S c'), .slice va' vl' vc'] 25)).heap.size ((w.alloc (.cells #[.int .i64 cl, .int .i64 kd, .int .u64 (fr : Int), .int .i64 tm, .int .u64 (k1 : Int), .int .u64 (k2 : Int), .int .u64 (k3 : Int), .int .i64 n, .int .i64 m, .string (S a), .string (S b), .string (S c), .slice va vl vc] 25)).alloc (.cells #[.int .i64 cl', .int .i64 kd', .int .u64 (fr' : Int), .int .i64 tm', .int .u64 (k1' : Int), .int .u64 (k2' : Int), .int .u64 (k3' : Int), .int .i64 n', .int .i64 m', .string (S a'), .string (S b'), .string (S c'), .slice va' vl' vc'] 25)) W → Calls Try.prog 22 #[.agg #[.int .i64 cl', .int .i64 kd', .int .u64 (fr' : Int), .int .i64 tm', .int .u64 (k1' : Int), .int .u64 (k2' : Int), .int .u64 (k3' : Int), .int .i64 n', .int .i64 m', .string (S a'), .string (S b'), .string (S c'), .slice va' vl' vc']] W fun e w' => e = .returned Q ∧ Below ((w.alloc (.cells #[.int .i64 cl, .int .i64 kd, .int .u64 (fr : Int), .int .i64 tm, .int .u64 (k1 : Int), .int .u64 (k2 : Int), .int .u64 (k3 : Int), .int .i64 n, .int .i64 m, .string (S a), .string (S b), .string (S c), .slice va vl vc] 25)).alloc (.cells #[.int .i64 cl', .int .i64 kd', .int .u64 (fr' : Int), .int .i64 tm', .int .u64 (k1' : Int), .int .u64 (k2' : Int), .int .u64 (k3' : Int), .int .i64 n', .int .i64 m', .string (S a'), .string (S b'), .string (S c'), .slice va' vl' vc'] 25)).heap.size ((w.alloc (.cells #[.int .i64 cl, .int .i64 kd, .int .u64 (fr : Int), .int .i64 tm, .int .u64 (k1 : Int), .int .u64 (k2 : Int), .int .u64 (k3 : Int), .int .i64 n, .int .i64 m, .string (S a), .string (S b), .string (S c), .slice va vl vc] 25)).alloc (.cells #[.int .i64 cl', .int .i64 kd', .int .u64 (fr' : Int), .int .i64 tm', .int .u64 (k1' : Int), .int .u64 (k2' : Int), .int .u64 (k3' : Int), .int .i64 n', .int .i64 m', .string (S a'), .string (S b'), .string (S c'), .slice va' vl' vc'] 25)) w' := fun W hW => (CQ0 W).mono fun e w' hh => ⟨hh.1, bel_of hW hh.2 (Nat.le_refl _)⟩
  have CE : ∀ W, Below ((w.alloc (.cells #[.int .i64 cl, .int .i64 kd, .int .u64 (fr : Int), .int .i64 tm, .int .u64 (k1 : Int), .int .u64 (k2 : Int), .int .u64 (k3 : Int), .int .i64 n, .int .i64 m, .string (S a), .string (S b), .string (S c), .slice va vl vc] 25)).alloc (.cells #[.int .i64 cl', .int .i64 kd', .int .u64 (fr' : Int), .int .i64 tm', .int .u64 (k1' : Int), .int .u64 (k2' : Int), .int .u64 (k3' : Int), .int .i64 n', .int .i64 m', .string (S a'), .string (S b'), .string (S c'), .slice va' vl' vc'] 25)).heap.size ((w.alloc (.cells #[.int .i64 cl, .int .i64 kd, .int .u64 (fr : Int), .int .i64 tm, .int .u64 (k1 : Int), .int .u64 (k2 : Int), .int .u64 (k3 : Int), .int .i64 n, .int .i64 m, .string (S a), .string (S b), .string (S c), .slice va vl vc] 25)).alloc (.cells #[.int .i64 cl', .int .i64 kd', .int .u64 (fr' : Int), .int .i64 tm', .int .u64 (k1' : Int), .int .u64 (k2' : Int), .int .u64 (k3' : Int), .int .i64 n', .int .i64 m', .string (S a'), .string (S b'), .string (S c'), .slice va' vl' vc'] 25)) W → Calls Try.prog 23 #[.slice va vl vc, .slice va' vl' vc'] W fun e w' => e = .returned (.bool rr) ∧ Below ((w.alloc (.cells #[.int .i64 cl, .int .i64 kd, .int .u64 (fr : Int), .int .i64 tm, .int .u64 (k1 : Int), .int .u64 (k2 : Int), .int .u64 (k3 : Int), .int .i64 n, .int .i64 m, .string (S a), .string (S b), .string (S c), .slice va vl vc] 25)).alloc (.cells #[.int .i64 cl', .int .i64 kd', .int .u64 (fr' : Int), .int .i64 tm', .int .u64 (k1' : Int), .int .u64 (k2' : Int), .int .u64 (k3' : Int), .int .i64 n', .int .i64 m', .string (S a'), .string (S b'), .string (S c'), .slice va' vl' vc'] 25)).heap.size ((w.alloc (.cells #[.int .i64 cl, .int .i64 kd, .int .u64 (fr : Int), .int .i64 tm, .int .u64 (k1 : Int), .int .u64 (k2 : Int), .int .u64 (k3 : Int), .int .i64 n, .int .i64 m, .string (S a), .string (S b), .string (S c), .slice va vl vc] 25)).alloc (.cells #[.int .i64 cl', .int .i64 kd', .int .u64 (fr' : Int), .int .i64 tm', .int .u64 (k1' : Int), .int .u64 (k2' : Int), .int .u64 (k3' : Int), .int .i64 n', .int .i64 m', .string (S a'), .string (S b'), .string (S c'), .slice va' vl' vc'] 25)) w' := fun W hW => (CE0 W (bel_of B1.out hW (Nat.le_refl _))).mono fun e w' hh => ⟨hh.1, bel_of hW hh.2 (Nat.le_refl _)⟩
  clear CP0 CQ0 CE0
  obtain ⟨c0, c1, c2, c3, c4, c5, c6, c7, c8, c9, c10, c11, c12, c13, c14, c15, c16, c17, c18, c19, c20, c21, c22, c23, c24, c25⟩ := HS.out _ (Below.refl _ _)
  go_enter Try.func13, Try.ntmps13
  go_wp2
  generalize ((w.alloc (.cells #[.int .i64 cl, .int .i64 kd, .int .u64 (fr : Int), .int .i64 tm, .int .u64 (k1 : Int), .int .u64 (k2 : Int), .int .u64 (k3 : Int), .int .i64 n, .int .i64 m, .string (S a), .string (S b), .string (S c), .slice va vl vc] 25)).alloc (.cells #[.int .i64 cl', .int .i64 kd', .int .u64 (fr' : Int), .int .i64 tm', .int .u64 (k1' : Int), .int .u64 (k2' : Int), .int .u64 (k3' : Int), .int .i64 n', .int .i64 m', .string (S a'), .string (S b'), .string (S c'), .slice va' vl' vc'] 25)) = W1 at *
  clear CE
  refine wp_region_held_drew (S := (fun W => W.cell? ⟨w.heap.size, 0, none⟩ = some (.int .i64 cl) ∧ W.cell? ⟨w.heap.size, 1, none⟩ = some (.int .i64 kd) ∧ W.cell? ⟨w.heap.size, 2, none⟩ = some (.int .u64 (fr : Int)) ∧ W.cell? ⟨w.heap.size, 3, none⟩ = some (.int .i64 tm) ∧ W.cell? ⟨w.heap.size, 4, none⟩ = some (.int .u64 (k1 : Int)) ∧ W.cell? ⟨w.heap.size, 5, none⟩ = some (.int .u64 (k2 : Int)) ∧ W.cell? ⟨w.heap.size, 6, none⟩ = some (.int .u64 (k3 : Int)) ∧ W.cell? ⟨w.heap.size, 7, none⟩ = some (.int .i64 n) ∧ W.cell? ⟨w.heap.size, 8, none⟩ = some (.int .i64 m) ∧ W.cell? ⟨w.heap.size, 9, none⟩ = some (.string (S a)) ∧ W.cell? ⟨w.heap.size, 10, none⟩ = some (.string (S b)) ∧ W.cell? ⟨w.heap.size, 11, none⟩ = some (.string (S c)) ∧ W.cell? ⟨w.heap.size, 12, none⟩ = some (.slice va vl vc) ∧ W.cell? ⟨w.heap.size + 1, 0, none⟩ = some (.int .i64 cl') ∧ W.cell? ⟨w.heap.size + 1, 1, none⟩ = some (.int .i64 kd') ∧ W.cell? ⟨w.heap.size + 1, 2, none⟩ = some (.int .u64 (fr' : Int)) ∧ W.cell? ⟨w.heap.size + 1, 3, none⟩ = some (.int .i64 tm') ∧ W.cell? ⟨w.heap.size + 1, 4, none⟩ = some (.int .u64 (k1' : Int)) ∧ W.cell? ⟨w.heap.size + 1, 5, none⟩ = some (.int .u64 (k2' : Int)) ∧ W.cell? ⟨w.heap.size + 1, 6, none⟩ = some (.int .u64 (k3' : Int)) ∧ W.cell? ⟨w.heap.size + 1, 7, none⟩ = some (.int .i64 n') ∧ W.cell? ⟨w.heap.size + 1, 8, none⟩ = some (.int .i64 m') ∧ W.cell? ⟨w.heap.size + 1, 9, none⟩ = some (.string (S a')) ∧ W.cell? ⟨w.heap.size + 1, 10, none⟩ = some (.string (S b')) ∧ W.cell? ⟨w.heap.size + 1, 11, none⟩ = some (.string (S c')) ∧ W.cell? ⟨w.heap.size + 1, 12, none⟩ = some ((.slice va' vl' vc')))) (by kernel_rfl) (by first | go_keep | exact HS.out _ (Below.refl _ _) | exact HS.out _ (Below.refl _ _).drew | exact HS.out _ hX) (fun hHeld => ?_)
  refine wpAnyH_take (i := 0) (v := ?_) rfl (by kernel_rfl) (by kernel_rfl) (by kernel_rfl) (fun _ _ _ h => h) (Or.inl ⟨by rfl, ?_⟩) (by assumption) ?_
  rotate_left 1
  · intro w hSw; (try dsimp only at hSw); go_simp; try with_reducible rfl
  refine wpAnyH_take (i := 2) (v := ?_) rfl (by kernel_rfl) (by kernel_rfl) (by kernel_rfl) (fun _ _ _ h => h) (Or.inl ⟨by rfl, ?_⟩) (by assumption) ?_
  rotate_left 1
  · intro w hSw; (try dsimp only at hSw); go_simp; try with_reducible rfl
  change wpAnyH _ _ _ _ _ _ _ { tmps := #[.agg #[.int .i64 cl, .int .i64 kd, .int .u64 (fr : Int), .int .i64 tm, .int .u64 (k1 : Int), .int .u64 (k2 : Int), .int .u64 (k3 : Int), .int .i64 n, .int .i64 m, .string (S a), .string (S b), .string (S c), .slice va vl vc], .agg #[.int .i64 cl', .int .i64 kd', .int .u64 (fr' : Int), .int .i64 tm', .int .u64 (k1' : Int), .int .u64 (k2' : Int), .int .u64 (k3' : Int), .int .i64 n', .int .i64 m', .string (S a'), .string (S b'), .string (S c'), .slice va' vl' vc'], .pointer (some ⟨w.heap.size, 0, none⟩), .pointer (some ⟨w.heap.size + 1, 0, none⟩), .bool false, .agg #[.int .i64 cl, .int .i64 kd, .int .u64 (fr : Int), .int .i64 tm, .int .u64 (k1 : Int), .int .u64 (k2 : Int), .int .u64 (k3 : Int), .int .i64 n, .int .i64 m, .string (S a), .string (S b), .string (S c), .slice va vl vc], undef, .agg #[.int .i64 cl', .int .i64 kd', .int .u64 (fr' : Int), .int .i64 tm', .int .u64 (k1' : Int), .int .u64 (k2' : Int), .int .u64 (k3' : Int), .int .i64 n', .int .i64 m', .string (S a'), .string (S b'), .string (S c'), .slice va' vl' vc'], undef, undef, undef, undef, undef, undef, undef, undef, undef], defers := [] } _
  refine wpAnyH_ready (rs := [1]) (by kernel_rfl) (by simp) ?_
  refine AllReadyH.cons rfl (fun K hK => ?_) AllReadyH.nil
  go_simp
  (go_at_call_of 22 (Value.agg #[.int .i64 cl, .int .i64 kd, .int .u64 (fr : Int), .int .i64 tm, .int .u64 (k1 : Int), .int .u64 (k2 : Int), .int .u64 (k3 : Int), .int .i64 n, .int .i64 m, .string (S a), .string (S b), .string (S c), .slice va vl vc]); refine (CP _ (by first | exact Below.refl _ _ | exact (Below.refl _ _).drew | exact hX | exact hX.drew | exact below_drewN (Below.refl _ _) _)).mono ?_; rintro e u1 ⟨rfl, hX⟩; clear CP; go_wp2_with fail)
  refine hK.out _ _ (by first | go_keep | exact HS.out _ (Below.refl _ _) | exact HS.out _ (Below.refl _ _).drew | exact HS.out _ hX) (fun hHeld => ?_)
  clear hK K
  change wpAnyH _ _ _ _ _ _ _ { tmps := #[.agg #[.int .i64 cl, .int .i64 kd, .int .u64 (fr : Int), .int .i64 tm, .int .u64 (k1 : Int), .int .u64 (k2 : Int), .int .u64 (k3 : Int), .int .i64 n, .int .i64 m, .string (S a), .string (S b), .string (S c), .slice va vl vc], .agg #[.int .i64 cl', .int .i64 kd', .int .u64 (fr' : Int), .int .i64 tm', .int .u64 (k1' : Int), .int .u64 (k2' : Int), .int .u64 (k3' : Int), .int .i64 n', .int .i64 m', .string (S a'), .string (S b'), .string (S c'), .slice va' vl' vc'], .pointer (some ⟨w.heap.size, 0, none⟩), .pointer (some ⟨w.heap.size + 1, 0, none⟩), .bool false, .agg #[.int .i64 cl, .int .i64 kd, .int .u64 (fr : Int), .int .i64 tm, .int .u64 (k1 : Int), .int .u64 (k2 : Int), .int .u64 (k3 : Int), .int .i64 n, .int .i64 m, .string (S a), .string (S b), .string (S c), .slice va vl vc], P, .agg #[.int .i64 cl', .int .i64 kd', .int .u64 (fr' : Int), .int .i64 tm', .int .u64 (k1' : Int), .int .u64 (k2' : Int), .int .u64 (k3' : Int), .int .i64 n', .int .i64 m', .string (S a'), .string (S b'), .string (S c'), .slice va' vl' vc'], undef, undef, undef, undef, undef, undef, undef, undef, undef], defers := [] } _
  refine wpAnyH_ready (rs := [3]) (by kernel_rfl) (by simp) ?_
  refine AllReadyH.cons rfl (fun K hK => ?_) AllReadyH.nil
  go_simp
  (go_at_call 22; refine (CQ _ (by first | exact Below.refl _ _ | exact (Below.refl _ _).drew | exact hX | exact hX.drew | exact below_drewN (Below.refl _ _) _)).mono ?_; rintro e u1 ⟨rfl, hX⟩; (have B2 : Hid (Below w.heap.size w u1) := bel_of B1.out hX (Nat.le_refl _)); clear CQ; go_wp2_with fail)
  refine hK.out _ _ (by first | go_keep | exact HS.out _ (Below.refl _ _) | exact HS.out _ (Below.refl _ _).drew | exact HS.out _ hX) (fun hHeld => ?_)
  clear hK K
  change wpAnyH _ _ _ _ _ _ _ { tmps := #[.agg #[.int .i64 cl, .int .i64 kd, .int .u64 (fr : Int), .int .i64 tm, .int .u64 (k1 : Int), .int .u64 (k2 : Int), .int .u64 (k3 : Int), .int .i64 n, .int .i64 m, .string (S a), .string (S b), .string (S c), .slice va vl vc], .agg #[.int .i64 cl', .int .i64 kd', .int .u64 (fr' : Int), .int .i64 tm', .int .u64 (k1' : Int), .int .u64 (k2' : Int), .int .u64 (k3' : Int), .int .i64 n', .int .i64 m', .string (S a'), .string (S b'), .string (S c'), .slice va' vl' vc'], .pointer (some ⟨w.heap.size, 0, none⟩), .pointer (some ⟨w.heap.size + 1, 0, none⟩), .bool false, .agg #[.int .i64 cl, .int .i64 kd, .int .u64 (fr : Int), .int .i64 tm, .int .u64 (k1 : Int), .int .u64 (k2 : Int), .int .u64 (k3 : Int), .int .i64 n, .int .i64 m, .string (S a), .string (S b), .string (S c), .slice va vl vc], P, .agg #[.int .i64 cl', .int .i64 kd', .int .u64 (fr' : Int), .int .i64 tm', .int .u64 (k1' : Int), .int .u64 (k2' : Int), .int .u64 (k3' : Int), .int .i64 n', .int .i64 m', .string (S a'), .string (S b'), .string (S c'), .slice va' vl' vc'], Q, undef, undef, undef, undef, undef, undef, undef, undef], defers := [] } _
  refine wpAnyH_take (i := 4) (v := ?_) rfl (by kernel_rfl) (by kernel_rfl) (by kernel_rfl) (fun _ _ _ h => h) (Or.inl ⟨by rfl, ?_⟩) (by assumption) ?_
  rotate_left 1
  · intro w hSw; (try dsimp only at hSw); go_simp; try with_reducible rfl
  refine wpAnyH_take (i := 5) (v := ?_) rfl (by kernel_rfl) (by kernel_rfl) (by kernel_rfl) (fun _ _ _ h => h) (Or.inl ⟨by rfl, ?_⟩) (by assumption) ?_
  rotate_left 1
  · intro w hSw; (try dsimp only at hSw); go_simp; try with_reducible rfl
  change wpAnyH _ _ _ _ _ _ _ { tmps := #[.agg #[.int .i64 cl, .int .i64 kd, .int .u64 (fr : Int), .int .i64 tm, .int .u64 (k1 : Int), .int .u64 (k2 : Int), .int .u64 (k3 : Int), .int .i64 n, .int .i64 m, .string (S a), .string (S b), .string (S c), .slice va vl vc], .agg #[.int .i64 cl', .int .i64 kd', .int .u64 (fr' : Int), .int .i64 tm', .int .u64 (k1' : Int), .int .u64 (k2' : Int), .int .u64 (k3' : Int), .int .i64 n', .int .i64 m', .string (S a'), .string (S b'), .string (S c'), .slice va' vl' vc'], .pointer (some ⟨w.heap.size, 0, none⟩), .pointer (some ⟨w.heap.size + 1, 0, none⟩), .bool false, .agg #[.int .i64 cl, .int .i64 kd, .int .u64 (fr : Int), .int .i64 tm, .int .u64 (k1 : Int), .int .u64 (k2 : Int), .int .u64 (k3 : Int), .int .i64 n, .int .i64 m, .string (S a), .string (S b), .string (S c), .slice va vl vc], P, .agg #[.int .i64 cl', .int .i64 kd', .int .u64 (fr' : Int), .int .i64 tm', .int .u64 (k1' : Int), .int .u64 (k2' : Int), .int .u64 (k3' : Int), .int .i64 n', .int .i64 m', .string (S a'), .string (S b'), .string (S c'), .slice va' vl' vc'], Q, .bool false, .bool false, undef, undef, undef, undef, undef, undef], defers := [] } _
  refine wpAnyH_take (i := 6) (v := undef) rfl (by kernel_rfl) (by kernel_rfl) (by kernel_rfl) (fun _ _ _ h => h) (Or.inr ⟨by rfl, rfl⟩) (by assumption) ?_
  refine wpAnyH_take (i := 7) (v := undef) rfl (by kernel_rfl) (by kernel_rfl) (by kernel_rfl) (fun _ _ _ h => h) (Or.inr ⟨by rfl, rfl⟩) (by assumption) ?_
  refine wpAnyH_take (i := 8) (v := undef) rfl (by kernel_rfl) (by kernel_rfl) (by kernel_rfl) (fun _ _ _ h => h) (Or.inr ⟨by rfl, rfl⟩) (by assumption) ?_
  refine wpAnyH_take (i := 9) (v := undef) rfl (by kernel_rfl) (by kernel_rfl) (by kernel_rfl) (fun _ _ _ h => h) (Or.inr ⟨by rfl, rfl⟩) (by assumption) ?_
  refine wpAnyH_take (i := 10) (v := undef) rfl (by kernel_rfl) (by kernel_rfl) (by kernel_rfl) (fun _ _ _ h => h) (Or.inr ⟨by rfl, rfl⟩) (by assumption) ?_
  change wpAnyH _ _ _ _ _ _ _ { tmps := #[.agg #[.int .i64 cl, .int .i64 kd, .int .u64 (fr : Int), .int .i64 tm, .int .u64 (k1 : Int), .int .u64 (k2 : Int), .int .u64 (k3 : Int), .int .i64 n, .int .i64 m, .string (S a), .string (S b), .string (S c), .slice va vl vc], .agg #[.int .i64 cl', .int .i64 kd', .int .u64 (fr' : Int), .int .i64 tm', .int .u64 (k1' : Int), .int .u64 (k2' : Int), .int .u64 (k3' : Int), .int .i64 n', .int .i64 m', .string (S a'), .string (S b'), .string (S c'), .slice va' vl' vc'], .pointer (some ⟨w.heap.size, 0, none⟩), .pointer (some ⟨w.heap.size + 1, 0, none⟩), .bool false, .agg #[.int .i64 cl, .int .i64 kd, .int .u64 (fr : Int), .int .i64 tm, .int .u64 (k1 : Int), .int .u64 (k2 : Int), .int .u64 (k3 : Int), .int .i64 n, .int .i64 m, .string (S a), .string (S b), .string (S c), .slice va vl vc], P, .agg #[.int .i64 cl', .int .i64 kd', .int .u64 (fr' : Int), .int .i64 tm', .int .u64 (k1' : Int), .int .u64 (k2' : Int), .int .u64 (k3' : Int), .int .i64 n', .int .i64 m', .string (S a'), .string (S b'), .string (S c'), .slice va' vl' vc'], Q, .bool false, .bool false, undef, undef, undef, undef, undef, undef], defers := [] } _
  refine wpAnyH_take (i := 11) (v := ?_) rfl (by kernel_rfl) (by kernel_rfl) (by kernel_rfl) (fun _ _ _ h => h) (Or.inl ⟨by rfl, ?_⟩) (by assumption) ?_
  rotate_left 1
  · intro w hSw; (try dsimp only at hSw); go_simp; try with_reducible rfl
  refine wpAnyH_take (i := 12) (v := ?_) rfl (by kernel_rfl) (by kernel_rfl) (by kernel_rfl) (fun _ _ _ h => h) (Or.inl ⟨by rfl, ?_⟩) (by assumption) ?_
  rotate_left 1
  · intro w hSw; (try dsimp only at hSw); go_simp; try with_reducible rfl
  refine wpAnyH_done (by kernel_rfl) ?_ _
  go_wp2
  go_ret
  exact ⟨rfl, B2.out⟩
end Go.Proofs.Ytippnkendoghpaa.r12

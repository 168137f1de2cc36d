/-
  Ranges of keys and cells: over two lists (Over), and Keep by nil.
-/
import Derived.Test.YtiaeicfmdnmeeaaH7Ord
import Derived.Deep.DeepAppendWide
namespace Go.Proofs.Ytiaeicfmdnmeeaa
open Go.RowKit Go.Shelf Go.Sort
open Go.Lib hiding intOf

attribute [local go_sem] Oper.semAt_some

/-- the cells of keys, and of cells -/
def kcs (l : List R7) : List Value := l.map (fun x => .string (S x.1))
def ccs (l : List R7) : List Value := l.flatMap (fun x => [.string (S x.2.1), .bool x.2.2])
theorem kcs_length (l : List R7) : (kcs l).length = l.length := by simp [kcs]
theorem ccs_length (l : List R7) : (ccs l).length = l.length * 2 := by
  induction l with
  | nil => rfl
  | cons x t ih => simp only [ccs, List.flatMap_cons, List.length_append, List.length_cons] at ih ⊢; rw [ih]; simp; omega
theorem kcs_snoc (l : List R7) (x : R7) : kcs (l ++ [x]) = kcs l ++ [.string (S x.1)] := by simp [kcs]
theorem ccs_snoc (l : List R7) (x : R7) : ccs (l ++ [x]) = ccs l ++ [.string (S x.2.1), .bool x.2.2] := by simp [ccs]
theorem kcs_get {l : List R7} {k : Nat} (h : k < l.length) : (kcs l)[k]? = some (.string (S l[k].1)) := by simp [kcs, h]
theorem ccs_get : ∀ {l : List R7} {k : Nat} (h : k < l.length), (ccs l)[k * 2]? = some (.string (S l[k].2.1)) ∧ (ccs l)[k * 2 + 1]? = some (.bool l[k].2.2)
  | x :: t, 0, _ => by simp [ccs]
  | x :: t, k + 1, h => by
    have := @ccs_get t k (by simpa using h)
    have e : ccs (x :: t) = .string (S x.2.1) :: .bool x.2.2 :: ccs t := by simp [ccs]
    rw [e, show (k + 1) * 2 = k * 2 + 2 by omega]
    simpa using this
theorem kcs_one (l : List R7) : ∀ v ∈ kcs l, v.oneCell' = true := by
  intro v hv
  obtain ⟨x, _, rfl⟩ := List.mem_map.1 hv
  rfl
theorem ccs_one (l : List R7) : ∀ v ∈ ccs l, v.oneCell' = true := by
  intro v hv
  obtain ⟨x, _, hx⟩ := List.mem_flatMap.1 hv
  simp at hx
  rcases hx with rfl | rfl <;> rfl
/-- two lists of them in memory -/
def KC (w : World) (base : Nat) (kv vv : Value) (l : List R7) : Prop := w.ownsRow base 9 1 kv l.length (kcs l) ∧ w.ownsRow base 37 2 vv l.length (ccs l)
theorem infoCell : (Try.prog.info? 37).map (fun i => (i.zero, i.size, i.bytes)) = some (some (.agg #[.string ⟨#[]⟩, .bool false]), 2, 24) := by kernel_rfl

/-- the blocks of a range over two lists -/
def Xo (bk bv : Nat) (kv vv : Value) (k : Nat) : Prop := k = bk ∨ k = bv ∨ kv.ownBlock = some k ∨ vv.ownBlock = some k

theorem take_snoc {l : List R7} {k : Nat} (h : k < l.length) : l.take k ++ [l[k]] = l.take (k + 1) := (List.take_succ_eq_append_getElem h).symm
theorem take_pre {l : List R7} {k : Nat} (h : k < l.length) : l.take k ++ [l[k]] <+: l := by rw [take_snoc h]; exact List.take_prefix _ _

set_option maxRecDepth 100000 in
set_option maxHeartbeats 2000000 in
theorem over1_runs {W1 : World} {bk bv base : Nat} {kv vv : Value} {l : List R7} (hbk : Bx W1 bk kv 44) (hbv : Bx W1 bv vv 45) (hKC : KC W1 base kv vv l) (hl : l.length < 4611686018427387904) : Runs encc 36 #[.pointer (some ⟨bk, 0, none⟩), .pointer (some ⟨bv, 0, none⟩)] l (Xo bk bv kv vv) W1 := by
  intro y J Jx hC
  have hst := hC.start W1 (Below.refl _ _)
  have h0 := hbk.cell
  obtain ⟨ka, kc, rfl, -⟩ := row_slice hKC.1
  obtain ⟨va, vc, rfl, -⟩ := row_slice hKC.2
  have HK : Hid (KC W1 base (.slice ka l.length kc) (.slice va l.length vc) l) := hKC
  clear hKC
  refine (callsIn_wide (n := 9)).1 ?_
  refine callsIn_of_wp Try.func36 rfl trivial ?_ rfl
  simp only [Try.ntmps36, List.size_toArray, List.length_cons, List.length_nil, Nat.reduceAdd, Nat.reduceSub, Array.replicate_succ, Array.replicate_zero, List.push_toArray, List.append_toArray, List.nil_append, List.cons_append]
  rcases id hC.yk with ⟨ly, rfl⟩ | ⟨gf, caps, rfl, eg⟩
  · have HC : Hid _ := hC
    clear hC
    skip
    gi_wp2
    gi_loopw [8] (fun i wr => ∃ k : Nat, k ≤ l.length ∧ i = .int .i64 k ∧ J W1.heap.size (l.take k) wr ∧ Kq (Xo bk bv (.slice ka l.length kc) (.slice va l.length vc)) W1 wr) (fun i _ => l.length - (intOf i).toNat)
    case atStart => exact ⟨0, Nat.zero_le _, rfl, hst, Kq.refl _ _⟩
    case round =>
      obtain ⟨k, hk, rfl, hJ, hq⟩ := hrel
      by_cases hlt : k < l.length
      · obtain ⟨g1, hg1⟩ : ∃ g, ka = some ⟨g, 0, none⟩ := by
          rcases HK.out.1.2 with ⟨e, h0⟩ | ⟨g, cap', cur, e, -⟩
          · omega
          · cases e; exact ⟨g, rfl⟩
        obtain ⟨g2, hg2⟩ : ∃ g, va = some ⟨g, 0, none⟩ := by
          rcases HK.out.2.2 with ⟨e, h0⟩ | ⟨g, cap', cur, e, -⟩
          · omega
          · cases e; exact ⟨g, rfl⟩
        subst hg1 hg2
        have m1 := kq_cell hq (p := ⟨g1, k, none⟩) (.inr (.inr (.inl rfl))) (row_cell HK.out.1 (kcs_get hlt))
        have m2 := kq_cell hq (p := ⟨g2, k * 2, none⟩) (.inr (.inr (.inr rfl))) (row_cell HK.out.2 (ccs_get hlt).1)
        have m2' := kq_cell hq (p := ⟨g2, k * 2 + 1, none⟩) (.inr (.inr (.inr rfl))) (row_cell HK.out.2 (ccs_get hlt).2)
        have m3 := (kq_bx hq (.inr (.inl rfl)) hbv).cell
        have hY := HC.out.go W1.heap.size (l.take k) l[k] wr wr hJ (Sb.of_below (Below.refl _ _)) (take_pre hlt)
        rw [take_snoc hlt] at hY
        obtain ⟨fn, tmps, assign, body, hy, hR⟩ := hY.yield
        simp only [encc, cv] at hy
        have HR : Hid _ := hR
        clear hR hY
        have hki : (k : Int) < (l.length : Int) := by omega
        clear hJ
        gi_wp2
        refine (HR.out _).mono ?_
        rintro e W3 ⟨hkf, hk3, ⟨rfl, hJ3⟩ | ⟨rfl, hJ3⟩⟩
        · have hnx3 := hq.trans (hk3.sub (fun k hk => .inl hk))
          gi_wp2
          go_roundw
          case rel => exact ⟨k + 1, by omega, by simp, hJ3, hnx3⟩
          case measure => simp [intOf]; omega
        · gi_wp2
          refine bodyPost_ret (results_none rfl _ _ _) rfl ?_
          exact ⟨⟨_, rfl⟩, .inr ⟨_, _, hJ3⟩⟩
      · obtain rfl : k = l.length := by omega
        rw [List.take_length] at hJ
        gi_wp2
        go_end0
        exact ⟨⟨_, rfl⟩, .inl ⟨_, hJ⟩⟩
  · have HC : Hid _ := hC
    clear hC
    unfold Ent0 at eg
    gi_wp2
    gi_loopw [8] (fun i wr => ∃ k : Nat, k ≤ l.length ∧ i = .int .i64 k ∧ J W1.heap.size (l.take k) wr ∧ Kq (Xo bk bv (.slice ka l.length kc) (.slice va l.length vc)) W1 wr) (fun i _ => l.length - (intOf i).toNat)
    case atStart => exact ⟨0, Nat.zero_le _, rfl, hst, Kq.refl _ _⟩
    case round =>
      obtain ⟨k, hk, rfl, hJ, hq⟩ := hrel
      by_cases hlt : k < l.length
      · obtain ⟨g1, hg1⟩ : ∃ g, ka = some ⟨g, 0, none⟩ := by
          rcases HK.out.1.2 with ⟨e, h0⟩ | ⟨g, cap', cur, e, -⟩
          · omega
          · cases e; exact ⟨g, rfl⟩
        obtain ⟨g2, hg2⟩ : ∃ g, va = some ⟨g, 0, none⟩ := by
          rcases HK.out.2.2 with ⟨e, h0⟩ | ⟨g, cap', cur, e, -⟩
          · omega
          · cases e; exact ⟨g, rfl⟩
        subst hg1 hg2
        have m1 := kq_cell hq (p := ⟨g1, k, none⟩) (.inr (.inr (.inl rfl))) (row_cell HK.out.1 (kcs_get hlt))
        have m2 := kq_cell hq (p := ⟨g2, k * 2, none⟩) (.inr (.inr (.inr rfl))) (row_cell HK.out.2 (ccs_get hlt).1)
        have m2' := kq_cell hq (p := ⟨g2, k * 2 + 1, none⟩) (.inr (.inr (.inr rfl))) (row_cell HK.out.2 (ccs_get hlt).2)
        have m3 := (kq_bx hq (.inr (.inl rfl)) hbv).cell
        have hY := HC.out.go W1.heap.size (l.take k) l[k] wr wr hJ (Sb.of_below (Below.refl _ _)) (take_pre hlt)
        rw [take_snoc hlt] at hY
        have hc := hY.func
        simp only [encc, cv] at hc
        clear hY
        have hki : (k : Int) < (l.length : Int) := by omega
        clear hJ
        gi_wp2
        refine ⟨trivial, ?_⟩
        refine (callsIn_wide.2 hc).mono ?_
        rintro e W3 ⟨hkf, hk3, ⟨rfl, hJ3⟩ | ⟨rfl, hJ3⟩⟩
        · have hnx3 := hq.trans (hk3.sub (fun k hk => .inl hk))
          gi_wp2
          go_roundw
          case rel => exact ⟨k + 1, by omega, by simp, hJ3, hnx3⟩
          case measure => simp [intOf]; omega
        · gi_wp2
          refine bodyPost_ret (results_none rfl _ _ _) rfl ?_
          exact ⟨⟨_, rfl⟩, .inr ⟨_, _, hJ3⟩⟩
      · obtain rfl : k = l.length := by omega
        rw [List.take_length] at hJ
        gi_wp2
        go_end0
        exact ⟨⟨_, rfl⟩, .inl ⟨_, hJ⟩⟩

/-- a range over two lists, as a value -/
theorem over1_sq {w : World} {bk bv base : Nat} {kv vv : Value} {l : List R7} (hbk : Bx w bk kv 44) (hbv : Bx w bv vv 45) (hKC : KC w base kv vv l) (hl : l.length < 4611686018427387904) :
    Sq encc w (.func (.func 36) #[] #[.pointer (some ⟨bk, 0, none⟩), .pointer (some ⟨bv, 0, none⟩)]) l (Xo bk bv kv vv) := by
  refine ⟨_, _, rfl, enters_of Try.func36 (by kernel_rfl) rfl, ?_, fun W1 hk => ?_⟩
  · rintro k (rfl | rfl | h | h)
    · exact hbk.lt
    · exact hbv.lt
    · obtain ⟨_, cur, hx⟩ := row_obj hKC.1 h; exact (Array.getElem?_eq_some_iff.1 hx).1
    · obtain ⟨_, cur, hx⟩ := row_obj hKC.2 h; exact (Array.getElem?_eq_some_iff.1 hx).1
  · exact over1_runs (base := base) (kq_bx hk (.inl rfl) hbk) (kq_bx hk (.inr (.inl rfl)) hbv) ⟨kq_row hk hKC.1 (fun k h => .inr (.inr (.inl h))), kq_row hk hKC.2 (fun k h => .inr (.inr (.inr h)))⟩ hl

theorem fitS (n : Nat) (h : n * 16 ≤ 211106232528000) : (n + n / 4 + 192) * 16 ≤ 281474976710656 := by omega
theorem fitC (n : Nat) (h : n * 24 ≤ 211106232528000) : (n + n / 4 + 192) * 24 ≤ 281474976710656 := by omega

set_option maxHeartbeats 4000000 in
set_option maxRecDepth 100000 in
/-- slices.Clone -/
theorem cloneStr_any {w : World} {sv : Value} {n base : Nat} {cs : List Value} (hrow : w.ownsRow base 9 1 sv n cs) (h1c : ∀ v ∈ cs, v.oneCell' = true) (hbig : n * 16 ≤ 211106232528000) :
    Calls Try.prog 34 #[sv] w fun e w' => ∃ v', e = .returned v' ∧ w'.ownsRow w.heap.size 9 1 v' n cs ∧ Below w.heap.size w w' := by
  obtain ⟨i0, hi, hz0, hz1, hz2⟩ := info_parts infoStr
  have heq := fun (w : World) a n c => run_eql_slice_nil (P := Try.prog) w 44 9 a n c 0 0 Try.underlying44
  have hlen := hrow.1
  rcases hrow.2 with ⟨rfl, h0⟩ | ⟨g, cap, cur, rfl, _, hg, hnc, hcm, hcs, htake⟩
  · subst h0
    have hc0 : cs = [] := List.eq_nil_of_length_eq_zero (by simpa using hlen)
    subst hc0
    clear hrow hlen h1c
    go_enter Try.func34, Try.ntmps34
    go_wp2
    go_ret
    exact ⟨_, rfl, World.ownsRow_nil _ _ _ _, Below.refl _ _⟩
  · have R : Hid (w.ownsRow base 9 1 (.slice (some ⟨g, 0, none⟩) n cap) n cs) := hrow
    clear hrow hg hcs htake
    have hB : Below w.heap.size w (w.alloc (.cells #[] 9)) := (Below.refl _ w).alloc (Nat.le_refl _) _
    have hlit := World.ownsRow_lit (base := w.heap.size) (e := 9) (size := 1) w #[] 0 (Nat.le_refl _) (Nat.zero_le _) rfl
    obtain ⟨v', w1, hrun, h2, h3, _⟩ := run_append_own_wide (P := Try.prog) (w.alloc (.cells #[] 9)) w.heap.size 44 44 9 i0 _ 1 16 Try.underlying44 hi hz0 hz1 hz2 rfl (by decide) _ 0 _ hlit ⟨g, 0, none⟩ n cap cs hlen
      (fun j u hj => by rw [Addr.add_lit, Nat.zero_add]; exact row_cell (R.out.alloc _) hj) h1c (by unfold maxLen; omega) (by rw [Nat.zero_add]; exact fitS _ hbig) (by simp)
    have E : Hid (w1.ownsRow w.heap.size 9 1 v' (0 + n) (#[].toList ++ cs) ∧ Below w.heap.size w w1) := ⟨h2, hB.grown h3 (by simp) (fun k hk => by cases hk; exact Nat.le_refl _)⟩
    clear h2 h3 hlit hB hlen h1c
    go_enter Try.func34, Try.ntmps34
    go_wp2_with (at_builtin; refine Lib.wpList_append_run _ rfl _ _ _ _ rfl _ _ rfl rfl _ _ hrun ?_)
    go_ret
    obtain ⟨h2, hB⟩ := E.out
    simp only [Nat.zero_add, List.nil_append] at h2
    exact ⟨_, rfl, h2, hB⟩

set_option maxHeartbeats 4000000 in
set_option maxRecDepth 100000 in
/-- slices.Clone -/
theorem cloneCell_any {w : World} {sv : Value} {n base : Nat} {cs : List Value} (hrow : w.ownsRow base 37 2 sv n cs) (h1c : ∀ v ∈ cs, v.oneCell' = true) (hbig : n * 24 ≤ 211106232528000) :
    Calls Try.prog 35 #[sv] w fun e w' => ∃ v', e = .returned v' ∧ w'.ownsRow w.heap.size 37 2 v' n cs ∧ Below w.heap.size w w' := by
  obtain ⟨i0, hi, hz0, hz1, hz2⟩ := info_parts infoCell
  have heq := fun (w : World) a n c => run_eql_slice_nil (P := Try.prog) w 45 37 a n c 0 0 Try.underlying45
  have hlen := hrow.1
  rcases hrow.2 with ⟨rfl, h0⟩ | ⟨g, cap, cur, rfl, _, hg, hnc, hcm, hcs, htake⟩
  · subst h0
    have hc0 : cs = [] := List.eq_nil_of_length_eq_zero (by simpa using hlen)
    subst hc0
    clear hrow hlen h1c
    go_enter Try.func35, Try.ntmps35
    go_wp2
    go_ret
    exact ⟨_, rfl, World.ownsRow_nil _ _ _ _, Below.refl _ _⟩
  · have R : Hid (w.ownsRow base 37 2 (.slice (some ⟨g, 0, none⟩) n cap) n cs) := hrow
    clear hrow hg hcs htake
    have hB : Below w.heap.size w (w.alloc (.cells #[] 37)) := (Below.refl _ w).alloc (Nat.le_refl _) _
    have hlit := World.ownsRow_lit (base := w.heap.size) (e := 37) (size := 2) w #[] 0 (Nat.le_refl _) (Nat.zero_le _) rfl
    obtain ⟨v', w1, hrun, h2, h3, _⟩ := run_append_own_wide (P := Try.prog) (w.alloc (.cells #[] 37)) w.heap.size 45 45 37 i0 _ 2 24 Try.underlying45 hi hz0 hz1 hz2 rfl (by decide) _ 0 _ hlit ⟨g, 0, none⟩ n cap cs hlen
      (fun j u hj => by rw [Addr.add_lit, Nat.zero_add]; exact row_cell (R.out.alloc _) hj) h1c (by unfold maxLen; omega) (by rw [Nat.zero_add]; exact fitC _ hbig) (by simp)
    have E : Hid (w1.ownsRow w.heap.size 37 2 v' (0 + n) (#[].toList ++ cs) ∧ Below w.heap.size w w1) := ⟨h2, hB.grown h3 (by simp) (fun k hk => by cases hk; exact Nat.le_refl _)⟩
    clear h2 h3 hlit hB hlen h1c
    go_enter Try.func35, Try.ntmps35
    go_wp2_with (at_builtin; refine Lib.wpList_append_run _ rfl _ _ _ _ rfl _ _ rfl rfl _ _ hrun ?_)
    go_ret
    obtain ⟨h2, hB⟩ := E.out
    simp only [Nat.zero_add, List.nil_append] at h2
    exact ⟨_, rfl, h2, hB⟩

/-- what stands when both lists have been cloned -/
def OvQ (w : World) (l : List R7) : Exit → Act → World → Prop
  | .normal, a, W => (∃ x0 x1 x4 x5 x6 x7 x8 x9 x10 x11 x12 x13 x14 x15 x16 x17 x18 x19, a = { tmps := #[x0, x1, .pointer (some ⟨w.heap.size, 0, none⟩), .pointer (some ⟨w.heap.size + 1, 0, none⟩), x4, x5, x6, x7, x8, x9, x10, x11, x12, x13, x14, x15, x16, x17, x18, x19], defers := [] }) ∧ ∃ kv vv, Bx W w.heap.size kv 44 ∧ Bx W (w.heap.size + 1) vv 45 ∧ KC W (w.heap.size + 1 + 1) kv vv l ∧ Below w.heap.size w W
  | _, _, _ => False

set_option maxRecDepth 100000 in
set_option maxHeartbeats 4000000 in
theorem Over_any {w : World} {b1 b2 : Nat} {kv vv : Value} {l : List R7} (hk : w.ownsRow b1 9 1 kv l.length (kcs l)) (hv : w.ownsRow b2 37 2 vv l.length (ccs l)) (hn : l.length * 24 ≤ 211106232528000) :
    Calls Try.prog 15 #[kv, vv] w fun e w' => ∃ f X, e = .returned f ∧ Sq encc w' f l X ∧ (∀ k, X k → w.heap.size ≤ k) ∧ Below w.heap.size w w' := by
  have hmf : ∀ (fn : Fn) (first cap : Array Value) (w : World), (Instr.makeFunc fn first cap).run Try.prog w = .ok (.func fn first cap) w := fun _ _ _ _ => rfl
  obtain ⟨ka, kc, rfl, -, hnc, hkc⟩ := row_slice hk
  obtain ⟨va, vc, rfl, -, hmc, hvc⟩ := row_slice hv
  have hmin : min (l.length : Int) (l.length : Int) = (l.length : Int) := by omega
  obtain ⟨W2, hW2⟩ : ∃ W2, W2 = (w.alloc (.cells #[.slice ka l.length kc] 44)).alloc (.cells #[.slice va l.length vc] 45) := ⟨_, rfl⟩
  have hs2 : W2.heap.size = w.heap.size + 1 + 1 := by rw [hW2]; simp
  have hB2 : Below w.heap.size w W2 := by rw [hW2]; exact ((Below.refl _ w).alloc (Nat.le_refl _) _).alloc (by simp) _
  have bk2 : Bx W2 w.heap.size (.slice ka l.length kc) 44 := by rw [hW2]; exact (Bx.new w _ _).alloc _
  have bv2 : Bx W2 (w.heap.size + 1) (.slice va l.length vc) 45 := by
    rw [hW2]
    have := Bx.new (w.alloc (.cells #[.slice ka l.length kc] 44)) (.slice va l.length vc) 45
    rwa [World.size_alloc] at this
  have c1 := bk2.cell
  have c2 := bv2.cell
  have hk2 : W2.ownsRow b1 9 1 (.slice ka l.length kc) l.length (kcs l) := (show Ch (fun _ => False) w W2 from Ch.of_below hB2).row hk (fun _ _ => id)
  have hv2 : W2.ownsRow b2 37 2 (.slice va l.length vc) l.length (ccs l) := (show Ch (fun _ => False) w W2 from Ch.of_below hB2).row hv (fun _ _ => id)
  have hlk : (l.length : Int) ≤ (kc : Int) := by omega
  have hlv : (l.length : Int) ≤ (vc : Int) := by omega
  have hlk' : l.length ≤ kc := by omega
  have hlv' : l.length ≤ vc := by omega
  have bn1 : l.length * 16 ≤ 211106232528000 := by omega
  have bn2 : l.length * 24 ≤ 211106232528000 := hn
  have HK : Hid (W2.ownsRow b1 9 1 (.slice ka l.length kc) l.length (kcs l)) := hk2
  have HV : Hid (W2.ownsRow b2 37 2 (.slice va l.length vc) l.length (ccs l)) := hv2
  have fin : Hid (∀ (W : World) (kv vv : Value), Bx W w.heap.size kv 44 → Bx W (w.heap.size + 1) vv 45 → KC W (w.heap.size + 1 + 1) kv vv l → Below w.heap.size w W → ∃ X, Sq encc W (.func (.func 36) #[] #[.pointer (some ⟨w.heap.size, 0, none⟩), .pointer (some ⟨w.heap.size + 1, 0, none⟩)]) l X ∧ (∀ k, X k → w.heap.size ≤ k)) := fun W kv vv a1 a2 a3 a4 => by
    refine ⟨_, over1_sq a1 a2 a3 (by omega), ?_⟩
    rintro k (rfl | rfl | h | h)
    · exact Nat.le_refl _
    · omega
    · have := (row_obj a3.1 h).1; omega
    · have := (row_obj a3.2 h).1; omega
  clear hk hv hk2 hv2
  go_enter Try.func15, Try.ntmps15
  go_wp2_with fail
  rw [← hW2]
  clear hW2
  refine Code.wp_mono (Q := OvQ w l) ?_ ?reg
  case reg =>
    go_region_with (first
      | (go_at_call 34; refine (cloneStr_any (w := W2.drew) (base := b1) HK.out (kcs_one l) bn1).mono ?_; rintro e w3 ⟨k', rfl, hk3, hB3⟩; obtain ⟨ka', kc', rfl, -⟩ := row_slice hk3; have HK3 : Hid _ := hk3; clear hk3; have d1 := Bx.below (w := W2.drew) bk2 hB3 bk2.lt; have d2 := Bx.below (w := W2.drew) bv2 hB3 bv2.lt; have e1 := d1.cell; have e2 := d2.cell)
      | (go_at_call 35; refine (cloneCell_any (base := b2) ((show Ch (fun _ => False) W2 w3 from Ch.of_below ⟨hB3.os, hB3.tape, hB3.output, hB3.size, hB3.block⟩).row HV.out (fun _ _ => id)) (ccs_one l) bn2).mono ?_; rintro e w4 ⟨v', rfl, hv4, hB4⟩; obtain ⟨va', vc', rfl, -⟩ := row_slice hv4; have HV4 : Hid _ := hv4; clear hv4; have d3 := d1.below hB4 d1.lt; have d4 := d2.below hB4 d2.lt; have e3 := d3.cell; have e4 := d3.fro; have d5 : ∀ u, Bx (w4.setCell ⟨w.heap.size, 0, none⟩ u) (w.heap.size + 1) _ _ := fun u => d4.ch ((Ch.refl (fun k => k = w.heap.size) w4).setCell ⟨w.heap.size, 0, none⟩ u (fun _ => rfl)) (by omega); have e5 := fun u => (d5 u).cell; have e6 := fun u => (d5 u).fro))
    all_goals
      have hB3' : Below W2.heap.size W2 w3 := ⟨hB3.os, hB3.tape, hB3.output, hB3.size, hB3.block⟩
      have hk4 := (show Ch (fun _ => False) w3 w4 from Ch.of_below hB4).row HK3.out (fun _ _ => id)
      have hv4 := HV4.out
      have hs3 := hB3'.size
      have hc5 : Ch (fun k => k = w.heap.size ∨ k = w.heap.size + 1) w4 ((w4.setCell ⟨w.heap.size, 0, none⟩ (.slice ka' l.length kc')).setCell ⟨w.heap.size + 1, 0, none⟩ (.slice va' l.length vc')) := ((Ch.refl _ w4).setCell _ _ (fun _ => .inl rfl)).setCell _ _ (fun _ => .inr rfl)
      have hlow : ∀ {B z : Nat} {e : TypeId} {v : Value} {xs : List Value}, w4.ownsRow B e z v l.length xs → W2.heap.size ≤ B → World.ownsRow ((w4.setCell ⟨w.heap.size, 0, none⟩ (.slice ka' l.length kc')).setCell ⟨w.heap.size + 1, 0, none⟩ (.slice va' l.length vc')) (w.heap.size + 1 + 1) e z v l.length xs := fun h hB => row_low (hc5.row h (fun k hk hx => by have := (row_obj h hk).1; omega)) (by omega)
      refine ⟨⟨_, _, _, _, _, _, _, _, _, _, _, _, _, _, _, _, _, _, rfl⟩, _, _, (one0 d3 _).ch ((Ch.refl (fun k => k = w.heap.size + 1) _).setCell _ _ (fun _ => rfl)) (by omega), one0 (d5 _) _, ⟨hlow hk4 (Nat.le_refl _), hlow hv4 hs3⟩, ?_⟩
      exact ((hB2.trans (hB3'.mono (by omega))).trans (hB4.mono (by omega))).trans (hc5.below (by have := hB4.size; omega) (fun k hk hx => by omega))
  · rintro e a W hq
    cases e with
    | normal =>
      obtain ⟨⟨x0, x1, x4, x5, x6, x7, x8, x9, x10, x11, x12, x13, x14, x15, x16, x17, x18, x19, rfl⟩, kv, vv, q1, q2, q3, q4⟩ := hq
      have HF : Hid _ := fin.out W kv vv q1 q2 q3 q4
      clear q1 q2 q3
      go_wp2
      go_ret
      obtain ⟨X, f1, f2⟩ := HF.out
      exact ⟨_, X, rfl, f1, f2, q4⟩
    | _ => exact hq.elim

set_option maxHeartbeats 1000000 in
/-- Keep, by nil: over all -/
theorem Keep_nil {w : World} {sv : Value} {l : List R7} {X : Nat → Prop} (hS : Sn w sv l X) :
    Calls Try.prog 31 #[sv, .nilFunc] w fun e w' => ∃ f Y, e = .returned f ∧ Sq encc w' f l Y ∧ (∀ k, Y k → X k ∨ w.heap.size ≤ k) ∧ Below w.heap.size w w' := by
  have hnf := nil_fun
  obtain ⟨W2, hW2⟩ : ∃ W2, W2 = (w.alloc (.cells #[sv] 48)).alloc (.cells #[.nilFunc] 88) := ⟨_, rfl⟩
  have hs2 : W2.heap.size = w.heap.size + 1 + 1 := by rw [hW2]; simp
  have hB2 : Below w.heap.size w W2 := by rw [hW2]; exact ((Below.refl _ w).alloc (Nat.le_refl _) _).alloc (by simp) _
  have bs2 : Bx W2 w.heap.size sv 48 := by rw [hW2]; exact (Bx.new w _ _).alloc _
  have bk2 : Bx W2 (w.heap.size + 1) .nilFunc 88 := by
    rw [hW2]
    have := Bx.new (w.alloc (.cells #[sv] 48)) .nilFunc 88
    rwa [World.size_alloc] at this
  have hc1 := bk2.cell
  have hc2 := bs2.cell
  have HO : Hid _ := orderly_any (hS.below hB2)
  rw [hW2] at hc1 hc2
  clear bs2 bk2
  rcases hS.form with rfl | ⟨gf, lb, rfl⟩
  all_goals
    go_enter Try.func31, Try.ntmps31
    go_wp2_with (first
      | (go_at_call 50; rw [← hW2]; refine Calls.mono HO.out ?_; rintro e w3 ⟨f, rfl, hSf, hB3⟩; have HSf : Hid _ := hSf; obtain ⟨gf', lb', rfl, -⟩ := hSf))
    go_ret
    exact ⟨_, _, rfl, HSf.out, fun k hk => hk.imp id (fun e => by omega), hB2.trans (hB3.mono (by omega))⟩
end Go.Proofs.Ytiaeicfmdnmeeaa

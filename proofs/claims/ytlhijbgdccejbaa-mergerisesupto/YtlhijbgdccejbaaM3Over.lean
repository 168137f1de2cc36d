/-
  A range over two lists (Over), and the law's own range over rows (over).
-/
import Derived.Test.YtlhijbgdccejbaaM3Ord
import Derived.Test.YtlhijbgdccejbaaM3Same
import Derived.Deep.DeepAppendWide
namespace Go.Proofs.Ytlhijbgdccejbaa
open Go.RowKit Go.Shelf Go.Sort
open Go.Lib hiding intOf

attribute [local go_sem] Oper.semAt_some

/-- the blocks of a range over two lists -/
def Xo (bk bv : Nat) (kv vv : Value) (k : Nat) : Prop := k = bk ∨ k = bv ∨ kv.ownBlock = some k ∨ vv.ownBlock = some k

theorem take_snoc {l : List Ent} {k : Nat} (h : k < l.length) : l.take k ++ [l[k]] = l.take (k + 1) := (List.take_succ_eq_append_getElem h).symm
theorem take_pre {l : List Ent} {k : Nat} (h : k < l.length) : l.take k ++ [l[k]] <+: l := by rw [take_snoc h]; exact List.take_prefix _ _

set_option maxRecDepth 100000 in
set_option maxHeartbeats 2000000 in
theorem over1_runs {W1 : World} {bk bv base : Nat} {kv vv : Value} {l : List Ent} (hbk : Bx W1 bk kv 45) (hbv : Bx W1 bv vv 46) (hKV : KV W1 base kv vv l) (hl : l.length < 4611686018427387904) : Runs 30 #[.pointer (some ⟨bk, 0, none⟩), .pointer (some ⟨bv, 0, none⟩)] l (Xo bk bv kv vv) W1 := by
  intro y J Jx hC
  have hst := hC.start W1 (Below.refl _ _)
  have h0 := hbk.cell
  obtain ⟨ka, kc, rfl, -⟩ := row_slice hKV.1
  obtain ⟨va, vc, rfl, -⟩ := row_slice hKV.2
  have HK : Hid (KV W1 base (.slice ka l.length kc) (.slice va l.length vc) l) := hKV
  clear hKV
  refine (callsIn_wide (n := 9)).1 ?_
  refine callsIn_of_wp Try.func30 rfl trivial ?_ rfl
  simp only [Try.ntmps30, List.size_toArray, List.length_cons, List.length_nil, Nat.reduceAdd, Nat.reduceSub, Array.replicate_succ, Array.replicate_zero, List.push_toArray, List.append_toArray, List.nil_append, List.cons_append]
  rcases id hC.yk with ⟨ly, rfl⟩ | ⟨gf, caps, rfl, eg⟩
  · have HC : Hid _ := hC
    clear hC
    skip
    gi_wp2
    gi_loopw [8] (fun i wr => ∃ k : Nat, k ≤ l.length ∧ i = .int .i64 k ∧ J W1.heap.size (l.take k) wr ∧ Kq (Xo bk bv (.slice ka l.length kc) (.slice va l.length vc)) W1 wr) (fun i _ => l.length - (intOf i).toNat)
    case atStart => exact ⟨0, Nat.zero_le _, rfl, hst, Kq.refl _ _⟩
    case round =>
      obtain ⟨k, hk, rfl, hJ, hq⟩ := hrel
      by_cases hlt : k < l.length
      · obtain ⟨g1, hg1⟩ : ∃ g, ka = some ⟨g, 0, none⟩ := by
          rcases HK.out.1.2 with ⟨e, h0⟩ | ⟨g, cap', cur, e, -⟩
          · omega
          · cases e; exact ⟨g, rfl⟩
        obtain ⟨g2, hg2⟩ : ∃ g, va = some ⟨g, 0, none⟩ := by
          rcases HK.out.2.2 with ⟨e, h0⟩ | ⟨g, cap', cur, e, -⟩
          · omega
          · cases e; exact ⟨g, rfl⟩
        subst hg1 hg2
        have m1 := kq_cell hq (p := ⟨g1, k, none⟩) (.inr (.inr (.inl rfl))) (row_cell HK.out.1 (kcells_get hlt))
        have m2 := kq_cell hq (p := ⟨g2, k, none⟩) (.inr (.inr (.inr rfl))) (row_cell HK.out.2 (vcells_get hlt))
        have m3 := (kq_bx hq (.inr (.inl rfl)) hbv).cell
        have hY := HC.out.go W1.heap.size (l.take k) l[k] wr hJ (take_pre hlt)
        rw [take_snoc hlt] at hY
        obtain ⟨fn, tmps, assign, body, hy, hR⟩ := hY.yield
        simp only [encm] at hy
        have HR : Hid _ := hR
        clear hR hY
        have hki : (k : Int) < (l.length : Int) := by omega
        clear hJ
        gi_wp2
        refine (HR.out _).mono ?_
        rintro e W3 ⟨hkf, hk3, ⟨rfl, hJ3⟩ | ⟨rfl, hJ3⟩⟩
        · have hnx3 := hq.trans (hk3.sub (fun k hk => .inl hk))
          gi_wp2
          go_roundw
          case rel => exact ⟨k + 1, by omega, by simp, hJ3, hnx3⟩
          case measure => simp [intOf]; omega
        · gi_wp2
          refine bodyPost_ret (results_none rfl _ _ _) rfl ?_
          exact ⟨⟨_, rfl⟩, .inr ⟨_, _, hJ3⟩⟩
      · obtain rfl : k = l.length := by omega
        rw [List.take_length] at hJ
        gi_wp2
        go_end0
        exact ⟨⟨_, rfl⟩, .inl ⟨_, hJ⟩⟩
  · have HC : Hid _ := hC
    clear hC
    unfold Ent0 at eg
    gi_wp2
    gi_loopw [8] (fun i wr => ∃ k : Nat, k ≤ l.length ∧ i = .int .i64 k ∧ J W1.heap.size (l.take k) wr ∧ Kq (Xo bk bv (.slice ka l.length kc) (.slice va l.length vc)) W1 wr) (fun i _ => l.length - (intOf i).toNat)
    case atStart => exact ⟨0, Nat.zero_le _, rfl, hst, Kq.refl _ _⟩
    case round =>
      obtain ⟨k, hk, rfl, hJ, hq⟩ := hrel
      by_cases hlt : k < l.length
      · obtain ⟨g1, hg1⟩ : ∃ g, ka = some ⟨g, 0, none⟩ := by
          rcases HK.out.1.2 with ⟨e, h0⟩ | ⟨g, cap', cur, e, -⟩
          · omega
          · cases e; exact ⟨g, rfl⟩
        obtain ⟨g2, hg2⟩ : ∃ g, va = some ⟨g, 0, none⟩ := by
          rcases HK.out.2.2 with ⟨e, h0⟩ | ⟨g, cap', cur, e, -⟩
          · omega
          · cases e; exact ⟨g, rfl⟩
        subst hg1 hg2
        have m1 := kq_cell hq (p := ⟨g1, k, none⟩) (.inr (.inr (.inl rfl))) (row_cell HK.out.1 (kcells_get hlt))
        have m2 := kq_cell hq (p := ⟨g2, k, none⟩) (.inr (.inr (.inr rfl))) (row_cell HK.out.2 (vcells_get hlt))
        have m3 := (kq_bx hq (.inr (.inl rfl)) hbv).cell
        have hY := HC.out.go W1.heap.size (l.take k) l[k] wr hJ (take_pre hlt)
        rw [take_snoc hlt] at hY
        have hc := hY.func
        simp only [encm] at hc
        clear hY
        have hki : (k : Int) < (l.length : Int) := by omega
        clear hJ
        gi_wp2
        refine ⟨trivial, ?_⟩
        refine (callsIn_wide.2 hc).mono ?_
        rintro e W3 ⟨hkf, hk3, ⟨rfl, hJ3⟩ | ⟨rfl, hJ3⟩⟩
        · have hnx3 := hq.trans (hk3.sub (fun k hk => .inl hk))
          gi_wp2
          go_roundw
          case rel => exact ⟨k + 1, by omega, by simp, hJ3, hnx3⟩
          case measure => simp [intOf]; omega
        · gi_wp2
          refine bodyPost_ret (results_none rfl _ _ _) rfl ?_
          exact ⟨⟨_, rfl⟩, .inr ⟨_, _, hJ3⟩⟩
      · obtain rfl : k = l.length := by omega
        rw [List.take_length] at hJ
        gi_wp2
        go_end0
        exact ⟨⟨_, rfl⟩, .inl ⟨_, hJ⟩⟩

/-- a range over two lists, as a value -/
theorem over1_sq {w : World} {bk bv base : Nat} {kv vv : Value} {l : List Ent} (hbk : Bx w bk kv 45) (hbv : Bx w bv vv 46) (hKV : KV w base kv vv l) (hl : l.length < 4611686018427387904) :
    Sq w (.func (.func 30) #[] #[.pointer (some ⟨bk, 0, none⟩), .pointer (some ⟨bv, 0, none⟩)]) l (Xo bk bv kv vv) := by
  refine ⟨_, _, rfl, enters_of Try.func30 (by kernel_rfl) rfl, ?_, fun W1 hk => ?_⟩
  · rintro k (rfl | rfl | h | h)
    · exact hbk.lt
    · exact hbv.lt
    · obtain ⟨_, cur, hx⟩ := row_obj hKV.1 h; exact (Array.getElem?_eq_some_iff.1 hx).1
    · obtain ⟨_, cur, hx⟩ := row_obj hKV.2 h; exact (Array.getElem?_eq_some_iff.1 hx).1
  · exact over1_runs (base := base) (kq_bx hk (.inl rfl) hbk) (kq_bx hk (.inr (.inl rfl)) hbv) ⟨kq_row hk hKV.1 (fun k h => .inr (.inr (.inl h))), kq_row hk hKV.2 (fun k h => .inr (.inr (.inr h)))⟩ hl

theorem fitS (n : Nat) (h : n * 16 ≤ 211106232528000) : (n + n / 4 + 192) * 16 ≤ 281474976710656 := by omega
theorem fitI (n : Nat) (h : n * 8 ≤ 211106232528000) : (n + n / 4 + 192) * 8 ≤ 281474976710656 := by omega

set_option maxHeartbeats 4000000 in
set_option maxRecDepth 100000 in
/-- slices.Clone -/
theorem cloneStr_any {w : World} {sv : Value} {n base : Nat} {cs : List Value} (hrow : w.ownsRow base 9 1 sv n cs) (h1c : ∀ v ∈ cs, v.oneCell' = true) (hbig : n * 16 ≤ 211106232528000) :
    Calls Try.prog 28 #[sv] w fun e w' => ∃ v', e = .returned v' ∧ w'.ownsRow w.heap.size 9 1 v' n cs ∧ Below w.heap.size w w' := by
  obtain ⟨i0, hi, hz0, hz1, hz2⟩ := info_parts infoStr
  have heq := fun (w : World) a n c => run_eql_slice_nil (P := Try.prog) w 45 9 a n c 0 0 Try.underlying45
  have hlen := hrow.1
  rcases hrow.2 with ⟨rfl, h0⟩ | ⟨g, cap, cur, rfl, _, hg, hnc, hcm, hcs, htake⟩
  · subst h0
    have hc0 : cs = [] := List.eq_nil_of_length_eq_zero (by simpa using hlen)
    subst hc0
    clear hrow hlen h1c
    go_enter Try.func28, Try.ntmps28
    go_wp2
    go_ret
    exact ⟨_, rfl, World.ownsRow_nil _ _ _ _, Below.refl _ _⟩
  · have R : Hid (w.ownsRow base 9 1 (.slice (some ⟨g, 0, none⟩) n cap) n cs) := hrow
    clear hrow hg hcs htake
    have hB : Below w.heap.size w (w.alloc (.cells #[] 9)) := (Below.refl _ w).alloc (Nat.le_refl _) _
    have hlit := World.ownsRow_lit (base := w.heap.size) (e := 9) (size := 1) w #[] 0 (Nat.le_refl _) (Nat.zero_le _) rfl
    obtain ⟨v', w1, hrun, h2, h3, _⟩ := run_append_own_wide (P := Try.prog) (w.alloc (.cells #[] 9)) w.heap.size 45 45 9 i0 _ 1 16 Try.underlying45 hi hz0 hz1 hz2 rfl (by decide) _ 0 _ hlit ⟨g, 0, none⟩ n cap cs hlen
      (fun j u hj => by rw [Addr.add_lit, Nat.zero_add]; exact row_cell (R.out.alloc _) hj) h1c (by unfold maxLen; omega) (by rw [Nat.zero_add]; exact fitS _ hbig) (by simp)
    have E : Hid (w1.ownsRow w.heap.size 9 1 v' (0 + n) (#[].toList ++ cs) ∧ Below w.heap.size w w1) := ⟨h2, hB.grown h3 (by simp) (fun k hk => by cases hk; exact Nat.le_refl _)⟩
    clear h2 h3 hlit hB hlen h1c
    go_enter Try.func28, Try.ntmps28
    go_wp2_with (at_builtin; refine Lib.wpList_append_run _ rfl _ _ _ _ rfl _ _ rfl rfl _ _ hrun ?_)
    go_ret
    obtain ⟨h2, hB⟩ := E.out
    simp only [Nat.zero_add, List.nil_append] at h2
    exact ⟨_, rfl, h2, hB⟩

set_option maxHeartbeats 4000000 in
set_option maxRecDepth 100000 in
/-- slices.Clone -/
theorem cloneInt_any {w : World} {sv : Value} {n base : Nat} {cs : List Value} (hrow : w.ownsRow base 3 1 sv n cs) (h1c : ∀ v ∈ cs, v.oneCell' = true) (hbig : n * 8 ≤ 211106232528000) :
    Calls Try.prog 29 #[sv] w fun e w' => ∃ v', e = .returned v' ∧ w'.ownsRow w.heap.size 3 1 v' n cs ∧ Below w.heap.size w w' := by
  obtain ⟨i0, hi, hz0, hz1, hz2⟩ := info_parts infoInt
  have heq := fun (w : World) a n c => run_eql_slice_nil (P := Try.prog) w 46 3 a n c 0 0 Try.underlying46
  have hlen := hrow.1
  rcases hrow.2 with ⟨rfl, h0⟩ | ⟨g, cap, cur, rfl, _, hg, hnc, hcm, hcs, htake⟩
  · subst h0
    have hc0 : cs = [] := List.eq_nil_of_length_eq_zero (by simpa using hlen)
    subst hc0
    clear hrow hlen h1c
    go_enter Try.func29, Try.ntmps29
    go_wp2
    go_ret
    exact ⟨_, rfl, World.ownsRow_nil _ _ _ _, Below.refl _ _⟩
  · have R : Hid (w.ownsRow base 3 1 (.slice (some ⟨g, 0, none⟩) n cap) n cs) := hrow
    clear hrow hg hcs htake
    have hB : Below w.heap.size w (w.alloc (.cells #[] 3)) := (Below.refl _ w).alloc (Nat.le_refl _) _
    have hlit := World.ownsRow_lit (base := w.heap.size) (e := 3) (size := 1) w #[] 0 (Nat.le_refl _) (Nat.zero_le _) rfl
    obtain ⟨v', w1, hrun, h2, h3, _⟩ := run_append_own_wide (P := Try.prog) (w.alloc (.cells #[] 3)) w.heap.size 46 46 3 i0 _ 1 8 Try.underlying46 hi hz0 hz1 hz2 rfl (by decide) _ 0 _ hlit ⟨g, 0, none⟩ n cap cs hlen
      (fun j u hj => by rw [Addr.add_lit, Nat.zero_add]; exact row_cell (R.out.alloc _) hj) h1c (by unfold maxLen; omega) (by rw [Nat.zero_add]; exact fitI _ hbig) (by simp)
    have E : Hid (w1.ownsRow w.heap.size 3 1 v' (0 + n) (#[].toList ++ cs) ∧ Below w.heap.size w w1) := ⟨h2, hB.grown h3 (by simp) (fun k hk => by cases hk; exact Nat.le_refl _)⟩
    clear h2 h3 hlit hB hlen h1c
    go_enter Try.func29, Try.ntmps29
    go_wp2_with (at_builtin; refine Lib.wpList_append_run _ rfl _ _ _ _ rfl _ _ rfl rfl _ _ hrun ?_)
    go_ret
    obtain ⟨h2, hB⟩ := E.out
    simp only [Nat.zero_add, List.nil_append] at h2
    exact ⟨_, rfl, h2, hB⟩
end Go.Proofs.Ytlhijbgdccejbaa

/-
  Merge.
-/
import Derived.Test.YtlhijbgdccejbaaM3Tog
import Derived.Deep.Slices
namespace Go.Proofs.Ytlhijbgdccejbaa
open Go.RowKit Go.Shelf Go.Sort
open Go.Lib hiding intOf

attribute [local go_sem] Oper.semAt_some

theorem take_snoc' {l : List Ent} {k : Nat} (h : k < l.length) : l.take k ++ [l[k]] = l.take (k + 1) := (List.take_succ_eq_append_getElem h).symm
theorem take_pre' {l : List Ent} {k : Nat} (h : k < l.length) : l.take k ++ [l[k]] <+: l := by rw [take_snoc' h]; exact List.take_prefix _ _

set_option maxRecDepth 100000 in
set_option maxHeartbeats 4000000 in
theorem merge1_runs {W1 : World} {bl : Nat} {lv : Value} {ls : List (List Ent)} {X : Nat → Prop} (hbl : Bx W1 bl lv 24) (hR : Rgs W1 lv ls X) (hn : sumLen ls * 24 ≤ 140737488355328) (hbig : ls.length ≤ 4611686018427387904) :
    Runs 21 #[.pointer (some ⟨bl, 0, none⟩)] (merged ls) (fun k => X k ∨ k = bl) W1 := by
  intro y J Jx hC
  have h0 := hbl.cell
  have hml : (merged ls).length * 24 ≤ 140737488355328 := by have := merged_len ls; unfold sumLen at hn; omega
  have HT : Hid _ := together_any ls.length rfl hR hn hbig
  obtain ⟨la, lc, rfl⟩ : ∃ a c, lv = .slice a ls.length c := by
    rcases hR.2 with ⟨rfl, rfl⟩ | ⟨b, off, cap, rfl, _⟩
    · exact ⟨_, _, rfl⟩
    · exact ⟨_, _, rfl⟩
  generalize hm : merged ls = l at *
  clear hm hR
  refine (callsIn_wide (n := 9)).1 ?_
  refine callsIn_of_wp Try.func21 rfl trivial ?_ rfl
  simp only [Try.ntmps21, List.size_toArray, List.length_cons, List.length_nil, Nat.reduceAdd, Nat.reduceSub, Array.replicate_succ, Array.replicate_zero, List.push_toArray, List.append_toArray, List.nil_append, List.cons_append]
  rcases id hC.yk with ⟨ly, rfl⟩ | ⟨gf, caps, rfl, eg⟩
  · have HC : Hid _ := hC
    clear hC
    skip
    gi_wp2_with (first
      | (refine ⟨trivial, ?_⟩; gi_at_call 22; refine (callsIn_wide.2 HT.out).mono ?_; rintro e w2 ⟨v2, rfl, ho, hB⟩; obtain ⟨ra, rc, rfl, -⟩ := row_slice ho; have HO : Hid (w2.ownsRow W1.heap.size 54 2 (.slice ra l.length rc) l.length (flat l)) := ho; have hst := HC.out.start w2 hB; have hsz := hB.size; clear ho))
    gi_loopw [8] (fun i wr => ∃ k : Nat, k ≤ l.length ∧ i = .int .i64 k ∧ J w2.heap.size (l.take k) wr ∧ Kq (fun k => W1.heap.size ≤ k ∧ k < w2.heap.size) w2 wr) (fun i _ => l.length - (intOf i).toNat)
    case atStart => exact ⟨0, Nat.zero_le _, rfl, hst, Kq.refl _ _⟩
    case round =>
      obtain ⟨k, hk, rfl, hJ, hq⟩ := hrel
      by_cases hlt : k < l.length
      · obtain ⟨g, hg⟩ : ∃ g, ra = some ⟨g, 0, none⟩ := by
          rcases HO.out.2 with ⟨e, h0⟩ | ⟨g, cap', cur, e, -⟩
          · omega
          · cases e; exact ⟨g, rfl⟩
        subst hg
        have hgl := HO.out.lt g rfl
        have m1 := kq_cell hq (p := ⟨g, k * 2, none⟩) hgl (row_cell HO.out (flat_key l k hlt))
        have m2 := kq_cell hq (p := ⟨g, k * 2 + 1, none⟩) hgl (row_cell HO.out (flat_val l k hlt))
        have hJ1 := HC.out.st _ _ _ _ hJ (Sb.of_ch ((Ch.refl _ wr).alloc (.cells #[.string l[k].1, .int .i64 l[k].2] 54)))
        have hY := HC.out.go w2.heap.size (l.take k) l[k] _ hJ1 (take_pre' hlt)
        rw [take_snoc' hlt] at hY
        obtain ⟨fn, tmps, assign, body, hy, hR⟩ := hY.yield
        simp only [encm] at hy
        have HR : Hid _ := hR
        clear hR hY
        have hki : (k : Int) < (l.length : Int) := by omega
        clear hJ hJ1
        gi_wp2
        refine (HR.out _).mono ?_
        rintro e W3 ⟨hkf, hk3, ⟨rfl, hJ3⟩ | ⟨rfl, hJ3⟩⟩
        · have hnx3 := hq.trans ((Kq.alloc (Kq.refl _ wr) _).trans (hk3.sub (fun k hk => .inr hk)))
          gi_wp2
          go_roundw
          case rel => exact ⟨k + 1, by omega, by simp, hJ3, hnx3⟩
          case measure => simp [intOf]; omega
        · gi_wp2
          refine bodyPost_ret (results_none rfl _ _ _) rfl ?_
          exact ⟨⟨_, rfl⟩, .inr ⟨_, _, hJ3⟩⟩
      · obtain rfl : k = l.length := by omega
        rw [List.take_length] at hJ
        gi_wp2
        go_end0
        exact ⟨⟨_, rfl⟩, .inl ⟨_, hJ⟩⟩
  · have HC : Hid _ := hC
    clear hC
    unfold Ent0 at eg
    gi_wp2_with (first
      | (refine ⟨trivial, ?_⟩; gi_at_call 22; refine (callsIn_wide.2 HT.out).mono ?_; rintro e w2 ⟨v2, rfl, ho, hB⟩; obtain ⟨ra, rc, rfl, -⟩ := row_slice ho; have HO : Hid (w2.ownsRow W1.heap.size 54 2 (.slice ra l.length rc) l.length (flat l)) := ho; have hst := HC.out.start w2 hB; have hsz := hB.size; clear ho))
    gi_loopw [8] (fun i wr => ∃ k : Nat, k ≤ l.length ∧ i = .int .i64 k ∧ J w2.heap.size (l.take k) wr ∧ Kq (fun k => W1.heap.size ≤ k ∧ k < w2.heap.size) w2 wr) (fun i _ => l.length - (intOf i).toNat)
    case atStart => exact ⟨0, Nat.zero_le _, rfl, hst, Kq.refl _ _⟩
    case round =>
      obtain ⟨k, hk, rfl, hJ, hq⟩ := hrel
      by_cases hlt : k < l.length
      · obtain ⟨g, hg⟩ : ∃ g, ra = some ⟨g, 0, none⟩ := by
          rcases HO.out.2 with ⟨e, h0⟩ | ⟨g, cap', cur, e, -⟩
          · omega
          · cases e; exact ⟨g, rfl⟩
        subst hg
        have hgl := HO.out.lt g rfl
        have m1 := kq_cell hq (p := ⟨g, k * 2, none⟩) hgl (row_cell HO.out (flat_key l k hlt))
        have m2 := kq_cell hq (p := ⟨g, k * 2 + 1, none⟩) hgl (row_cell HO.out (flat_val l k hlt))
        have hJ1 := HC.out.st _ _ _ _ hJ (Sb.of_ch ((Ch.refl _ wr).alloc (.cells #[.string l[k].1, .int .i64 l[k].2] 54)))
        have hY := HC.out.go w2.heap.size (l.take k) l[k] _ hJ1 (take_pre' hlt)
        rw [take_snoc' hlt] at hY
        have hc := hY.func
        simp only [encm] at hc
        clear hY
        have hki : (k : Int) < (l.length : Int) := by omega
        clear hJ hJ1
        gi_wp2
        refine ⟨trivial, ?_⟩
        refine (callsIn_wide.2 hc).mono ?_
        rintro e W3 ⟨hkf, hk3, ⟨rfl, hJ3⟩ | ⟨rfl, hJ3⟩⟩
        · have hnx3 := hq.trans ((Kq.alloc (Kq.refl _ wr) _).trans (hk3.sub (fun k hk => .inr hk)))
          gi_wp2
          go_roundw
          case rel => exact ⟨k + 1, by omega, by simp, hJ3, hnx3⟩
          case measure => simp [intOf]; omega
        · gi_wp2
          refine bodyPost_ret (results_none rfl _ _ _) rfl ?_
          exact ⟨⟨_, rfl⟩, .inr ⟨_, _, hJ3⟩⟩
      · obtain rfl : k = l.length := by omega
        rw [List.take_length] at hJ
        gi_wp2
        go_end0
        exact ⟨⟨_, rfl⟩, .inl ⟨_, hJ⟩⟩

theorem infoSeq : (Try.prog.info? 27).map (fun i => (i.zero, i.size, i.bytes)) = some (some .nilFunc, 1, 8) := by kernel_rfl
theorem fit8 (n : Nat) (h : n * 8 ≤ 140737488355328) : (n + n / 4 + 192) * 8 ≤ 281474976710656 := by omega

set_option maxHeartbeats 4000000 in
set_option maxRecDepth 100000 in
/-- slices.Clone of ranges -/
theorem cloneSeq_any {w : World} {lv : Value} {ls : List (List Ent)} {X : Nat → Prop} (h : Rgs w lv ls X) (hn : ls.length * 8 ≤ 140737488355328) :
    Calls Try.prog 20 #[lv] w fun e w' => ∃ a c, e = .returned (.slice a ls.length c) ∧ Rgs w' (.slice a ls.length c) ls (fun k => X k ∨ (w.heap.size ≤ k ∧ k < w'.heap.size)) ∧ Below w.heap.size w w' := by
  obtain ⟨i0, hi, hz0, hz1, hz2⟩ := info_parts infoSeq
  have heq := fun (w : World) a n c => run_eql_slice_nil (P := Try.prog) w 24 27 a n c 0 0 Try.underlying24
  rcases id h.2 with ⟨rfl, rfl⟩ | ⟨b, off, cap, rfl, hc, hb, hj⟩
  · have HX := h.1
    clear h
    go_enter Try.func20, Try.ntmps20
    go_wp2
    go_ret
    exact ⟨_, _, rfl, ⟨fun k hk => hk.elim (HX k) (fun h => h.2), .inl ⟨rfl, rfl⟩⟩, Below.refl _ _⟩
  · have hj1 : ∀ j, j < ls.length → ∃ u, w.cell? ⟨b, off + j, none⟩ = some u ∧ Sn w u (ls[j]?.getD []) X := fun j hjl => by
      obtain ⟨u, h1, h2⟩ := hj j hjl
      exact ⟨u, h1, by simpa [hjl] using h2⟩
    obtain ⟨U, hU⟩ := Deep.choose_lt hj1
    have hul : ((List.range ls.length).map U).length = ls.length := by simp
    have hB : Below w.heap.size w (w.alloc (.cells #[] 27)) := (Below.refl _ w).alloc (Nat.le_refl _) _
    have hbl := h.1 b hb
    have hlit := World.ownsRow_lit (base := w.heap.size) (e := 27) (size := 1) w #[] 0 (Nat.le_refl _) (Nat.zero_le _) rfl
    obtain ⟨v', w1, hrun, h2, h3, _⟩ := run_append_own_wide (P := Try.prog) (w.alloc (.cells #[] 27)) w.heap.size 24 24 27 i0 _ 1 8 Try.underlying24 hi hz0 hz1 hz2 rfl (by decide) _ 0 _ hlit ⟨b, off, none⟩ ls.length cap ((List.range ls.length).map U) (by simp)
      (fun j u hju => by
        have hjl : j < ls.length := by have := (List.getElem?_eq_some_iff.1 hju).1; simpa using this
        rw [Addr.add_lit]
        simp [hjl] at hju
        rw [← hju]
        exact (hB.cell (p := ⟨b, off + j, none⟩) hbl).trans (hU j hjl).1)
      (fun u hu => by
        obtain ⟨j, hj', rfl⟩ := List.mem_map.1 hu
        rcases (hU j (List.mem_range.1 hj')).2.form with e | ⟨gf, lb, e⟩ <;> rw [e] <;> rfl)
      (by unfold maxLen; omega) (by rw [Nat.zero_add]; exact fit8 _ hn) (by simp)
    have hB1 : Below w.heap.size w w1 := hB.grown h3 (by simp) (fun k hk => by cases hk; exact Nat.le_refl _)
    simp only [Nat.zero_add, List.nil_append] at h2
    obtain ⟨a', c', rfl, -, hlc, -⟩ := row_slice h2
    have hres : Rgs w1 (.slice a' ls.length c') ls (fun k => X k ∨ (w.heap.size ≤ k ∧ k < w1.heap.size)) := by
      have hXX : ∀ k, (X k ∨ (w.heap.size ≤ k ∧ k < w1.heap.size)) → k < w1.heap.size := fun k hk => hk.elim (fun h' => Nat.lt_of_lt_of_le (h.1 k h') hB1.size) (fun h' => h'.2)
      refine ⟨hXX, ?_⟩
      rcases h2.2 with ⟨e, h0⟩ | ⟨g, cap', cur, e, hbg, hg, _⟩
      · exact .inl ⟨e, List.eq_nil_of_length_eq_zero h0⟩
      · cases e
        refine .inr ⟨g, 0, c', rfl, hlc, .inr ⟨hbg, (Array.getElem?_eq_some_iff.1 hg).1⟩, fun j hjl => ⟨U j, ?_, ?_⟩⟩
        · rw [Nat.zero_add]
          exact row_cell h2 (by simp [hjl])
        · have := ((hU j hjl).2.below hB1).wide (fun k hk => .inl hk) hXX
          simpa [hjl] using this
    have E : Hid _ := And.intro hres hB1
    clear h2 h3 hlit hB hres hB1 h hj hj1 hU
    go_enter Try.func20, Try.ntmps20
    go_wp2_with (at_builtin; refine Lib.wpList_append_run _ rfl _ _ _ _ rfl _ _ rfl rfl _ _ hrun ?_)
    go_ret
    exact ⟨_, _, rfl, E.out.1, E.out.2⟩

set_option maxHeartbeats 1000000 in
theorem Merge_any {w : World} {lv : Value} {ls : List (List Ent)} {X : Nat → Prop} (h : Rgs w lv ls X) (hn : sumLen ls * 24 ≤ 140737488355328) (hbig : ls.length * 8 ≤ 140737488355328) :
    Calls Try.prog 11 #[lv] w fun e w' => ∃ f Y, e = .returned f ∧ Sq w' f (merged ls) Y ∧ (∀ k, Y k → X k ∨ w.heap.size ≤ k) ∧ Below w.heap.size w w' := by
  have hmf : ∀ (fn : Fn) (first cap : Array Value) (w : World), (Instr.makeFunc fn first cap).run Try.prog w = .ok (.func fn first cap) w := fun _ _ _ _ => rfl
  obtain ⟨Wa, hWa⟩ : ∃ Wa, Wa = w.alloc (.cells #[lv] 24) := ⟨_, rfl⟩
  have hsa : Wa.heap.size = w.heap.size + 1 := by rw [hWa]; simp
  have hBa : Below w.heap.size w Wa := by rw [hWa]; exact (Below.refl _ w).alloc (Nat.le_refl _) _
  have bla : Bx Wa w.heap.size lv 24 := by rw [hWa]; exact Bx.new w _ _
  have HC : Hid _ := cloneSeq_any (h.below hBa) hbig
  have HX : Hid (∀ k, X k → k < w.heap.size) := h.1
  obtain ⟨la, lc, rfl⟩ : ∃ a c, lv = .slice a ls.length c := by
    rcases h.2 with ⟨rfl, rfl⟩ | ⟨b, off, cap, rfl, _⟩
    · exact ⟨_, _, rfl⟩
    · exact ⟨_, _, rfl⟩
  clear h
  go_enter Try.func11, Try.ntmps11
  go_wp2_with (first
    | (go_at_call 20; rw [← hWa]; refine Calls.mono HC.out ?_; rintro e w2 ⟨a2, c2, rfl, hR2, hB2⟩; have b2 := bla.below hB2 (by omega); have c1 := b2.cell; have c2' := b2.fro; have H2 : Hid _ := And.intro hR2 (And.intro hB2 b2); clear hR2 hB2 b2))
  go_ret
  obtain ⟨hR2, hB2, b2⟩ := H2.out
  have hs2 := hB2.size
  have b3 : Bx (w2.setCell ⟨w.heap.size, 0, none⟩ (.slice a2 ls.length c2)) w.heap.size (.slice a2 ls.length c2) 24 := one0 b2 _
  have hq : Kq (fun k => X k ∨ (Wa.heap.size ≤ k ∧ k < w2.heap.size)) w2 (w2.setCell ⟨w.heap.size, 0, none⟩ (.slice a2 ls.length c2)) := Kq.setCell (Kq.refl _ _) b2 (by
    rintro (h | h)
    · have := HX.out _ h; omega
    · omega)
  have hR3 := hR2.kq hq
  refine ⟨_, fun k => (X k ∨ (Wa.heap.size ≤ k ∧ k < w2.heap.size)) ∨ k = w.heap.size, rfl, ⟨_, _, rfl, enters_of Try.func21 (by kernel_rfl) rfl, ?_, fun W1 hk => ?_⟩, ?_, ?_⟩
  · rintro k (hk | rfl)
    · exact hR3.1 k hk
    · exact b3.lt
  · exact merge1_runs (kq_bx hk (.inr rfl) b3) (hR3.kq (hk.sub (fun k h => .inl h))) hn (by omega)
  · rintro k ((h | h) | h)
    · exact .inl h
    · exact .inr (by omega)
    · exact .inr (by omega)
  · exact (hBa.trans (hB2.mono (by omega))).trans (((Ch.refl (fun k => k = w.heap.size) w2).setCell ⟨w.heap.size, 0, none⟩ _ (fun _ => rfl)).below (by omega) (fun k hk e => by omega))
end Go.Proofs.Ytlhijbgdccejbaa

/-
  Take.
-/
import Derived.Test.YtlhijbgdccejbaaM3Keep
namespace Go.Proofs.Ytlhijbgdccejbaa
open Go.RowKit Go.Shelf Go.Sort
open Go.Lib hiding intOf

attribute [local go_sem] Oper.semAt_some


set_option maxRecDepth 100000 in
set_option maxHeartbeats 4000000 in
theorem take1_runs {W1 : World} {bs bn : Nat} {sv : Value} {n : Int} {l : List Ent} {X : Nat → Prop} (hbs : Bx W1 bs sv 27) (hbn : Bx W1 bn (.int .i64 n) 3) (hS : Sn W1 sv l X) (hn1 : 1 ≤ n) (hn : n ≤ 9223372036854775807) :
    Runs 27 #[.pointer (some ⟨bn, 0, none⟩), .pointer (some ⟨bs, 0, none⟩)] (l.take n.toNat) (fun k => X k ∨ k = bs ∨ k = bn) W1 := by
  intro y J Jx hC
  obtain ⟨yf, yc, hyf⟩ := hC.yk.form
  obtain ⟨W2, hW2⟩ : ∃ W2, W2 = (W1.alloc (.cells #[y] 40)).alloc (.cells #[.int .i64 n] 3) := ⟨_, rfl⟩
  have hs2 : W2.heap.size = W1.heap.size + 1 + 1 := by rw [hW2]; simp
  have hB2 : Below W1.heap.size W1 W2 := by rw [hW2]; exact ((Below.refl _ W1).alloc (Nat.le_refl _) _).alloc (by simp) _
  have by2 : Bx W2 W1.heap.size y 40 := by rw [hW2]; exact (Bx.new W1 _ _).alloc _
  have bl2 : Bx W2 (W1.heap.size + 1) (.int .i64 n) 3 := by
    rw [hW2]
    have := Bx.new (W1.alloc (.cells #[y] 40)) (.int .i64 n) 3
    rwa [World.size_alloc] at this
  have HS2 : Hid (Sn W2 sv l X) := hS.below hB2
  have hc0 := cell?_alloc_some (.cells #[y] 40) hbn.cell
  have hc2 := (hbs.below hB2 hbs.lt).cell
  rw [hW2] at hc2
  have hnl : ¬ n < 1 := by omega
  subst hyf
  have hform := hS.form
  have HX : Hid (∀ k, X k → k < W1.heap.size) := hS.1
  have HC : Hid _ := hC
  refine (callsIn_wide (n := 9)).1 ?_
  refine callsIn_of_wp_marks Try.func27 rfl trivial ?_ rfl
  simp only [Try.ntmps27, List.size_toArray, List.length_cons, List.length_nil, Nat.reduceAdd, Nat.reduceSub, Array.replicate_succ, Array.replicate_zero, List.push_toArray, List.append_toArray, List.nil_append, List.cons_append]
  clear hC hbs hbn hS
  rcases hform with rfl | ⟨sf, sb, rfl⟩
  all_goals
    gi_wp2_with (first
      | (refine ⟨trivial, ?_⟩; gi_at_call 25; rw [← hW2]; refine (callsIn_wide.2 (orderly_any HS2.out)).mono ?_; rintro e w3 ⟨f, rfl, hSf, hB3⟩; have HSf : Hid _ := hSf; obtain ⟨gf, lb, rfl, -⟩ := hSf))
    have hs3 := hB3.size
    have by3 := by2.below hB3 (by omega)
    have bl3 := bl2.below hB3 (by omega)
    have hBw : Below W1.heap.size W1 w3 := hB2.trans (hB3.mono (by omega))
    clear hW2
    refine range_sq (r1 := 5) (r2 := 6) rfl HSf.out
      (fun s pre W => J s pre W ∧ Bx W W1.heap.size (.func yf #[] yc) 40 ∧ Bx W (W1.heap.size + 1) (.int .i64 (n - (pre.length : Int))) 3 ∧ (pre.length : Int) < n ∧ w3.heap.size + 2 ≤ s)
      (fun s c pre W => c = .ret ∧ ((∃ pre', Jx s pre' W) ∨ (J s pre W ∧ (pre.length : Int) = n ∧ pre <+: l)))
      ?hI ?hIx ?start ?assign ?body ?done ?stop
    case hI =>
      rintro s pre A B ⟨h1, h2, h3, h5, h4⟩ hs
      exact ⟨HC.out.st s _ A B h1 (hs.low (by omega)), hs.bx h2 (.inl (by omega)), hs.bx h3 (.inl (by omega)), h5, h4⟩
    case hIx =>
      rintro s c pre A B ⟨h0, ⟨pre', h1⟩ | ⟨h1, h2⟩⟩ hs
      · exact ⟨h0, .inl ⟨pre', HC.out.stx s _ A B h1 (hs.low (by omega))⟩⟩
      · exact ⟨h0, .inr ⟨HC.out.st s _ A B h1 (hs.low (by omega)), h2⟩⟩
    case start =>
      intro W0 hB h0
      exact ⟨HC.out.start W0 (hBw.trans (hB.mono hBw.size)), by3.below hB by3.lt, by simpa using bl3.below hB bl3.lt, by simp; omega, h0⟩
    case assign =>
      intro mm l' x W K hK
      gi_wp2
      exact hK
    case body =>
      rintro mm l' s pre x W ⟨hJ, h2, h3, h5, h4⟩ hnx
      have hlen : pre.length + 1 ≤ n.toNat := by omega
      have hpt : pre ++ [x] <+: l.take n.toNat := by
        rw [List.prefix_take_iff]
        exact ⟨hnx, by simp; omega⟩
      have c3 := h3.cell
      have c4 := h3.fro
      have hw : IntKind.i64.wrap (n - (pre.length : Int) - 1) = n - (pre.length : Int) - 1 := by rw [IntKind.wrap_i64]; omega
      have hset : Sb W1.heap.size s W (W.setCell ⟨W1.heap.size + 1, 0, none⟩ (.int .i64 (n - (pre.length : Int) - 1))) := Sb.of_ch ((Ch.refl _ W).setCell _ _ (fun _ => by simp; omega))
      have b1 : Bx (W.setCell ⟨W1.heap.size + 1, 0, none⟩ (.int .i64 (n - (pre.length : Int) - 1))) (W1.heap.size + 1) (.int .i64 (n - (pre.length : Int) - 1)) 3 := one0 h3 _
      have b2 : Bx (W.setCell ⟨W1.heap.size + 1, 0, none⟩ (.int .i64 (n - (pre.length : Int) - 1))) W1.heap.size (.func yf #[] yc) 40 := h2.ch ((Ch.refl (fun k => k = W1.heap.size + 1) W).setCell ⟨W1.heap.size + 1, 0, none⟩ _ (fun _ => rfl)) (by omega)
      have c5 := b2.cell
      have hY := HC.out.go s pre x _ (HC.out.st s _ _ _ hJ hset) hpt
      have HN : Hid (pre ++ [x] <+: l) := hnx
      have fin : Hid (∀ W' : World, KeepsFrom W1.heap.size (W.setCell ⟨W1.heap.size + 1, 0, none⟩ (.int .i64 (n - (pre.length : Int) - 1))) W' → Kq (fun k => (X k ∨ k = bs ∨ k = bn) ∨ (W1.heap.size ≤ k ∧ k < s)) (W.setCell ⟨W1.heap.size + 1, 0, none⟩ (.int .i64 (n - (pre.length : Int) - 1))) W' → KeepsFrom w3.heap.size W W' ∧ Kq (fun k => (X k ∨ k = W2.heap.size) ∨ (w3.heap.size + 2 ≤ k ∧ k < s)) W W' ∧ Bx W' W1.heap.size (.func yf #[] yc) 40 ∧ Bx W' (W1.heap.size + 1) (.int .i64 (n - (pre.length : Int) - 1)) 3) := fun W' k1 k2 => ⟨(KeepsFrom.setCell (KeepsFrom.refl _ _) h3).trans (KeepsFrom.up k1 (by omega)), (Kq.setCell (Kq.refl _ W) h3 (by
          rintro ((h | h) | h)
          · exact absurd (HX.out _ h) (by omega)
          · omega
          · omega)).trans (k2.sub (fun k hk => by
          rcases hk with (h | h) | h
          · exact .inl (.inl h)
          · exact .inr (by omega)
          · exact .inr (by omega))), kq_bx k2 (.inr (by omega)) b2, kq_bx k2 (.inr (by omega)) b1⟩
      clear hJ h2 h3 hset b1 b2 hnx hpt
      simp only [List.setIfInBounds_toArray, List.set_cons_succ, List.set_cons_zero]
      rcases id HC.out.yk with ⟨ly, hly⟩ | ⟨yg, yb, hyg, eg⟩
      · cases hly
        · obtain ⟨fn, tmps, assign, body, hyl, hR⟩ := hY.yield
          simp only [encm] at hyl
          have HR : Hid _ := hR
          clear hR hY
          gi_wp2
          refine ⟨(fun h => by cases h), ?_⟩
          refine RoundIn.mono (F := Fence.wide.inRound l') (HR.out _) ?_
          rintro e W5 ⟨k1, k2, ⟨rfl, hj⟩ | ⟨rfl, hj⟩⟩
          · obtain ⟨f1, f2, f3, f4⟩ := fin.out W5 k1 k2
            have d4 := f4.cell
            have HJ : Hid _ := hj
            have HF4 : Hid _ := f4
            clear hj f4
            by_cases hz : n - (pre.length : Int) - 1 = 0
            · have hz' : (n - (pre.length : Int) - 1 == 0) = true := by simpa using hz
              rw [hz] at d4
              gi_wp2
              exact ⟨f1, f2, rfl, .inr ⟨HJ.out, by simp; omega, HN.out⟩⟩
            · have hz' : (n - (pre.length : Int) - 1 == 0) = false := by simpa using hz
              gi_wp2
              refine ⟨f1, f2, HJ.out, f3, ?_, by simp; omega, h4⟩
              have e1 : n - ((pre ++ [x]).length : Int) = n - (pre.length : Int) - 1 := by simp; omega
              rw [e1]
              exact HF4.out
          · obtain ⟨f1, f2, f3, f4⟩ := fin.out W5 k1 k2
            have HJ : Hid _ := hj
            clear hj
            gi_wp2
            exact ⟨f1, f2, rfl, .inl ⟨_, HJ.out⟩⟩
      · cases hyg
        · have hc := hY.func
          simp only [encm] at hc
          unfold Ent0 at eg
          clear hY
          gi_wp2
          refine ⟨trivial, (fun h => by cases h), ?_⟩
          refine CallsIn.mono (CallsIn.inRound _ (callsIn_wide.2 hc)) ?_
          rintro e W5 ⟨k1, k2, ⟨rfl, hj⟩ | ⟨rfl, hj⟩⟩
          · obtain ⟨f1, f2, f3, f4⟩ := fin.out W5 k1 k2
            have d4 := f4.cell
            have HJ : Hid _ := hj
            have HF4 : Hid _ := f4
            clear hj f4
            by_cases hz : n - (pre.length : Int) - 1 = 0
            · have hz' : (n - (pre.length : Int) - 1 == 0) = true := by simpa using hz
              rw [hz] at d4
              gi_wp2
              exact ⟨f1, f2, rfl, .inr ⟨HJ.out, by simp; omega, HN.out⟩⟩
            · have hz' : (n - (pre.length : Int) - 1 == 0) = false := by simpa using hz
              gi_wp2
              refine ⟨f1, f2, HJ.out, f3, ?_, by simp; omega, h4⟩
              have e1 : n - ((pre ++ [x]).length : Int) = n - (pre.length : Int) - 1 := by simp; omega
              rw [e1]
              exact HF4.out
          · obtain ⟨f1, f2, f3, f4⟩ := fin.out W5 k1 k2
            have HJ : Hid _ := hj
            clear hj
            gi_wp2
            exact ⟨f1, f2, rfl, .inl ⟨_, HJ.out⟩⟩
    case done =>
      rintro s W ⟨hJ, h2, h3, h5, h4⟩ hD
      have e1 : l.take n.toNat = l := List.take_of_length_le (by omega)
      have HJ : Hid _ := HC.out.st s _ _ _ hJ (Sb.put hD rfl (by omega) (.deferred none))
      have HE : Hid _ := e1
      clear hJ e1
      gi_wp2
      refine ⟨by simp, .inl ⟨_, _, rfl, takes hD, ?_⟩⟩
      exact ⟨_, results_none rfl _ _ _, ⟨_, rfl⟩, .inl ⟨s, by rw [HE.out]; exact HJ.out⟩⟩
    case stop =>
      rintro s c pre W ⟨rfl, hcase⟩ hD
      have HJ : Hid ((∃ s, J s (l.take n.toNat) (W.putObj w3.heap.size (.deferred none))) ∨ ∃ s pre, Jx s pre (W.putObj w3.heap.size (.deferred none))) := by
        rcases hcase with ⟨pre', hj⟩ | ⟨hj, h1, h2⟩
        · exact .inr ⟨s, pre', HC.out.stx s _ _ _ hj (Sb.put hD rfl (by omega) _)⟩
        · refine .inl ⟨s, ?_⟩
          have e1 : l.take n.toNat = pre := by rw [List.prefix_iff_eq_take.1 h2]; congr 1; omega
          rw [e1]
          exact HC.out.st s _ _ _ hj (Sb.put hD rfl (by omega) _)
      clear hcase
      gi_wp2
      refine ⟨by simp, .inl ⟨_, _, rfl, takes hD, ?_⟩⟩
      exact ⟨_, results_none rfl _ _ _, ⟨_, rfl⟩, HJ.out⟩

set_option maxRecDepth 100000 in
set_option maxHeartbeats 1000000 in
theorem take1_none {W1 : World} {bs bn : Nat} {n : Int} {X : Nat → Prop} (hbn : Bx W1 bn (.int .i64 n) 3) (hn1 : n < 1) :
    Runs 27 #[.pointer (some ⟨bn, 0, none⟩), .pointer (some ⟨bs, 0, none⟩)] [] X W1 := by
  intro y J Jx hC
  obtain ⟨yf, yc, rfl⟩ := hC.yk.form
  have hst := hC.start _ ((Below.refl _ W1).alloc (Nat.le_refl _) (.cells #[.func yf #[] yc] 40))
  have hc0 := cell?_alloc_some (.cells #[.func yf #[] yc] 40) hbn.cell
  have HS : Hid _ := hst
  clear hst hC
  refine (callsIn_wide (n := 9)).1 ?_
  refine callsIn_of_wp_marks Try.func27 rfl trivial ?_ rfl
  simp only [Try.ntmps27, List.size_toArray, List.length_cons, List.length_nil, Nat.reduceAdd, Nat.reduceSub, Array.replicate_succ, Array.replicate_zero, List.push_toArray, List.append_toArray, List.nil_append, List.cons_append]
  gi_wp2
  exact ⟨_, results_none rfl _ _ _, ⟨_, rfl⟩, .inl ⟨_, HS.out⟩⟩

set_option maxHeartbeats 1000000 in
theorem Take_any {w : World} {sv : Value} {n : Int} {l : List Ent} {X : Nat → Prop} (hS : Sn w sv l X) (hn : n ≤ 9223372036854775807) :
    Calls Try.prog 17 #[sv, .int .i64 n] w fun e w' => ∃ f, e = .returned f ∧ Sq w' f (l.take n.toNat) (fun k => X k ∨ k = w.heap.size ∨ k = w.heap.size + 1) ∧ Below w.heap.size w w' := by
  have hmf : ∀ (fn : Fn) (first cap : Array Value) (w : World), (Instr.makeFunc fn first cap).run Try.prog w = .ok (.func fn first cap) w := fun _ _ _ _ => rfl
  obtain ⟨W2, hW2⟩ : ∃ W2, W2 = (w.alloc (.cells #[sv] 27)).alloc (.cells #[.int .i64 n] 3) := ⟨_, rfl⟩
  have hs2 : W2.heap.size = w.heap.size + 1 + 1 := by rw [hW2]; simp
  have hB2 : Below w.heap.size w W2 := by rw [hW2]; exact ((Below.refl _ w).alloc (Nat.le_refl _) _).alloc (by simp) _
  have bs2 : Bx W2 w.heap.size sv 27 := by rw [hW2]; exact (Bx.new w _ _).alloc _
  have bk2 : Bx W2 (w.heap.size + 1) (.int .i64 n) 3 := by
    rw [hW2]
    have := Bx.new (w.alloc (.cells #[sv] 27)) (.int .i64 n) 3
    rwa [World.size_alloc] at this
  have hres : Sq W2 (.func (.func 27) #[] #[.pointer (some ⟨w.heap.size + 1, 0, none⟩), .pointer (some ⟨w.heap.size, 0, none⟩)]) (l.take n.toNat) (fun k => X k ∨ k = w.heap.size ∨ k = w.heap.size + 1) := by
    refine ⟨_, _, rfl, enters_of Try.func27 (by kernel_rfl) rfl, ?_, fun W1 hk => ?_⟩
    · rintro k (hk | rfl | rfl)
      · have := hS.1 k hk; omega
      · omega
      · omega
    · by_cases h1 : n < 1
      · have e1 : l.take n.toNat = [] := by rw [show n.toNat = 0 by omega]; rfl
        rw [e1]
        exact take1_none (kq_bx hk (.inr (.inr rfl)) bk2) h1
      · exact take1_runs (kq_bx hk (.inr (.inl rfl)) bs2) (kq_bx hk (.inr (.inr rfl)) bk2) ((hS.below hB2).kq (hk.sub (fun k h => .inl h))) (by omega) hn
  have HR : Hid _ := hres
  clear hres bs2 bk2
  rcases hS.form with rfl | ⟨gf, lb, rfl⟩
  all_goals
    go_enter Try.func17, Try.ntmps17
    go_wp2
    rw [← hW2]
    go_ret
    exact ⟨_, rfl, HR.out, hB2⟩

set_option maxHeartbeats 1000000 in
theorem even_any (x : Ent) (w : World) : Calls Try.prog 16 (encm x) w fun e w' => e = .returned (.bool (x.2.tmod 2 == 0)) ∧ w' = w := by
  unfold encm
  go_enter Try.func16, Try.ntmps16
  go_wp2
  go_ret
  exact ⟨rfl, rfl⟩
end Go.Proofs.Ytlhijbgdccejbaa

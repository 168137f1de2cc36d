/-
  Keep and Take.
-/
import Derived.Test.YtlhijbgdccejbaaM3Ord
namespace Go.Proofs.Ytlhijbgdccejbaa
open Go.RowKit Go.Shelf Go.Sort
open Go.Lib hiding intOf

attribute [local go_sem] Oper.semAt_some

theorem filter_pre {p : Ent → Bool} {pre l : List Ent} {x : Ent} (h : pre ++ [x] <+: l) (hx : p x = true) : pre.filter p ++ [x] <+: l.filter p := by
  have := h.filter p
  rw [List.filter_append] at this
  simpa [hx] using this
theorem Sb.put {n s D : Nat} {W : World} {o : Obj} (hD : W.heap[D]? = some o) (ho : o.isCells = false) (hn : n ≤ D) (o' : Obj) : Sb n s W (W.putObj D o') :=
  Ch.of_grown (grownBy_putObj' W D o') (fun k e _ => by cases e; exact ⟨hn, .inr ⟨o, hD, ho⟩⟩)
theorem cell_kept {W : World} {D b : Nat} {v : Value} {t : TypeId} (h : Bx W b v t) (o' : Obj) (hD : b ≠ D) : Bx (W.putObj D o') b v t := (World.putObj_heap_other hD).trans h

set_option maxRecDepth 100000 in
set_option maxHeartbeats 4000000 in
theorem keep1_runs {W1 : World} {bs bk : Nat} {sv : Value} {kf : Nat} {l : List Ent} {X : Nat → Prop} {p : Ent → Bool} (hbs : Bx W1 bs sv 27) (hbk : Bx W1 bk (.func (.func kf) #[] #[]) 40) (hS : Sn W1 sv l X) (ek : Ent0 kf)
    (hp : ∀ x W, Calls Try.prog kf (encm x) W fun e W' => e = .returned (.bool (p x)) ∧ W' = W) : Runs 26 #[.pointer (some ⟨bs, 0, none⟩), .pointer (some ⟨bk, 0, none⟩)] (l.filter p) (fun k => X k ∨ k = bs ∨ k = bk) W1 := by
  intro y J Jx hC
  obtain ⟨yf, yc, hyf⟩ := hC.yk.form
  obtain ⟨Wa, hWa⟩ : ∃ Wa, Wa = W1.alloc (.cells #[y] 40) := ⟨_, rfl⟩
  have hsa : Wa.heap.size = W1.heap.size + 1 := by rw [hWa]; simp
  have hBa : Below W1.heap.size W1 Wa := by rw [hWa]; exact (Below.refl _ W1).alloc (Nat.le_refl _) _
  have bya : Bx Wa W1.heap.size y 40 := by rw [hWa]; exact Bx.new W1 _ _
  have bka := hbk.below hBa hbk.lt
  have hbl := hbk.lt
  have HSa : Hid (Sn Wa sv l X) := hS.below hBa
  have hc0 := (hbs.below hBa hbs.lt).cell
  rw [hWa] at hc0
  unfold Ent0 at ek
  subst hyf
  have hform := hS.form
  have HC : Hid _ := hC
  refine (callsIn_wide (n := 9)).1 ?_
  refine callsIn_of_wp_marks Try.func26 rfl trivial ?_ rfl
  simp only [Try.ntmps26, List.size_toArray, List.length_cons, List.length_nil, Nat.reduceAdd, Nat.reduceSub, Array.replicate_succ, Array.replicate_zero, List.push_toArray, List.append_toArray, List.nil_append, List.cons_append]
  clear hC hbs hS
  rcases hform with rfl | ⟨sf, sb, rfl⟩
  all_goals
    gi_wp2_with (first
      | (refine ⟨trivial, ?_⟩; gi_at_call 25; rw [← hWa]; refine (callsIn_wide.2 (orderly_any HSa.out)).mono ?_; rintro e w2 ⟨f, rfl, hSf, hB2⟩; have HSf : Hid _ := hSf; obtain ⟨gf, lb, rfl, -⟩ := hSf))
    have hs2 := hB2.size
    have by2 := bya.below hB2 (by omega)
    have bk2 := bka.below hB2 (by omega)
    have hBw : Below W1.heap.size W1 w2 := hBa.trans (hB2.mono (by omega))
    refine range_sq (r1 := 4) (r2 := 5) rfl HSf.out
      (fun s pre W => J s (pre.filter p) W ∧ Bx W W1.heap.size (.func yf #[] yc) 40 ∧ Bx W bk (.func (.func kf) #[] #[]) 40 ∧ w2.heap.size + 2 ≤ s)
      (fun s c _ W => c = .ret ∧ ∃ pre, Jx s pre W)
      ?hI ?hIx ?start ?assign ?body ?done ?stop
    case hI =>
      rintro s pre A B ⟨h1, h2, h3, h4⟩ hs
      exact ⟨HC.out.st s _ A B h1 (hs.low (by omega)), hs.bx h2 (.inl (by omega)), hs.bx h3 (.inl (by omega)), h4⟩
    case hIx =>
      rintro s c pre A B ⟨h0, pre', h1⟩ hs
      exact ⟨h0, pre', HC.out.stx s _ A B h1 (hs.low (by omega))⟩
    case start =>
      intro W0 hB h0
      exact ⟨HC.out.start W0 (hBw.trans (hB.mono hBw.size)), by2.below hB by2.lt, bk2.below hB bk2.lt, h0⟩
    case assign =>
      intro mm l' x W K hK
      gi_wp2
      exact hK
    case body =>
      rintro mm l' s pre x W ⟨hJ, h2, h3, h4⟩ hnx
      have c2 := h2.cell
      have c3 := h3.cell
      have hpx := hp x W
      simp only [encm] at hpx
      simp only [List.setIfInBounds_toArray, List.set_cons_succ, List.set_cons_zero]
      cases hb : p x with
      | false =>
        rw [hb] at hpx
        have HJ : Hid _ := hJ
        clear hJ
        gi_wp2
        refine ⟨trivial, (fun h => by cases h), ?_⟩
        refine CallsIn.mono (CallsIn.inRound _ (callsIn_wide.2 hpx)) ?_
        rintro e W3 ⟨rfl, rfl⟩
        gi_wp2
        refine ⟨(fun _ h => by cases h), ?_⟩
        gi_wp2
        refine ⟨KeepsFrom.refl _ _, Kq.refl _ _, ?_, h2, h3, h4⟩
        rw [List.filter_append]
        simpa [hb] using HJ.out
      | true =>
        rw [hb] at hpx
        have hY := HC.out.go s (pre.filter p) x W hJ (filter_pre hnx hb)
        have fin : Hid (∀ W' : World, KeepsFrom W1.heap.size W W' → Kq (fun k => (X k ∨ k = bs ∨ k = bk) ∨ (W1.heap.size ≤ k ∧ k < s)) W W' → KeepsFrom w2.heap.size W W' ∧ Kq (fun k => (X k ∨ k = Wa.heap.size) ∨ (w2.heap.size + 2 ≤ k ∧ k < s)) W W' ∧ Bx W' W1.heap.size (.func yf #[] yc) 40 ∧ Bx W' bk (.func (.func kf) #[] #[]) 40) := fun W' k1 k2 => ⟨KeepsFrom.up k1 (by omega), k2.sub (fun k hk => by
          rcases hk with (h | h) | h
          · exact .inl (.inl h)
          · exact .inr (by omega)
          · exact .inr (by omega)), kq_bx k2 (.inr (by omega)) h2, kq_bx k2 (.inl (.inr (.inr rfl))) h3⟩
        have hfl : (pre ++ [x]).filter p = pre.filter p ++ [x] := by rw [List.filter_append]; simp [hb]
        have HF : Hid _ := hfl
        clear hfl hJ h2 h3
        rcases id HC.out.yk with ⟨ly, hly⟩ | ⟨yg, yb, hyg, eg⟩
        · cases hly
          obtain ⟨fn, tmps, assign, body, hyl, hR⟩ := hY.yield
          simp only [encm] at hyl
          have HR : Hid _ := hR
          clear hR hY
          gi_wp2
          refine ⟨trivial, (fun h => by cases h), ?_⟩
          refine CallsIn.mono (CallsIn.inRound _ (callsIn_wide.2 hpx)) ?_
          rintro e W3 ⟨rfl, rfl⟩
          gi_wp2
          refine ⟨(fun h => by cases h), ?_⟩
          refine RoundIn.mono (F := Fence.wide.inRound l') (HR.out _) ?_
          rintro e W5 ⟨k1, k2, ⟨rfl, hj⟩ | ⟨rfl, hj⟩⟩
          · have HJ : Hid _ := hj
            clear hj
            gi_wp2
            obtain ⟨f1, f2, f3, f4⟩ := fin.out W5 k1 k2
            exact ⟨f1, f2, by rw [HF.out]; exact HJ.out, f3, f4, h4⟩
          · have HJ : Hid _ := hj
            clear hj
            gi_wp2
            obtain ⟨f1, f2, f3, f4⟩ := fin.out W5 k1 k2
            exact ⟨f1, f2, rfl, _, HJ.out⟩
        · cases hyg
          have hc := hY.func
          simp only [encm] at hc
          unfold Ent0 at eg
          clear hY
          gi_wp2
          refine ⟨trivial, (fun h => by cases h), ?_⟩
          refine CallsIn.mono (CallsIn.inRound _ (callsIn_wide.2 hpx)) ?_
          rintro e W3 ⟨rfl, rfl⟩
          gi_wp2
          refine ⟨trivial, (fun h => by cases h), ?_⟩
          refine CallsIn.mono (CallsIn.inRound _ (callsIn_wide.2 hc)) ?_
          rintro e W5 ⟨k1, k2, ⟨rfl, hj⟩ | ⟨rfl, hj⟩⟩
          · have HJ : Hid _ := hj
            clear hj
            gi_wp2
            obtain ⟨f1, f2, f3, f4⟩ := fin.out W5 k1 k2
            exact ⟨f1, f2, by rw [HF.out]; exact HJ.out, f3, f4, h4⟩
          · have HJ : Hid _ := hj
            clear hj
            gi_wp2
            obtain ⟨f1, f2, f3, f4⟩ := fin.out W5 k1 k2
            exact ⟨f1, f2, rfl, _, HJ.out⟩
    case done =>
      rintro s W ⟨hJ, h2, h3, h4⟩ hD
      have HJ : Hid _ := HC.out.st s _ _ _ hJ (Sb.put hD rfl (by omega) (.deferred none))
      clear hJ
      gi_wp2
      refine ⟨by simp, .inl ⟨_, _, rfl, takes hD, ?_⟩⟩
      exact ⟨_, results_none rfl _ _ _, ⟨_, rfl⟩, .inl ⟨s, HJ.out⟩⟩
    case stop =>
      rintro s c pre W ⟨rfl, pre', hJ⟩ hD
      have HJ : Hid _ := HC.out.stx s _ _ _ hJ (Sb.put hD rfl (by omega) (.deferred none))
      clear hJ
      gi_wp2
      refine ⟨by simp, .inl ⟨_, _, rfl, takes hD, ?_⟩⟩
      exact ⟨_, results_none rfl _ _ _, ⟨_, rfl⟩, .inr ⟨s, _, HJ.out⟩⟩

set_option maxHeartbeats 1000000 in
/-- Keep, by a function that only answers -/
theorem Keep_any {w : World} {sv : Value} {kf : Nat} {l : List Ent} {X : Nat → Prop} {p : Ent → Bool} (hS : Sn w sv l X) (ek : Ent0 kf) (hp : ∀ x W, Calls Try.prog kf (encm x) W fun e W' => e = .returned (.bool (p x)) ∧ W' = W) :
    Calls Try.prog 15 #[sv, .func (.func kf) #[] #[]] w fun e w' => ∃ f, e = .returned f ∧ Sq w' f (l.filter p) (fun k => X k ∨ k = w.heap.size ∨ k = w.heap.size + 1) ∧ Below w.heap.size w w' := by
  have hmf : ∀ (fn : Fn) (first cap : Array Value) (w : World), (Instr.makeFunc fn first cap).run Try.prog w = .ok (.func fn first cap) w := fun _ _ _ _ => rfl
  have hnf := fn_fun
  obtain ⟨W2, hW2⟩ : ∃ W2, W2 = (w.alloc (.cells #[sv] 27)).alloc (.cells #[.func (.func kf) #[] #[]] 40) := ⟨_, rfl⟩
  have hs2 : W2.heap.size = w.heap.size + 1 + 1 := by rw [hW2]; simp
  have hB2 : Below w.heap.size w W2 := by rw [hW2]; exact ((Below.refl _ w).alloc (Nat.le_refl _) _).alloc (by simp) _
  have bs2 : Bx W2 w.heap.size sv 27 := by rw [hW2]; exact (Bx.new w _ _).alloc _
  have bk2 : Bx W2 (w.heap.size + 1) (.func (.func kf) #[] #[]) 40 := by
    rw [hW2]
    have := Bx.new (w.alloc (.cells #[sv] 27)) (.func (.func kf) #[] #[]) 40
    rwa [World.size_alloc] at this
  have hres : Sq W2 (.func (.func 26) #[] #[.pointer (some ⟨w.heap.size, 0, none⟩), .pointer (some ⟨w.heap.size + 1, 0, none⟩)]) (l.filter p) (fun k => X k ∨ k = w.heap.size ∨ k = w.heap.size + 1) := by
    refine ⟨_, _, rfl, enters_of Try.func26 (by kernel_rfl) rfl, ?_, fun W1 hk => ?_⟩
    · rintro k (hk | rfl | rfl)
      · have := hS.1 k hk; omega
      · omega
      · omega
    · exact keep1_runs (kq_bx hk (.inr (.inl rfl)) bs2) (kq_bx hk (.inr (.inr rfl)) bk2) ((hS.below hB2).kq (hk.sub (fun k h => .inl h))) ek hp
  have HR : Hid _ := hres
  have hc1 := bk2.cell
  have hc2 := bs2.cell
  rw [hW2] at hc1 hc2
  clear hres bs2 bk2
  rcases hS.form with rfl | ⟨gf, lb, rfl⟩
  all_goals
    go_enter Try.func15, Try.ntmps15
    go_wp2
    rw [← hW2]
    go_ret
    exact ⟨_, rfl, HR.out, hB2⟩

set_option maxHeartbeats 1000000 in
/-- Keep, by nil: over all -/
theorem Keep_nil {w : World} {sv : Value} {l : List Ent} {X : Nat → Prop} (hS : Sn w sv l X) :
    Calls Try.prog 15 #[sv, .nilFunc] w fun e w' => ∃ f Y, e = .returned f ∧ Sq w' f l Y ∧ (∀ k, Y k → X k ∨ w.heap.size ≤ k) ∧ Below w.heap.size w w' := by
  have hnf := nil_fun
  obtain ⟨W2, hW2⟩ : ∃ W2, W2 = (w.alloc (.cells #[sv] 27)).alloc (.cells #[.nilFunc] 40) := ⟨_, rfl⟩
  have hs2 : W2.heap.size = w.heap.size + 1 + 1 := by rw [hW2]; simp
  have hB2 : Below w.heap.size w W2 := by rw [hW2]; exact ((Below.refl _ w).alloc (Nat.le_refl _) _).alloc (by simp) _
  have bs2 : Bx W2 w.heap.size sv 27 := by rw [hW2]; exact (Bx.new w _ _).alloc _
  have bk2 : Bx W2 (w.heap.size + 1) .nilFunc 40 := by
    rw [hW2]
    have := Bx.new (w.alloc (.cells #[sv] 27)) .nilFunc 40
    rwa [World.size_alloc] at this
  have hc1 := bk2.cell
  have hc2 := bs2.cell
  have HO : Hid _ := orderly_any (hS.below hB2)
  rw [hW2] at hc1 hc2
  clear bs2 bk2
  rcases hS.form with rfl | ⟨gf, lb, rfl⟩
  all_goals
    go_enter Try.func15, Try.ntmps15
    go_wp2_with (first
      | (go_at_call 25; rw [← hW2]; refine Calls.mono HO.out ?_; rintro e w3 ⟨f, rfl, hSf, hB3⟩; have HSf : Hid _ := hSf; obtain ⟨gf', lb', rfl, -⟩ := hSf))
    go_ret
    exact ⟨_, _, rfl, HSf.out, fun k hk => hk.imp id (fun e => by omega), hB2.trans (hB3.mono (by omega))⟩
end Go.Proofs.Ytlhijbgdccejbaa

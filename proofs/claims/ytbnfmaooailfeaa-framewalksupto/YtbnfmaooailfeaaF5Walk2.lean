/-
  Package frame's Walk: a range over kinds and loads.
-/
import Derived.Test.YtbnfmaooailfeaaF5Walk
namespace Go.Proofs.Ytbnfmaooailfeaa
open Go.RowKit Go.Shelf Go.Sort
open Go.Lib hiding intOf

attribute [local go_sem] Oper.semAt_some

theorem Yk.frm {y : Value} (h : Yk y) : ∃ f c, y = .func f #[] c := by
  rcases h with ⟨l, rfl⟩ | ⟨g, c, rfl, -⟩
  · exact ⟨_, _, rfl⟩
  · exact ⟨_, _, rfl⟩
/-- a frame, as Walk tells it -/
def encW (x : Fr) : Array Value := #[.int .u8 (x.1.toNat : Int), .string (S x.2.1)]
theorem Sb.putD {n s D : Nat} {W : World} {o : Obj} (hD : W.heap[D]? = some o) (ho : o.isCells = false) (hn : n ≤ D) (o' : Obj) : Sb n s W (W.putObj D o') :=
  Ch.of_grown (grownBy_putObj' W D o') (fun k e _ => by cases e; exact ⟨hn, .inr ⟨o, hD, ho⟩⟩)

set_option maxRecDepth 100000 in
set_option maxHeartbeats 4000000 in
theorem walk1_runs {W1 : World} {b : Nat} {l : List UInt8} (hb : Bx W1 b (.string (S l)) 9) (hl : l.length ≤ 4611686018427387904) : Runs encW 26 #[.pointer (some ⟨b, 0, none⟩)] (fra l) (fun k => k = b) W1 := by
  intro y J Jx hC
  obtain ⟨yf, yc, hyf⟩ := hC.yk.frm
  obtain ⟨Wa, hWa⟩ : ∃ Wa, Wa = W1.alloc (.cells #[y] 66) := ⟨_, rfl⟩
  have hsa : Wa.heap.size = W1.heap.size + 1 := by rw [hWa]; simp
  have hBa : Below W1.heap.size W1 Wa := by rw [hWa]; exact (Below.refl _ W1).alloc (Nat.le_refl _) _
  have bya : Bx Wa W1.heap.size y 66 := by rw [hWa]; exact Bx.new W1 _ _
  have hbl := hb.lt
  have hc0 := (hb.below hBa hb.lt).cell
  rw [hWa] at hc0
  subst hyf
  have HC : Hid _ := hC
  refine (callsIn_wide (n := 9)).1 ?_
  refine callsIn_of_wp_marks Try.func26 rfl trivial ?_ rfl
  simp only [Try.ntmps26, List.size_toArray, List.length_cons, List.length_nil, Nat.reduceAdd, Nat.reduceSub, Array.replicate_succ, Array.replicate_zero, List.push_toArray, List.append_toArray, List.nil_append, List.cons_append]
  clear hC hb
  gi_wp2_with (first
    | (refine ⟨trivial, ?_⟩; gi_at_call 27; rw [← hWa]; refine (callsIn_wide.2 (pieces_any l hl _)).mono ?_; rintro e w2 ⟨rfl, hS2, hB2⟩; rw [hsa] at hS2))
  have hs2 := hB2.size
  have by2 := bya.below hB2 (by omega)
  have hBw : Below W1.heap.size W1 w2 := hBa.trans (hB2.mono (by omega))
  refine range_pc (r := 3) rfl hS2
    (fun s pre W => J s pre W ∧ Bx W W1.heap.size (.func yf #[] yc) 66 ∧ w2.heap.size + 2 ≤ s ∧ s ≤ W.heap.size)
    (fun s c _ W => c = .ret ∧ ∃ pre, Jx s pre W)
    ?hI ?hIx ?hIs ?start ?assign ?body ?done ?stop
  case hI =>
    rintro s pre A B ⟨h1, h2, h4, h5⟩ hs
    exact ⟨HC.out.st s _ A B h1 (hs.low (by omega)), hs.bx h2 (.inl (by omega)), h4, Nat.le_trans h5 hs.size⟩
  case hIx =>
    rintro s c pre A B ⟨h0, pre', h1⟩ hs
    exact ⟨h0, pre', HC.out.stx s _ A B h1 (hs.low (by omega))⟩
  case hIs => rintro s pre W ⟨_, _, _, h⟩; exact h
  case start =>
    intro W0 hB h0
    exact ⟨HC.out.start W0 (hBw.trans (hB.mono hBw.size)), by2.below hB by2.lt, h0, Nat.le_refl _⟩
  case assign =>
    intro mm l' x W K hK
    simp only [pcs] at hK ⊢
    gi_wp2
    exact hK
  case body =>
    rintro mm l' s bq pre x Wp W ⟨hJ, h2, h4, h5⟩ hsb hbq hcb hnx
    have h2' := hsb.bx h2 (.inl (by omega))
    have c2 := h2'.cell
    obtain ⟨q0, q1, q2⟩ := pcs_cell hcb
    have hlt := (Array.getElem?_eq_some_iff.1 hcb).1
    have hsz := hsb.size
    simp only [List.setIfInBounds_toArray, List.set_cons_succ, List.set_cons_zero]
    have hY := HC.out.go s pre x Wp W hJ (hsb.low (by omega)) hnx
    have fin : Hid (∀ W' : World, KeepsFrom W1.heap.size W W' → Kq (fun k => k = b ∨ (W1.heap.size ≤ k ∧ k < s) ∨ (Wp.heap.size ≤ k ∧ k < W.heap.size)) W W' → KeepsFrom w2.heap.size W W' ∧ Kq (fun k => k = W1.heap.size + 1 ∨ (w2.heap.size + 2 ≤ k ∧ k < s) ∨ (Wp.heap.size ≤ k ∧ k < bq)) W W' ∧ Bx W' W1.heap.size (.func yf #[] yc) 66 ∧ s ≤ W'.heap.size) := fun W' k1 k2 => ⟨KeepsFrom.up k1 (by omega), k2.sub (fun k hk => by
      rcases hk with h | h | h
      · exact .inr (.inl (by omega))
      · exact .inr (.inl (by omega))
      · exact .inr (.inr (by omega))), kq_bx k2 (.inr (.inl (by omega))) h2', by have := k2.1; omega⟩
    clear hJ h2 h2'
    unfold encW at hY
    rcases id HC.out.yk with ⟨ly, hly⟩ | ⟨yg, yb, hyg, eg⟩
    · cases hly
      obtain ⟨fn, tmps, assign, body, hyl, hR⟩ := hY.yield
      have HR : Hid _ := hR
      clear hR hY
      gi_wp2
      refine ⟨(fun h => by cases h), ?_⟩
      refine RoundIn.mono (F := Fence.wide.inRound l') (HR.out _) ?_
      rintro e W5 ⟨k1, k2, ⟨rfl, hj⟩ | ⟨rfl, hj⟩⟩
      · have HJ : Hid _ := hj
        clear hj
        gi_wp2
        obtain ⟨f1, f2, f3, f4⟩ := fin.out W5 k1 k2
        exact ⟨f1, f2, HJ.out, f3, h4, f4⟩
      · have HJ : Hid _ := hj
        clear hj
        gi_wp2
        obtain ⟨f1, f2, f3, f4⟩ := fin.out W5 k1 k2
        exact ⟨f1, f2, rfl, _, HJ.out⟩
    · cases hyg
      have hc := hY.func
      unfold Ent0 at eg
      clear hY
      gi_wp2
      refine ⟨trivial, (fun h => by cases h), ?_⟩
      refine CallsIn.mono (CallsIn.inRound _ (callsIn_wide.2 hc)) ?_
      rintro e W5 ⟨k1, k2, ⟨rfl, hj⟩ | ⟨rfl, hj⟩⟩
      · have HJ : Hid _ := hj
        clear hj
        gi_wp2
        obtain ⟨f1, f2, f3, f4⟩ := fin.out W5 k1 k2
        exact ⟨f1, f2, HJ.out, f3, h4, f4⟩
      · have HJ : Hid _ := hj
        clear hj
        gi_wp2
        obtain ⟨f1, f2, f3, f4⟩ := fin.out W5 k1 k2
        exact ⟨f1, f2, rfl, _, HJ.out⟩
  case done =>
    rintro s W ⟨hJ, h2, h4, h5⟩ hD
    have HJ : Hid _ := HC.out.st s _ _ _ hJ (Sb.putD hD rfl (by omega) (.deferred none))
    clear hJ
    gi_wp2
    refine ⟨by simp, .inl ⟨_, _, rfl, takes hD, ?_⟩⟩
    exact ⟨_, results_none rfl _ _ _, ⟨_, rfl⟩, .inl ⟨s, HJ.out⟩⟩
  case stop =>
    rintro s c pre W ⟨rfl, pre', hJ⟩ hD
    have HJ : Hid _ := HC.out.stx s _ _ _ hJ (Sb.putD hD rfl (by omega) (.deferred none))
    clear hJ
    gi_wp2
    refine ⟨by simp, .inl ⟨_, _, rfl, takes hD, ?_⟩⟩
    exact ⟨_, results_none rfl _ _ _, ⟨_, rfl⟩, .inr ⟨s, _, HJ.out⟩⟩

theorem walk_sq {w : World} {b : Nat} {l : List UInt8} (hb : Bx w b (.string (S l)) 9) (hl : l.length ≤ 4611686018427387904) :
    Sq encW w (.func (.func 26) #[] #[.pointer (some ⟨b, 0, none⟩)]) (fra l) (fun k => k = b) :=
  ⟨_, _, rfl, enters_of Try.func26 (by kernel_rfl) rfl, fun k hk => by subst hk; exact hb.lt, fun _ hk => walk1_runs (kq_bx hk rfl hb) hl⟩
set_option maxHeartbeats 1000000 in
theorem Walk_any (l : List UInt8) (hl : l.length ≤ 4611686018427387904) (w : World) :
    Calls Try.prog 17 #[.string (S l)] w fun e w' => e = .returned (.func (.func 26) #[] #[.pointer (some ⟨w.heap.size, 0, none⟩)]) ∧ Sq encW w' (.func (.func 26) #[] #[.pointer (some ⟨w.heap.size, 0, none⟩)]) (fra l) (fun k => k = w.heap.size) ∧ Below w.heap.size w w' ∧ w'.heap.size = w.heap.size + 1 := by
  have hmf := mk_func
  obtain ⟨W2, hW2⟩ : ∃ W2, W2 = w.alloc (.cells #[.string (S l)] 9) := ⟨_, rfl⟩
  have hs2 : W2.heap.size = w.heap.size + 1 := by rw [hW2]; simp
  have b2 : Bx W2 w.heap.size (.string (S l)) 9 := by rw [hW2]; exact Bx.new w _ _
  have hB2 : Below w.heap.size w W2 := by rw [hW2]; exact (Below.refl _ w).alloc (Nat.le_refl _) _
  have HR : Hid _ := walk_sq b2 hl
  clear b2
  go_enter Try.func17, Try.ntmps17
  go_wp2
  rw [← hW2]
  go_ret
  exact ⟨rfl, HR.out, hB2, hs2⟩
end Go.Proofs.Ytbnfmaooailfeaa

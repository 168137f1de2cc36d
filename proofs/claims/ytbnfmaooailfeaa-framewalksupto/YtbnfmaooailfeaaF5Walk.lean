/-
  Package frame's pieces, Walk and Good.
-/
import Derived.Test.YtbnfmaooailfeaaF5Seq
namespace Go.Proofs.Ytbnfmaooailfeaa
open Go.RowKit Go.Shelf Go.Sort
open Go.Lib hiding intOf

attribute [local go_sem] Oper.semAt_some

/-- pieces' range, as a value -/
theorem pieces_sq {w : World} {b : Nat} {l : List UInt8} (hb : Bx w b (.string (S l)) 9) (hl : l.length ≤ 4611686018427387904) :
    Sq encP w (.func (.func 37) #[] #[.pointer (some ⟨b, 0, none⟩)]) (fra l) (fun k => k = b) :=
  ⟨_, _, rfl, enters_of Try.func37 (by kernel_rfl) rfl, fun k hk => by subst hk; exact hb.lt, fun _ hk => pieces1_runs (kq_bx hk rfl hb) hl⟩
theorem mk_func (fn : Fn) (first cap : Array Value) (w : World) : (Instr.makeFunc fn first cap).run Try.prog w = .ok (.func fn first cap) w := rfl
set_option maxHeartbeats 1000000 in
theorem pieces_any (l : List UInt8) (hl : l.length ≤ 4611686018427387904) (w : World) :
    Calls Try.prog 27 #[.string (S l)] w fun e w' => e = .returned (.func (.func 37) #[] #[.pointer (some ⟨w.heap.size, 0, none⟩)]) ∧ Sq encP w' (.func (.func 37) #[] #[.pointer (some ⟨w.heap.size, 0, none⟩)]) (fra l) (fun k => k = w.heap.size) ∧ Below w.heap.size w w' := by
  have hmf := mk_func
  obtain ⟨W2, hW2⟩ : ∃ W2, W2 = w.alloc (.cells #[.string (S l)] 9) := ⟨_, rfl⟩
  have b2 : Bx W2 w.heap.size (.string (S l)) 9 := by rw [hW2]; exact Bx.new w _ _
  have hB2 : Below w.heap.size w W2 := by rw [hW2]; exact (Below.refl _ w).alloc (Nat.le_refl _) _
  have HR : Hid _ := pieces_sq b2 hl
  clear b2
  go_enter Try.func27, Try.ntmps27
  go_wp2
  rw [← hW2]
  go_ret
  exact ⟨rfl, HR.out, hB2⟩

/-- a piece's cells -/
def pcs (x : Fr) : Array Value := #[.int .u8 (x.1.toNat : Int), .string (S x.2.1), .int .i64 (x.2.2 : Int)]
/-- 'for p := range f { .. }', p a piece in a cell of its own -/
theorem range_pc {g : Operand} {p : Tmp} {assign body : Code} {Q : Exit → Act → World → Prop} {a : Act} {w : World} {n : Nat} {f : Value} {l : List Fr} {X : Nat → Prop} (r : Nat)
    (hg : a.eval g = f) (hS : Sq encP w f l X)
    (I : Nat → List Fr → World → Prop) (Ix : Nat → Code → List Fr → World → Prop)
    (hI : ∀ s pre W W', I s pre W → Sb w.heap.size s W W' → I s pre W') (hIx : ∀ s c pre W W', Ix s c pre W → Sb w.heap.size s W W' → Ix s c pre W')
    (hIs : ∀ s pre W, I s pre W → s ≤ W.heap.size)
    (hstart : ∀ W0, Below w.heap.size w W0 → w.heap.size + 2 ≤ W0.heap.size → I W0.heap.size [] W0)
    (hassign : ∀ (m l' : Nat) (x : Fr) (W : World) (K : Act → World → Prop), K { tmps := (a.tmps.setIfInBounds p (.agg (pcs x))).setIfInBounds r (.pointer (some ⟨W.heap.size, 0, none⟩)), defers := [] } (W.alloc (.cells (pcs x) 60)) →
      assign.wpIn (Fence.wide.inRound l') m Try.prog (Exit.then K (fun _ _ _ => False)) { tmps := a.tmps.setIfInBounds p (.agg (pcs x)), defers := [] } W)
    (hbody : ∀ (m l' : Nat) (s b : Nat) (pre : List Fr) (x : Fr) (Wp W : World), I s pre Wp → Sb w.heap.size s Wp W → Wp.heap.size ≤ b → W.heap[b]? = some (.cells (pcs x) 60 (0, 0)) → pre ++ [x] <+: l →
      body.wpIn (Fence.wide.inRound l') m Try.prog (ownPostX w.heap.size (Kq (fun k => X k ∨ (w.heap.size + 2 ≤ k ∧ k < s) ∨ (Wp.heap.size ≤ k ∧ k < b))) (I s) (Ix s) (pre ++ [x]) W) { tmps := (a.tmps.setIfInBounds p (.agg (pcs x))).setIfInBounds r (.pointer (some ⟨b, 0, none⟩)), defers := [] } W)
    (hdone : ∀ (s : Nat) (W : World), I s l W → W.heap[w.heap.size]? = some (.deferred (some [])) → Q .normal { a with defers := { target := .collected w.heap.size, args := #[] } :: a.defers } W)
    (hstop : ∀ (s : Nat) (c : Code) (pre : List Fr) (W : World), Ix s c pre W → W.heap[w.heap.size]? = some (.deferred (some [])) → c.wpIn Fence.wide n Try.prog Q { a with defers := { target := .collected w.heap.size, args := #[] } :: a.defers } W) :
    (Code.rangeFunc g #[p] assign body).wpIn Fence.wide n Try.prog Q a w := by
  refine range_sqA (fun _ => rfl) hg hS I Ix (fun s z t pre x a' W => ∃ Wp, I s pre Wp ∧ Sb w.heap.size s Wp W ∧ Wp.heap.size = z ∧ z ≤ t ∧ W.heap[t]? = some (.cells (pcs x) 60 (0, 0)) ∧ a' = { tmps := (a.tmps.setIfInBounds p (.agg (pcs x))).setIfInBounds r (.pointer (some ⟨t, 0, none⟩)), defers := [] }) hI hIx
    ?_ hstart (fun m l' s pre x Wp W K hi hsb _ hK => ?_) (fun m l' s z t pre x a' W h hnx => ?_) hdone hstop
  · rintro s z t pre x a' W W' ⟨Wp, h1, h2, h3, h4, h5, h6⟩ hs
    refine ⟨Wp, h1, h2.trans hs, h3, h4, Ch.obj hs h5 ?_, h6⟩
    rintro ⟨_, h | ⟨o, ho, hc⟩⟩
    · have := hIs s pre Wp h1; omega
    · rw [h5] at ho; cases ho; cases hc
  · have e : ((#[p] : Array Tmp).zip (encP x)).foldl (fun t (p, v) => t.setIfInBounds p v) a.tmps = a.tmps.setIfInBounds p (.agg (pcs x)) := by simp [Array.zip, encP, pcs]
    rw [e]
    refine hassign m l' x W K (hK _ _ (KeepsFrom.of_ch (Y := fun _ => False) ((Ch.refl _ W).alloc _) (fun _ h => h.elim)) ((Kq.refl _ W).alloc _) ⟨Wp, hi, ?_, rfl, Ch.size hsb, heap_alloc_new W _, rfl⟩)
    exact hsb.trans (Sb.of_below ((Below.refl _ W).alloc (Nat.le_refl _) _))
  · obtain ⟨Wp, h1, h2, rfl, h4, h5, rfl⟩ := h
    exact hbody m l' s t pre x Wp W h1 h2 h4 h5 hnx

theorem pcs_cell {W : World} {b : Nat} {x : Fr} (h : W.heap[b]? = some (.cells (pcs x) 60 (0, 0))) : W.cell? ⟨b, 0, none⟩ = some (.int .u8 (x.1.toNat : Int)) ∧ W.cell? ⟨b, 1, none⟩ = some (.string (S x.2.1)) ∧ W.cell? ⟨b, 2, none⟩ = some (.int .i64 (x.2.2 : Int)) := by
  refine ⟨?_, ?_, ?_⟩ <;> simp only [World.cell?, h, pcs] <;> rfl

set_option maxRecDepth 100000 in
set_option maxHeartbeats 4000000 in
theorem Good_any (l : List UInt8) (hl : l.length ≤ 4611686018427387904) (w : World) :
    Calls Try.prog 18 #[.string (S l)] w fun e w' => e = .returned (.int .i64 (god (fra l) : Nat)) ∧ Below w.heap.size w w' := by
  have hgl := god_le _ l (Nat.le_refl _)
  refine (callsIn_wide (n := 9)).1 ?_
  refine callsIn_of_wp_marks Try.func18 rfl trivial ?_ rfl
  simp only [Try.ntmps18, List.size_toArray, List.length_cons, List.length_nil, Nat.reduceAdd, Nat.reduceSub, Array.replicate_succ, Array.replicate_zero, List.push_toArray, List.append_toArray, List.nil_append, List.cons_append]
  obtain ⟨W2, hW2⟩ : ∃ W2, W2 = w.alloc (.cells #[.int .i64 0] 3) := ⟨_, rfl⟩
  have hs2 : W2.heap.size = w.heap.size + 1 := by rw [hW2]; simp
  have hB2 : Below w.heap.size w W2 := by rw [hW2]; exact (Below.refl _ w).alloc (Nat.le_refl _) _
  have bn2 : Bx W2 w.heap.size (.int .i64 0) 3 := by rw [hW2]; exact Bx.new w _ _
  gi_wp2_with (first
    | (refine ⟨trivial, ?_⟩; gi_at_call 27; rw [← hW2]; refine (callsIn_wide.2 (pieces_any l hl _)).mono ?_; rintro e w3 ⟨rfl, hS3, hB3⟩; rw [hs2] at hS3))
  have hs3 := hB3.size
  have bn3 := bn2.below hB3 (by omega)
  have hBw : Below w.heap.size w w3 := hB2.trans (hB3.mono (by omega))
  refine range_pc (r := 4) rfl hS3
    (fun s pre W => Bx W w.heap.size (.int .i64 (god pre : Nat)) 3 ∧ Below w.heap.size w W ∧ w3.heap.size + 2 ≤ s ∧ s ≤ W.heap.size)
    (fun _ _ _ _ => False)
    ?hI ?hIx ?hIs ?start ?assign ?body ?done ?stop
  case hI =>
    rintro s pre A B ⟨h1, h2, h3, h4⟩ hs
    exact ⟨hs.bx h1 (.inl (by omega)), hs.below h2 (Nat.le_refl _) (by omega), h3, Nat.le_trans h4 hs.size⟩
  case hIx => rintro s c pre A B h; exact h.elim
  case hIs => rintro s pre W ⟨_, _, _, h4⟩; exact h4
  case start =>
    intro W0 hB h0
    exact ⟨bn3.below hB bn3.lt, hBw.trans (hB.mono hBw.size), h0, Nat.le_refl _⟩
  case assign =>
    intro mm l' x W K hK
    simp only [pcs] at hK ⊢
    gi_wp2
    exact hK
  case body =>
    rintro mm l' s b pre x Wp W ⟨h1, h2, h3, h4⟩ hsb hb hcb hnx
    have h1' := hsb.bx h1 (.inl (by omega))
    have h2' := hsb.below h2 (Nat.le_refl _) (by omega)
    have hsz := hsb.size
    obtain ⟨q0, q1, q2⟩ := pcs_cell hcb
    have c1 := h1'.cell
    have f1 := h1'.fro
    have hgp : god (pre ++ [x]) ≤ l.length := by
      obtain ⟨t, ht⟩ := hnx
      have : god (fra l) = god (pre ++ [x]) + god t := by rw [← ht, god_append]
      omega
    rw [god_snoc] at hgp
    have e1 : (god pre : Int) + (x.2.2 : Int) = ((god (pre ++ [x]) : Nat) : Int) := by rw [god_snoc]; simp
    have HB : Hid (Bx W w.heap.size (.int .i64 (god pre : Nat)) 3 ∧ Below w.heap.size w W) := ⟨h1', h2'⟩
    simp only [List.setIfInBounds_toArray, List.set_cons_succ, List.set_cons_zero]
    clear h1 h1' h2 h2'
    gi_wp2
    have hc : Ch (fun k => k = w.heap.size) W (W.setCell ⟨w.heap.size, 0, none⟩ (.int .i64 ((god (pre ++ [x]) : Nat) : Int))) := (Ch.refl _ W).setCell _ _ (fun _ => rfl)
    exact ⟨KeepsFrom.of_ch hc (fun k e => by subst e; exact ⟨_, HB.out.1, rfl⟩), Kq.of_ch hc (fun k hk e => by omega), one0 HB.out.1 _, HB.out.2.setCell (Nat.le_refl _) _, h3, by simp; omega⟩
  case done =>
    rintro s W ⟨h1, h2, h3, h4⟩ hD
    have c1 := h1.cell
    have H2 : Hid _ := h2
    clear h1 h2
    gi_wp2
    refine ⟨by simp, .inl ⟨_, _, rfl, takes hD, ?_⟩⟩
    exact ⟨_, results_tmp rfl _ _ _, rfl, below_take H2.out (Nat.le_refl _) (by omega) _⟩
  case stop => rintro s c pre W h; exact h.elim
end Go.Proofs.Ytbnfmaooailfeaa

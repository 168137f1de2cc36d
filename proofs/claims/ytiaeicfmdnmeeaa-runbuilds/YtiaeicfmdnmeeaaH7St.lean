/-
  Package run's writer, plain: how blocks come about row by row; a range over keys and cells with the cell in a block of its own.
-/
import Derived.Test.YtiaeicfmdnmeeaaH7End
namespace Go.Proofs.Ytiaeicfmdnmeeaa
open Go.RowKit Go.Shelf Go.Sort
open Go.Lib hiding intOf

/-- the writer behind some rows -/
structure St7 (blk : Nat) (pre : List R7) (bs : List (List R7)) (cur : List R7) : Prop where
  eq : ∃ full, (∀ rest, cutB blk [] (pre ++ rest) = full ++ cutB blk cur rest) ∧ (bs = full ∨ (bs <+: full ∧ 1048576 < (fbs bs).length))
  D : (fbs bs).length ≤ 1200000
  L : (ld cur).length ≤ 4096 + 16470
  ms : ∀ y ∈ bs, ∀ x ∈ y, may x = 0
  mc : ∀ x ∈ cur, may x = 0
theorem St7.nil (blk : Nat) : St7 blk [] [] [] := ⟨⟨[], fun _ => rfl, .inl rfl⟩, by simp [fbs], by simp [ld], by simp, by simp⟩
theorem fb_most {cur : List R7} (h : (ld cur).length ≤ 65536) : (fb cur).length ≤ (ld cur).length + 15 := by
  have := fb_length cur
  have := txt_length (ld cur)
  have := Lib.uvarint_length64 (show (ld cur).length < 18446744073709551616 by omega)
  omega
theorem St7.step {blk : Nat} (h1 : 0 < blk) (h2 : blk ≤ 4096) {pre : List R7} {bs : List (List R7)} {cur : List R7} {x : R7} (h : St7 blk pre bs cur) (hm : may x = 0) : St7 blk (pre ++ [x]) (addS blk bs cur x).1 (addS blk bs cur x).2 := by
  have hL := h.L
  have hD := h.D
  have hrb := rb_most hm
  obtain ⟨full, e1, e2⟩ := h.eq
  unfold addS
  by_cases hf : blk ≤ (ld cur).length
  · rw [if_pos hf]
    have hne : cur ≠ [] := by rintro rfl; simp [ld] at hf; omega
    have hfb := fb_most (cur := cur) (by omega)
    refine ⟨⟨full ++ [cur], fun rest => ?_, ?_⟩, ?_, ?_, ?_, ?_⟩
    · rw [List.append_assoc, List.singleton_append, e1, cutB_full hf]; simp
    · unfold cls
      by_cases hl : 1048576 < (fbs bs).length
      · rw [if_pos (.inr hl)]
        right
        refine ⟨?_, hl⟩
        rcases e2 with rfl | ⟨e2, _⟩
        · exact List.prefix_append _ _
        · exact e2.trans (List.prefix_append _ _)
      · rw [if_neg (by simp [hne]; omega)]
        rcases e2 with rfl | ⟨_, e2⟩
        · exact .inl rfl
        · exact absurd e2 hl
    · unfold cls
      split
      · exact hD
      · rename_i hc
        rw [fbs_snoc, List.length_append]
        omega
    · simp only; rw [show ld [x] = rb x by simp [ld]]; omega
    · intro y hy
      unfold cls at hy
      split at hy
      · exact h.ms y hy
      · rcases List.mem_append.1 hy with hy | hy
        · exact h.ms y hy
        · obtain rfl : y = cur := by simpa using hy
          exact h.mc
    · intro z hz
      obtain rfl : z = x := by simpa using hz
      exact hm
  · rw [if_neg hf]
    refine ⟨⟨full, fun rest => ?_, e2⟩, hD, ?_, h.ms, ?_⟩
    · rw [List.append_assoc, List.singleton_append, e1, cutB_more (by omega)]
    · simp only; rw [ld_snoc, List.length_append]; omega
    · intro z hz
      rcases List.mem_append.1 hz with hz | hz
      · exact h.mc z hz
      · obtain rfl : z = x := by simpa using hz
        exact hm
theorem fbs_prefix {a b : List (List R7)} (h : a <+: b) : (fbs a).length ≤ (fbs b).length := by
  obtain ⟨t, rfl⟩ := h
  rw [fbs_append, List.length_append]; omega
theorem endS_long {bs : List (List R7)} (h : 1048576 < (fbs bs).length) : endS bs = ([], 13) := by
  unfold endS; rw [if_pos (.inr (by rw [rn_len]; omega))]
theorem St7.fin {blk : Nat} {l : List R7} {bs : List (List R7)} {cur : List R7} (h : St7 blk l bs cur) : endS (cls bs cur) = endS (cutB blk [] l) := by
  obtain ⟨full, e1, e2⟩ := h.eq
  have e3 := e1 []
  rw [List.append_nil] at e3
  rw [e3]
  by_cases hl : 1048576 < (fbs bs).length
  · have hc : cls bs cur = bs := by unfold cls; rw [if_pos (.inr hl)]
    have hp : bs <+: full ++ cutB blk cur [] := by
      rcases e2 with rfl | ⟨e2, _⟩
      · exact List.prefix_append _ _
      · exact e2.trans (List.prefix_append _ _)
    rw [hc, endS_long hl, endS_long (Nat.lt_of_lt_of_le hl (fbs_prefix hp))]
  · have hb : bs = full := by
      rcases e2 with e | ⟨_, e⟩
      · exact e
      · exact absurd e hl
    subst hb
    by_cases hc : cur = []
    · subst hc
      rw [cutB_nil, List.append_nil]
      simp [cls]
    · rw [cutB_end blk hc]
      unfold cls
      rw [if_neg (by simp [hc]; omega)]
theorem key1_may {y : List R7} (h : ∀ x ∈ y, may x = 0) : (key1 y).length ≤ 64 := by
  cases y with
  | nil => simp [key1]
  | cons x t => exact (may_len (h x (by simp))).1
theorem St7.keys {blk : Nat} {l : List R7} {bs : List (List R7)} {cur : List R7} (h : St7 blk l bs cur) : ∀ y ∈ cls bs cur, (key1 y).length ≤ 64 := by
  intro y hy
  refine key1_may ?_
  unfold cls at hy
  split at hy
  · exact h.ms y hy
  · rcases List.mem_append.1 hy with hy | hy
    · exact h.ms y hy
    · obtain rfl : y = cur := by simpa using hy
      exact h.mc
theorem wf_cells {w : World} {B wb blk : Nat} {dv sv lv : Value} {D L fk : List UInt8} {sp : List (Nat × List UInt8)} (h : Wt w B wb blk dv sv lv D sp L fk) {x : Nat} (hx : wf wb dv sv lv x) : ∃ o : Obj, w.heap[x]? = some o ∧ o.isCells = true := by
  rcases hx with rfl | hx | hx | hx
  · exact ⟨_, h.hd, rfl⟩
  · obtain ⟨_, cur, hc⟩ := row_obj h.rd hx; exact ⟨_, hc, rfl⟩
  · obtain ⟨_, cur, hc⟩ := row_obj h.rs hx; exact ⟨_, hc, rfl⟩
  · obtain ⟨_, cur, hc⟩ := row_obj h.rl hx; exact ⟨_, hc, rfl⟩
theorem Ws.sb {X : Nat → Prop} {n s : Nat} {w w' : World} {B wb blk : Nat} {bs : List (List R7)} {cur : List R7} (h : Ws X w B wb blk bs cur) (hs : Sb n s w w') (hX : ∀ x, X x → x < n ∨ s ≤ x) : Ws X w' B wb blk bs cur := by
  obtain ⟨dv, sv, lv, fk, h1, h2, h3⟩ := h
  refine ⟨dv, sv, lv, fk, h1.ch hs (fun x hx hb => ?_), h2, h3⟩
  obtain ⟨o, ho, hc⟩ := wf_cells h1 hx
  rcases hb with ⟨hb1, hb2 | ⟨o', ho', hc'⟩⟩
  · have := hX x (h3 x hx); omega
  · rw [ho] at ho'; cases ho'; rw [hc] at hc'; cases hc'
/-- 'for k, c := range f { .. }', c in a block of its own -/
theorem range_kc {g : Operand} {p1 p2 : Tmp} {assign body : Code} {Q : Exit → Act → World → Prop} {a : Act} {w : World} {n : Nat} {f : Value} {l : List R7} {X : Nat → Prop} (r1 r2 : Nat)
    (hg : a.eval g = f) (hS : Sq encc w f l X)
    (I : Nat → List R7 → World → Prop) (Ix : Nat → Code → List R7 → World → Prop)
    (hI : ∀ s pre W W', I s pre W → Sb w.heap.size s W W' → I s pre W') (hIx : ∀ s c pre W W', Ix s c pre W → Sb w.heap.size s W W' → Ix s c pre W')
    (hIs : ∀ s pre W, I s pre W → s ≤ W.heap.size)
    (hstart : ∀ W0, Below w.heap.size w W0 → w.heap.size + 2 ≤ W0.heap.size → I W0.heap.size [] W0)
    (hassign : ∀ (m l' : Nat) (x : R7) (W : World) (K : Act → World → Prop), K { tmps := (((a.tmps.setIfInBounds p1 (.string (S x.1))).setIfInBounds p2 (cv x.2)).setIfInBounds r1 (.string (S x.1))).setIfInBounds r2 (.pointer (some ⟨W.heap.size, 0, none⟩)), defers := [] } (W.alloc (cbx x)) →
      assign.wpIn (Fence.wide.inRound l') m Try.prog (Exit.then K (fun _ _ _ => False)) { tmps := (a.tmps.setIfInBounds p1 (.string (S x.1))).setIfInBounds p2 (cv x.2), defers := [] } W)
    (hbody : ∀ (m l' : Nat) (s b : Nat) (pre : List R7) (x : R7) (Wp W : World), I s pre Wp → Sb w.heap.size s Wp W → Wp.heap.size ≤ b → W.heap[b]? = some (cbx x) → pre ++ [x] <+: l →
      body.wpIn (Fence.wide.inRound l') m Try.prog (ownPostX w.heap.size (Kq (fun k => X k ∨ (w.heap.size + 2 ≤ k ∧ k < s) ∨ (Wp.heap.size ≤ k ∧ k < b))) (I s) (Ix s) (pre ++ [x]) W) { tmps := (((a.tmps.setIfInBounds p1 (.string (S x.1))).setIfInBounds p2 (cv x.2)).setIfInBounds r1 (.string (S x.1))).setIfInBounds r2 (.pointer (some ⟨b, 0, none⟩)), defers := [] } W)
    (hdone : ∀ (s : Nat) (W : World), I s l W → W.heap[w.heap.size]? = some (.deferred (some [])) → Q .normal { a with defers := { target := .collected w.heap.size, args := #[] } :: a.defers } W)
    (hstop : ∀ (s : Nat) (c : Code) (pre : List R7) (W : World), Ix s c pre W → W.heap[w.heap.size]? = some (.deferred (some [])) → c.wpIn Fence.wide n Try.prog Q { a with defers := { target := .collected w.heap.size, args := #[] } :: a.defers } W) :
    (Code.rangeFunc g #[p1, p2] assign body).wpIn Fence.wide n Try.prog Q a w := by
  refine range_sqA (fun _ => rfl) hg hS I Ix (fun s z t pre x a' W => ∃ Wp, I s pre Wp ∧ Sb w.heap.size s Wp W ∧ Wp.heap.size = z ∧ z ≤ t ∧ W.heap[t]? = some (cbx x) ∧ a' = { tmps := (((a.tmps.setIfInBounds p1 (.string (S x.1))).setIfInBounds p2 (cv x.2)).setIfInBounds r1 (.string (S x.1))).setIfInBounds r2 (.pointer (some ⟨t, 0, none⟩)), defers := [] }) hI hIx
    ?_ hstart (fun m l' s pre x Wp W K hi hsb _ hK => ?_) (fun m l' s z t pre x a' W h hnx => ?_) hdone hstop
  · rintro s z t pre x a' W W' ⟨Wp, h1, h2, h3, h4, h5, h6⟩ hs
    refine ⟨Wp, h1, h2.trans hs, h3, h4, Ch.obj hs h5 ?_, h6⟩
    rintro ⟨_, h | ⟨o, ho, hc⟩⟩
    · have := hIs s pre Wp h1; omega
    · rw [h5] at ho; cases ho; cases hc
  · have e : ((#[p1, p2] : Array Tmp).zip (encc x)).foldl (fun t (p, v) => t.setIfInBounds p v) a.tmps = (a.tmps.setIfInBounds p1 (.string (S x.1))).setIfInBounds p2 (cv x.2) := by simp [Array.zip, encc]
    rw [e]
    refine hassign m l' x W K (hK _ _ (KeepsFrom.of_ch (Y := fun _ => False) ((Ch.refl _ W).alloc _) (fun _ h => h.elim)) ((Kq.refl _ W).alloc _) ⟨Wp, hi, ?_, rfl, Ch.size hsb, heap_alloc_new W _, rfl⟩)
    exact hsb.trans (Sb.of_below ((Below.refl _ W).alloc (Nat.le_refl _) _))
  · obtain ⟨Wp, h1, h2, rfl, h4, h5, rfl⟩ := h
    exact hbody m l' s t pre x Wp W h1 h2 h4 h5 hnx
end Go.Proofs.Ytiaeicfmdnmeeaa

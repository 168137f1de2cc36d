/-
  Contract of the document's Walk: the frames one by one, and how many bytes they have.
-/
import Derived.Test.YtbnfmaooailfeaaF5Ref
import Derived.Test.YtbnfmaooailfeaaF5Fra
import Derived.Test.YtbnfmaooailfeaaROrd
namespace Go.Proofs.Ytbnfmaooailfeaa
open Go.RowKit Go.Shelf Go.Sort
open Go.Lib hiding intOf

theorem infoRow5 : (Try.prog.info? 43).map (fun i => (i.zero, i.size, i.bytes)) = some (some (.agg #[.int .u8 0, .string ⟨#[]⟩]), 2, 24) := by kernel_rfl
/-- the cells of frames, two each -/
def rcs (l : List Fr) : List Value := l.flatMap (fun x => [Value.int .u8 (x.1.toNat : Int), Value.string (S x.2.1)])
theorem rcs_snoc (l : List Fr) (x : Fr) : rcs (l ++ [x]) = rcs l ++ [.int .u8 (x.1.toNat : Int), .string (S x.2.1)] := by simp [rcs]
theorem rcs_length (l : List Fr) : (rcs l).length = l.length * 2 := by
  induction l with
  | nil => rfl
  | cons x t ih => simp only [rcs, List.flatMap_cons, List.length_append, List.length_cons, List.length_nil] at ih ⊢; omega
theorem rcs_get : ∀ (l : List Fr) (j : Nat) (h : j < l.length), (rcs l)[j * 2]? = some (.int .u8 (l[j].1.toNat : Int)) ∧ (rcs l)[j * 2 + 1]? = some (.string (S l[j].2.1))
  | [], _, h => by simp at h
  | x :: t, 0, _ => ⟨rfl, rfl⟩
  | x :: t, j + 1, h => by
    have := rcs_get t j (by simpa using h)
    have e : ∀ n, (rcs (x :: t))[n + 2]? = (rcs t)[n]? := fun n => rfl
    rw [show (j + 1) * 2 = j * 2 + 2 by omega, e, show j * 2 + 2 + 1 = (j * 2 + 1) + 2 by omega, e]
    exact this
theorem two_c {w : World} {vb : Nat} {x y : Value} {t : TypeId} (hv : w.heap[vb]? = some (.cells #[x, y] t (0, 0))) : ∀ j u, ([x, y] : List Value)[j]? = some u → w.cell? ⟨vb, 0 + j, none⟩ = some u := by
  intro j u hj
  match j, hj with
  | 0, hj => simp at hj; subst hj; simp [World.cell?, hv]
  | 1, hj => simp at hj; subst hj; simp [World.cell?, hv]
  | n + 2, hj => simp at hj
theorem row_bel {w w' : World} {base : Nat} {e : TypeId} {size : Nat} {v : Value} {n : Nat} {xs : List Value} (h : w.ownsRow base e size v n xs) (hb : Below w.heap.size w w') : w'.ownsRow base e size v n xs := Ch.row (X := fun _ => False) (Ch.of_below hb) h (fun _ _ h => h)
/-- what stands in the loop -/
def JW (w : World) (pre : List Fr) (v : Value) (wr : World) : Prop := wr.ownsRow w.heap.size 43 2 v pre.length (rcs pre) ∧ Below w.heap.size w wr

set_option maxRecDepth 100000 in
set_option maxHeartbeats 4000000 in
theorem rWalk_any (l : List UInt8) (hl : l.length ≤ 1048576) (w : World) :
    Calls Try.prog 16 #[.string (S l)] w fun e w' => ∃ v, e = .returned (.tuple #[v, .int .i64 (god (fra l) : Nat)]) ∧ w'.ownsRow w.heap.size 43 2 v (fra l).length (rcs (fra l)) ∧ Below w.heap.size w w' := by
  obtain ⟨i0, hi0, hz0, hz1, hz2⟩ := info_parts infoRow5
  have hs := S_size l
  have hfl := fra_len _ l (Nat.le_refl _)
  have hgl := god_le _ l (Nat.le_refl _)
  go_enter Try.func16, Try.ntmps16
  go_wp2
  go_loopw [4, 5] (fun vs va wr => ∃ (pre : List Fr) (m : List UInt8), va = .int .i64 (god pre : Nat) ∧ l.drop (god pre) = m ∧ god pre ≤ l.length ∧ fra l = pre ++ fra m ∧ JW w pre vs wr) (fun _ va _ => l.length - (intOf va).toNat)
  case atStart => exact ⟨[], l, rfl, rfl, Nat.zero_le _, rfl, World.ownsRow_nil _ _ _ _, Below.refl _ _⟩
  case round =>
    obtain ⟨pre, m, rfl, hm, hgp, hfr, hJ⟩ := hrel
    have hml : m.length = l.length - god pre := by rw [← hm, List.length_drop]
    by_cases hlt : god pre < l.length
    · have hli : (god pre : Int) < (l.length : Int) := by omega
      have h00 : (0 : Int) ≤ (god pre : Int) := by omega
      have hle : (god pre : Int) ≤ (l.length : Int) := by omega
      have hx : (S l).extract (god pre) l.length = S m := by rw [S_drop, hm]
      have hT := fun w => rTake_any m (by omega) w
      have HJ : Hid (JW w pre u4 wr) := hJ
      clear hJ
      by_cases h0 : (tak m).2.2.2 = 0
      · obtain ⟨h6, hn5, hnl⟩ := tak_ok h0
        have hst := fra_step h0
        rw [hst] at hfr
        have hln : pre.length + 1 ≤ (fra l).length := by rw [hfr]; simp
        have HF : Hid (fra l = (pre ++ [((tak m).1, (tak m).2.1, (tak m).2.2.1)]) ++ fra (m.drop (tak m).2.2.1)) := by show _ = _; rw [hfr]; simp
        have HG : Hid (god (pre ++ [((tak m).1, (tak m).2.1, (tak m).2.2.1)]) = god pre + (tak m).2.2.1 ∧ l.drop (god (pre ++ [((tak m).1, (tak m).2.1, (tak m).2.2.1)])) = m.drop (tak m).2.2.1) := by
          have e := god_snoc pre ((tak m).1, (tak m).2.1, (tak m).2.2.1)
          simp only at e
          exact ⟨e, by rw [e, ← hm, List.drop_drop]⟩
        have HR : Hid (∀ x : Fr, rcs (pre ++ [x]) = rcs pre ++ [.int .u8 (x.1.toNat : Int), .string (S x.2.1)]) := rcs_snoc pre
        clear hfr hst hm
        unfold quad at hT
        generalize m.drop (tak m).2.2.1 = md at *
        generalize tak m = r at *
        obtain ⟨c, s, n, er⟩ := r
        simp only at hT hnl hn5 h0
        subst h0
        obtain ⟨a4, c4, rfl, -⟩ := row_slice HJ.out.1
        go_wp2_with (first
          | (go_at_call 15; refine (hT _).mono ?_; rintro e w3 ⟨rfl, hB3⟩; have HR3 : Hid (w3.ownsRow w.heap.size 43 2 (.slice a4 pre.length c4) pre.length (rcs pre)) := row_bel HJ.out.1 hB3)
          | (at_builtin; refine wpList_append_own _ rfl _ _ 36 rfl w.heap.size 43 i0 _ 2 24 Try.underlying36 hi0 hz0 hz1 hz2 rfl (by decide) _ pre.length (rcs pre) rfl (HR3.out.alloc _) ⟨w3.heap.size, 0, none⟩ 1 1 [.int .u8 (c.toNat : Int), .string (S s)] rfl rfl (fun j u hj => by rw [Addr.add_lit]; exact two_c (heap_alloc_new w3 _) j u hj) (by simp [Value.oneCell']) (by unfold maxLen; omega) (by omega) (by have := HJ.out.2.size; have := hB3.size; simp; omega) ?_; intro v5 w5 ho5 hg5 _))
        refine ⟨⟨pre ++ [(c, s, n)], md, ?_, HG.out.2, ?_, HF.out, ?_, ?_⟩, ?_⟩
        · rw [HG.out.1]; simp
        · rw [HG.out.1]; omega
        · rw [HR.out, List.length_append]; exact ho5
        · have hB4 : Below w.heap.size w w3 := bel_of HJ.out.2 hB3 (Nat.le_refl _)
          exact (hB4.alloc hB4.size _).grown hg5 (by have := hB4.size; simp; omega) (fun k hk => (HR3.out.lt k hk).1)
        · simp [intOf]; omega
      · have hnil := fra_end h0
        rw [hnil, List.append_nil] at hfr
        have hbe : (((tak m).2.2.2 : Int) != 0) = true := by rw [bne_iff_ne]; omega
        have HF : Hid (fra l = pre) := hfr
        clear hfr hnil hm
        unfold quad at hT
        generalize tak m = r at *
        obtain ⟨c, s, n, er⟩ := r
        simp only at hT hbe
        obtain ⟨a4, c4, rfl, -⟩ := row_slice HJ.out.1
        go_wp2_with (first
          | (go_at_call 15; refine (hT _).mono ?_; rintro e w3 ⟨rfl, hB3⟩))
        go_ret2
        refine ⟨_, ?_, row_bel (HF.out ▸ HJ.out.1) hB3, bel_of HJ.out.2 hB3 (Nat.le_refl _)⟩
        rw [HF.out]
        rfl
    · have hmn : m = [] := List.eq_nil_of_length_eq_zero (by omega)
      have h0 : fra ([] : List UInt8) = [] := rfl
      rw [hmn, h0, List.append_nil] at hfr
      have hli : ¬ (god pre : Int) < (l.length : Int) := by omega
      have HJ : Hid (JW w pre u4 wr) := hJ
      have HF : Hid (fra l = pre) := hfr
      clear hfr hm hJ
      obtain ⟨a4, c4, rfl, -⟩ := row_slice HJ.out.1
      go_wp2
      go_ret2
      refine ⟨_, ?_, (HF.out ▸ HJ.out.1), HJ.out.2⟩
      rw [HF.out]
      rfl
end Go.Proofs.Ytbnfmaooailfeaa

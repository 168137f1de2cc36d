/-
  The map of texts: its cells, and the place of a key.
-/
import Derived.Test.YtkohcdefhaokiaaSUser
namespace Go.Proofs.Ytkohcdefhaokiaa.T
open Go.RowKit Go.Shelf Go.Lib Go.Sort

/-- the cells of a map's entries -/
def flat (es : List (ByteArray × ByteArray)) : List Value := es.flatMap (fun e => [Value.string e.1, Value.string e.2])

theorem flat_length (es : List (ByteArray × ByteArray)) : (flat es).length = es.length * 2 := by
  induction es with
  | nil => rfl
  | cons e r ih => simp only [flat, List.flatMap_cons, List.length_append, List.length_cons, List.length_nil] at *; omega

theorem flat_key : ∀ (es : List (ByteArray × ByteArray)) (j : Nat) (h : j < es.length), (flat es)[j * 2]? = some (.string es[j].1)
  | e :: r, 0, _ => rfl
  | e :: r, j + 1, h => by
    have := flat_key r j (by simpa using h)
    rw [show (j + 1) * 2 = j * 2 + 1 + 1 by omega]
    simpa [flat] using this

theorem flat_val : ∀ (es : List (ByteArray × ByteArray)) (j : Nat) (h : j < es.length), (flat es)[j * 2 + 1]? = some (.string es[j].2)
  | e :: r, 0, _ => rfl
  | e :: r, j + 1, h => by
    have := flat_val r j (by simpa using h)
    rw [show (j + 1) * 2 + 1 = (j * 2 + 1) + 1 + 1 by omega]
    simpa [flat] using this

theorem flat_append (a b : List (ByteArray × ByteArray)) : flat (a ++ b) = flat a ++ flat b := by simp [flat]

theorem flat_take (es : List (ByteArray × ByteArray)) (n : Nat) : flat (es.take n) = (flat es).take (n * 2) := by
  induction es generalizing n with
  | nil => simp [flat]
  | cons e r ih =>
    cases n with
    | zero => simp [flat]
    | succ n =>
      rw [show (n + 1) * 2 = n * 2 + 1 + 1 by omega]
      have := ih n
      simp only [flat, List.flatMap_cons, List.take_succ_cons, List.cons_append, List.nil_append] at *
      rw [this]

theorem flat_drop (es : List (ByteArray × ByteArray)) (n : Nat) : flat (es.drop n) = (flat es).drop (n * 2) := by
  induction es generalizing n with
  | nil => simp [flat]
  | cons e r ih =>
    cases n with
    | zero => simp [flat]
    | succ n =>
      rw [show (n + 1) * 2 = n * 2 + 1 + 1 by omega]
      have := ih n
      simp only [flat, List.flatMap_cons, List.drop_succ_cons, List.cons_append, List.nil_append] at *
      rw [this]

set_option maxHeartbeats 1000000 in
theorem placeOf (bc bk g n cap i : Nat) (y k : ByteArray) (W : World) (hi : i < n)
    (hc : W.cell? ⟨bc, 0, none⟩ = some (.slice (some ⟨g, 0, none⟩) n cap)) (hk : W.cell? ⟨bk, 0, none⟩ = some (.string k)) (hy : W.cell? ⟨g, i * 2, none⟩ = some (.string y)) :
    Calls Try.prog 72 (#[.int .i64 i] ++ #[.pointer (some ⟨bc, 0, none⟩), .pointer (some ⟨bk, 0, none⟩)]) W fun e w' => e = .returned (.bool (!lt y k)) ∧ ∃ q, w' = W.drewN q := by
  have hiz : (i : Int) < (n : Int) := by omega
  go_enter Try.func72, Try.ntmps72
  go_wp2
  go_region
  all_goals go_wp2
  all_goals go_ret
  all_goals exact ⟨by first | rfl | simp [lt], 1, rfl⟩

set_option maxHeartbeats 2000000 in
/-- place: of how many entries the key is less -/
theorem place_any {w : World} {sv : Value} {es : List (ByteArray × ByteArray)} (k : ByteArray) (hrow : w.ownsRow 0 81 2 sv es.length (flat es)) (hs : Rise es) (hn : es.length < 4611686018427387904) :
    Calls Try.prog 60 #[sv, .string k] w fun e w' => e = .returned (.int .i64 (pos es k : Nat)) ∧ Below w.heap.size w w' := by
  obtain ⟨W0, hW0⟩ : ∃ W0, W0 = (w.alloc (.cells #[sv] 75)).alloc (.cells #[.string k] 9) := ⟨_, rfl⟩
  have hsize : W0.heap.size = w.heap.size + 1 + 1 := by rw [hW0]; simp
  have ca : W0.cell? ⟨w.heap.size, 0, none⟩ = some sv := by rw [hW0]; exact cell_alloc_sl _ (cell_new_sl w _ _)
  have cx : W0.cell? ⟨w.heap.size + 1, 0, none⟩ = some (.string k) := by rw [hW0]; have := cell_new_sl (w.alloc (.cells #[sv] 75)) (.string k) 9; rwa [World.size_alloc] at this
  have hrow0 : W0.ownsRow 0 81 2 sv es.length (flat es) := by rw [hW0]; exact (hrow.alloc _).alloc _
  have eg : ∀ args w, (callFunc 72 args).run Try.prog w = .ok (.enter 72 args) w := enters_of Try.func72 (by kernel_rfl) rfl
  have hS := Any.sort_Search searchLays 72 #[.pointer (some ⟨w.heap.size, 0, none⟩), .pointer (some ⟨w.heap.size + 1, 0, none⟩)] es.length (fun i => !lt ((es.map (·.1))[i]?.getD ⟨#[]⟩) k) W0 eg hn
    (fun m os i hi => by
      rcases hrow.2 with ⟨_, h0⟩ | ⟨g, cap, cur, rfl, _, hg, _⟩
      · omega
      · have hc := row_cell hrow0 (flat_key es i hi)
        have hgl : g < W0.heap.size := World.block_lt_of_cell? _ _ hc
        refine (placeOf w.heap.size (w.heap.size + 1) g es.length cap i es[i].1 k _ hi (cell_grown (by simp [hsize]; omega) ca m os) (cell_grown (by simp [hsize]) cx m os) (cell_grown hgl hc m os)).mono ?_
        rintro e w' ⟨he, q, hq⟩
        exact ⟨by rw [he]; simp [hi], q, #[], by rw [hq, grow_empty]⟩)
    (fun a b hab hb h => by
      have ha : a < es.length := by omega
      simp only [List.getElem?_map, List.getElem?_eq_getElem ha, List.getElem?_eq_getElem hb, Option.map_some, Option.getD_some, Bool.not_eq_true'] at h ⊢
      rw [← Bool.not_eq_true, pos_lt es k _ hs] at h ⊢
      omega)
  rw [countP_range_get es k ⟨#[]⟩, countP_pos es k hs] at hS
  change Calls Try.prog 56 _ _ _ at hS
  clear ca cx hrow0
  generalize pos es k = r at hS ⊢
  have hlen : (Builtin.lenOf sv).run Try.prog W0 = .ok es.length W0 := by
    rcases hrow.2 with ⟨rfl, h0⟩ | ⟨g, cap, cur, rfl, _, hg, _⟩
    · rw [h0]; rfl
    · rfl
  have hsv : ∃ a c, sv = .slice a es.length c := by
    rcases hrow.2 with ⟨rfl, h0⟩ | ⟨g, cap, cur, rfl, _, hg, _⟩
    · exact ⟨none, 0, by rw [h0]⟩
    · exact ⟨_, _, rfl⟩
  obtain ⟨a, c, rfl⟩ := hsv
  clear hrow hlen hs
  go_enter Try.func60, Try.ntmps60
  go_wp2_with (go_at_call 56; rw [← hW0]; refine hS.mono ?_; rintro e w' ⟨rfl, q, os, rfl⟩)
  go_ret
  refine ⟨rfl, ?_⟩
  have hB0 : Below w.heap.size w W0 := by rw [hW0]; exact ((Below.refl _ w).alloc (Nat.le_refl _) _).alloc (by simp) _
  rw [← hW0]
  exact hB0.trans (below_grown_sl w.heap.size W0 q os (by omega))
end Go.Proofs.Ytkohcdefhaokiaa.T

/-
  What the map of package sorted is, for the walks: its entries by rising keys, the place of a key, what is put and taken away; and the words for memory.
-/
import Derived.Test.YtkohcdefhaokiaaProg
import Derived.WalkKit
import Derived.WalkSpells
import Derived.Lib.Walk
import Derived.Shelf.SlSorted.Search
namespace Go.Proofs.Ytkohcdefhaokiaa
open Go.RowKit Go.Shelf Go.Lib Go.Sort

/-- one text is less than another one, by bytes -/
def lt (a b : ByteArray) : Bool := Op.bytesLess a.toList b.toList

theorem lt_iff (a b : ByteArray) : lt a b = true ↔ a.data.toList < b.data.toList := by
  unfold lt
  rw [Proofs.bytesLess_eq]
  simp [Lib.toList_data]

theorem key_ext {a b : ByteArray} (h : a.data.toList = b.data.toList) : a = b := by
  apply ByteArray.ext
  exact Array.toList_inj.1 h
theorem lt_irrefl (a : ByteArray) : lt a a = false := by
  rw [← Bool.not_eq_true, lt_iff]; exact List.lt_irrefl _
theorem lt_trans {a b c : ByteArray} (h : lt a b = true) (k : lt b c = true) : lt a c = true := by
  rw [lt_iff] at *; exact List.lt_trans h k
theorem lt_asymm {a b : ByteArray} (h : lt a b = true) : lt b a = false := by
  rw [← Bool.not_eq_true]; intro k
  have := lt_trans h k
  rw [lt_irrefl] at this
  cases this
theorem lt_total {a b : ByteArray} (h : lt a b = false) (k : lt b a = false) : a = b := by
  rw [← Bool.not_eq_true, lt_iff] at h k
  exact key_ext (List.le_antisymm (List.not_lt.1 k) (List.not_lt.1 h))

section
variable {V : Type}

/-- how many entries have a key that is less: the place of a key -/
def pos : List (ByteArray × V) → ByteArray → Nat
  | [], _ => 0
  | e :: r, k => if lt e.1 k then pos r k + 1 else 0

/-- the keys rise -/
def Rise (es : List (ByteArray × V)) : Prop := es.Pairwise (fun a b => lt a.1 b.1 = true)

theorem pos_le : ∀ (es : List (ByteArray × V)) (k : ByteArray), pos es k ≤ es.length
  | [], _ => Nat.le_refl _
  | e :: r, k => by
    rw [pos]
    split
    · have := pos_le r k; simp; omega
    · exact Nat.zero_le _

theorem Rise.tail {e : ByteArray × V} {r : List (ByteArray × V)} (h : Rise (e :: r)) : Rise r := (List.pairwise_cons.1 h).2

theorem countP_pos : ∀ (es : List (ByteArray × V)) (k : ByteArray), Rise es → es.countP (fun e => lt e.1 k) = pos es k
  | [], _, _ => rfl
  | e :: r, k, h => by
    rw [pos, List.countP_cons]
    by_cases hk : lt e.1 k = true
    · simp [hk, countP_pos r k h.tail]
    · simp only [hk, Bool.false_eq_true, if_false, Nat.add_zero]
      rw [List.countP_eq_zero]
      intro y hy hk'
      exact hk (lt_trans ((List.pairwise_cons.1 h).1 y hy) hk')

theorem pos_lt : ∀ (es : List (ByteArray × V)) (k : ByteArray) (j : Nat), Rise es → (h : j < es.length) → (lt es[j].1 k = true ↔ j < pos es k)
  | e :: r, k, 0, _, _ => by
    rw [pos]
    by_cases hk : lt e.1 k = true <;> simp [hk]
  | e :: r, k, j + 1, h, hj => by
    have ih := pos_lt r k j h.tail (by simpa using hj)
    rw [pos]
    by_cases hk : lt e.1 k = true
    · simp only [hk, if_true, List.getElem_cons_succ]
      rw [ih]; omega
    · simp only [hk, Bool.false_eq_true, if_false, List.getElem_cons_succ]
      constructor
      · intro hy
        exact absurd (lt_trans ((List.pairwise_cons.1 h).1 _ (List.getElem_mem (by simpa using hj))) hy) hk
      · intro h0; omega

/-- the key is there -/
def has (es : List (ByteArray × V)) (k : ByteArray) : Bool :=
  match es[pos es k]? with
  | some e => e.1.toList == k.toList
  | none => false
end

/-- the cells of a map's entries -/
def flat (es : List (ByteArray × Int)) : List Value := es.flatMap (fun e => [Value.string e.1, Value.int .i64 e.2])

theorem flat_length (es : List (ByteArray × Int)) : (flat es).length = es.length * 2 := by
  induction es with
  | nil => rfl
  | cons e r ih => simp only [flat, List.flatMap_cons, List.length_append, List.length_cons, List.length_nil] at *; omega
theorem flat_key : ∀ (es : List (ByteArray × Int)) (j : Nat) (h : j < es.length), (flat es)[j * 2]? = some (.string es[j].1)
  | e :: r, 0, _ => rfl
  | e :: r, j + 1, h => by
    have := flat_key r j (by simpa using h)
    rw [show (j + 1) * 2 = j * 2 + 1 + 1 by omega]
    simpa [flat] using this
theorem flat_val : ∀ (es : List (ByteArray × Int)) (j : Nat) (h : j < es.length), (flat es)[j * 2 + 1]? = some (.int .i64 es[j].2)
  | e :: r, 0, _ => rfl
  | e :: r, j + 1, h => by
    have := flat_val r j (by simpa using h)
    rw [show (j + 1) * 2 + 1 = (j * 2 + 1) + 1 + 1 by omega]
    simpa [flat] using this
theorem flat_append (a b : List (ByteArray × Int)) : flat (a ++ b) = flat a ++ flat b := by simp [flat]
theorem flat_take (es : List (ByteArray × Int)) (n : Nat) : flat (es.take n) = (flat es).take (n * 2) := by
  induction es generalizing n with
  | nil => simp [flat]
  | cons e r ih =>
    cases n with
    | zero => simp [flat]
    | succ n =>
      rw [show (n + 1) * 2 = n * 2 + 1 + 1 by omega]
      have := ih n
      simp only [flat, List.flatMap_cons, List.take_succ_cons, List.cons_append, List.nil_append] at *
      rw [this]
theorem flat_drop (es : List (ByteArray × Int)) (n : Nat) : flat (es.drop n) = (flat es).drop (n * 2) := by
  induction es generalizing n with
  | nil => simp [flat]
  | cons e r ih =>
    cases n with
    | zero => simp [flat]
    | succ n =>
      rw [show (n + 1) * 2 = n * 2 + 1 + 1 by omega]
      have := ih n
      simp only [flat, List.flatMap_cons, List.drop_succ_cons, List.cons_append, List.nil_append] at *
      rw [this]

theorem row_cell {w : World} {e : TypeId} {size : Nat} {g n cap : Nat} {xs : List Value} {base : Nat} (h : w.ownsRow base e size (.slice (some ⟨g, 0, none⟩) n cap) n xs) {j : Nat} {v : Value} (hj : xs[j]? = some v) :
    w.cell? ⟨g, j, none⟩ = some v := by
  obtain ⟨hl, hn | ⟨g', cap', cur, hs, _, hg, _, _, hcs, ht⟩⟩ := h
  · cases hn.1
  · cases hs
    simp only [World.cell?, hg]
    have hj' := (List.getElem?_eq_some_iff.1 hj).1
    rw [← ht] at hj
    rw [List.getElem?_take] at hj
    split at hj
    · simpa using hj
    · cases hj

/-- the library's sort.Search lies in this program -/
def searchRen : Shelf.Ren := ⟨fun _ => 56, fun
  | 3 => 3
  | 4 => 4
  | 35 => 90
  | _ => 100, fun x => x⟩

theorem searchLays : SlLaysO.n16 Try.prog searchRen where
  mixed := by kernel_rfl
  f16 := Try.func56.trans (by kernel_rfl)
  t3 := Try.underlying3
  a3 := Try.isAgg3
  z3 := Try.sizeOf3
  v3 := Try.zeroValue3
  t4 := Try.underlying4
  a4 := Try.isAgg4
  z4 := Try.sizeOf4
  v4 := Try.zeroValue4
  t35 := Try.underlying90
  a35 := Try.isAgg90
  z35 := Try.sizeOf90
  v35 := Try.zeroValue90
  t38 := Try.underlying100
  a38 := Try.isAgg100
  z38 := Try.sizeOf100
  v38 := Try.zeroValue100

set_option maxHeartbeats 1000000 in
theorem placeOf (bc bk g n cap i : Nat) (y k : ByteArray) (W : World) (hi : i < n)
    (hc : W.cell? ⟨bc, 0, none⟩ = some (.slice (some ⟨g, 0, none⟩) n cap)) (hk : W.cell? ⟨bk, 0, none⟩ = some (.string k)) (hy : W.cell? ⟨g, i * 2, none⟩ = some (.string y)) :
    Calls Try.prog 57 (#[.int .i64 i] ++ #[.pointer (some ⟨bc, 0, none⟩), .pointer (some ⟨bk, 0, none⟩)]) W fun e w' => e = .returned (.bool (!lt y k)) ∧ ∃ q, w' = W.drewN q := by
  have hiz : (i : Int) < (n : Int) := by omega
  go_enter Try.func57, Try.ntmps57
  go_wp2
  go_region
  all_goals go_wp2
  all_goals go_ret
  all_goals exact ⟨by first | rfl | simp [lt], 1, rfl⟩

theorem countP_range_get {V : Type} (es : List (ByteArray × V)) (k d : ByteArray) : (List.range es.length).countP (fun i => !!lt ((es.map (·.1))[i]?.getD d) k) = es.countP (fun e => lt e.1 k) := by
  have h : (List.range es.length).map (fun i => (es.map (·.1))[i]?.getD d) = es.map (·.1) := by
    apply List.ext_getElem
    · simp
    · intro i h1 h2
      simp at h1
      simp [h1]
  have := congrArg (List.countP (fun y => lt y k)) h
  rw [List.countP_map, List.countP_map] at this
  simpa [Function.comp_def] using this

set_option maxHeartbeats 2000000 in
/-- place: of how many entries the key is less -/
theorem place_any {w : World} {sv : Value} {es : List (ByteArray × Int)} (k : ByteArray) (hrow : w.ownsRow 0 69 2 sv es.length (flat es)) (hs : Rise es) (hn : es.length < 4611686018427387904) :
    Calls Try.prog 36 #[sv, .string k] w fun e w' => e = .returned (.int .i64 (pos es k : Nat)) ∧ Below w.heap.size w w' := by
  obtain ⟨W0, hW0⟩ : ∃ W0, W0 = (w.alloc (.cells #[sv] 60)).alloc (.cells #[.string k] 9) := ⟨_, rfl⟩
  have hsize : W0.heap.size = w.heap.size + 1 + 1 := by rw [hW0]; simp
  have ca : W0.cell? ⟨w.heap.size, 0, none⟩ = some sv := by rw [hW0]; exact cell_alloc_sl _ (cell_new_sl w _ _)
  have cx : W0.cell? ⟨w.heap.size + 1, 0, none⟩ = some (.string k) := by rw [hW0]; have := cell_new_sl (w.alloc (.cells #[sv] 60)) (.string k) 9; rwa [World.size_alloc] at this
  have hrow0 : W0.ownsRow 0 69 2 sv es.length (flat es) := by rw [hW0]; exact (hrow.alloc _).alloc _
  have eg : ∀ args w, (callFunc 57 args).run Try.prog w = .ok (.enter 57 args) w := enters_of Try.func57 (by kernel_rfl) rfl
  have hS := Any.sort_Search searchLays 57 #[.pointer (some ⟨w.heap.size, 0, none⟩), .pointer (some ⟨w.heap.size + 1, 0, none⟩)] es.length (fun i => !lt ((es.map (·.1))[i]?.getD ⟨#[]⟩) k) W0 eg hn
    (fun m os i hi => by
      rcases hrow.2 with ⟨_, h0⟩ | ⟨g, cap, cur, rfl, _, hg, _⟩
      · omega
      · have hc := row_cell hrow0 (flat_key es i hi)
        have hgl : g < W0.heap.size := World.block_lt_of_cell? _ _ hc
        refine (placeOf w.heap.size (w.heap.size + 1) g es.length cap i es[i].1 k _ hi (cell_grown (by simp [hsize]; omega) ca m os) (cell_grown (by simp [hsize]) cx m os) (cell_grown hgl hc m os)).mono ?_
        rintro e w' ⟨he, q, hq⟩
        exact ⟨by rw [he]; simp [hi], q, #[], by rw [hq, grow_empty]⟩)
    (fun a b hab hb h => by
      have ha : a < es.length := by omega
      simp only [List.getElem?_map, List.getElem?_eq_getElem ha, List.getElem?_eq_getElem hb, Option.map_some, Option.getD_some, Bool.not_eq_true'] at h ⊢
      rw [← Bool.not_eq_true, pos_lt es k _ hs] at h ⊢
      omega)
  rw [countP_range_get es k ⟨#[]⟩, countP_pos es k hs] at hS
  change Calls Try.prog 56 _ _ _ at hS
  clear ca cx hrow0
  generalize pos es k = r at hS ⊢
  have hlen : (Builtin.lenOf sv).run Try.prog W0 = .ok es.length W0 := by
    rcases hrow.2 with ⟨rfl, h0⟩ | ⟨g, cap, cur, rfl, _, hg, _⟩
    · rw [h0]; rfl
    · rfl
  have hsv : ∃ a c, sv = .slice a es.length c := by
    rcases hrow.2 with ⟨rfl, h0⟩ | ⟨g, cap, cur, rfl, _, hg, _⟩
    · exact ⟨none, 0, by rw [h0]⟩
    · exact ⟨_, _, rfl⟩
  obtain ⟨a, c, rfl⟩ := hsv
  clear hrow hlen hs
  go_enter Try.func36, Try.ntmps36
  go_wp2_with (go_at_call 56; rw [← hW0]; refine hS.mono ?_; rintro e w' ⟨rfl, q, os, rfl⟩)
  go_ret
  refine ⟨rfl, ?_⟩
  have hB0 : Below w.heap.size w W0 := by rw [hW0]; exact ((Below.refl _ w).alloc (Nat.le_refl _) _).alloc (by simp) _
  rw [← hW0]
  exact hB0.trans (below_grown_sl w.heap.size W0 q os (by omega))
end Go.Proofs.Ytkohcdefhaokiaa

/-
  For package disk's Clone: slices.Clone of bytes; what a range over the map of files meets.
-/
import Derived.Test.YtedcabnjcbdkaaaD5J
import Derived.Sort.MapsRangeIn
import Derived.Maps.RangeWalk
import Derived.Deep.DeepAppendWide
namespace Go.Proofs.Ytedcabnjcbdkaaa
open Go.RowKit Go.Shelf Go.Sort
open Go.Lib hiding intOf
variable {w : World} {B d : Nat} {es : List Le} {p : Int} {off : Bool} {mo : Option Nat}

theorem rise_extG {V : Type} : ∀ {a b : List (ByteArray × V)}, Rise a → Rise b → (∀ e, e ∈ a ↔ e ∈ b) → a = b
  | [], [], _, _, _ => rfl
  | [], y :: b, _, _, h => by have := (h y).2 (by simp); cases this
  | x :: a, [], _, _, h => by have := (h x).1 (by simp); cases this
  | x :: a, y :: b, ha, hb, h => by
    have ha' := List.pairwise_cons.1 ha
    have hb' := List.pairwise_cons.1 hb
    have hxy : x = y := by
      rcases List.mem_cons.1 ((h x).1 (by simp)) with e | h1
      · exact e
      rcases List.mem_cons.1 ((h y).2 (by simp)) with e | h2
      · exact e.symm
      have h3 := hb'.1 x h1
      have h4 := ha'.1 y h2
      have := lt_trans h3 h4
      rw [lt_irrefl] at this; cases this
    subst hxy
    have : a = b := rise_extG ha'.2 hb'.2 (fun e => by
      constructor
      · intro he
        rcases List.mem_cons.1 ((h e).1 (List.mem_cons_of_mem _ he)) with rfl | h1
        · have := ha'.1 _ he; rw [lt_irrefl] at this; cases this
        · exact h1
      · intro he
        rcases List.mem_cons.1 ((h e).2 (List.mem_cons_of_mem _ he)) with rfl | h1
        · have := hb'.1 _ he; rw [lt_irrefl] at this; cases this
        · exact h1)
    rw [this]
set_option maxHeartbeats 4000000 in
set_option maxRecDepth 100000 in
/-- slices.Clone -/
theorem cloneB_any {w : World} {sv : Value} {n base : Nat} {cs : List Value} (hrow : w.ownsRow base 5 1 sv n cs) (h1c : ∀ v ∈ cs, v.oneCell' = true) (hbig : n ≤ 1048576) :
    Calls Try.prog 27 #[sv] w fun e w' => ∃ v', e = .returned v' ∧ w'.ownsRow w.heap.size 5 1 v' n cs ∧ Below w.heap.size w w' := by
  obtain ⟨i0, hi, hz0, hz1, hz2⟩ := info_parts infoU8
  have heq := fun (w : World) a n c => run_eql_slice_nil (P := Try.prog) w 62 5 a n c 0 0 Try.underlying62
  have hlen := hrow.1
  rcases hrow.2 with ⟨rfl, h0⟩ | ⟨g, cap, cur, rfl, _, hg, hnc, hcm, hcs, htake⟩
  · subst h0
    have hc0 : cs = [] := List.eq_nil_of_length_eq_zero (by simpa using hlen)
    subst hc0
    clear hrow hlen h1c
    go_enter Try.func27, Try.ntmps27
    go_wp2
    go_ret
    exact ⟨_, rfl, World.ownsRow_nil _ _ _ _, Below.refl _ _⟩
  · have R : Hid (w.ownsRow base 5 1 (.slice (some ⟨g, 0, none⟩) n cap) n cs) := hrow
    clear hrow hg hcs htake
    have hB : Below w.heap.size w (w.alloc (.cells #[] 5)) := (Below.refl _ w).alloc (Nat.le_refl _) _
    have hlit := World.ownsRow_lit (base := w.heap.size) (e := 5) (size := 1) w #[] 0 (Nat.le_refl _) (Nat.zero_le _) rfl
    obtain ⟨v', w1, hrun, h2, h3, _⟩ := run_append_own_wide (P := Try.prog) (w.alloc (.cells #[] 5)) w.heap.size 62 62 5 i0 _ 1 1 Try.underlying62 hi hz0 hz1 hz2 rfl (by decide) _ 0 _ hlit ⟨g, 0, none⟩ n cap cs hlen
      (fun j u hj => by rw [Addr.add_lit, Nat.zero_add]; exact row_cell (R.out.alloc _) hj) h1c (by unfold maxLen; omega) (by rw [Nat.zero_add]; omega) (by simp)
    have E : Hid (w1.ownsRow w.heap.size 5 1 v' (0 + n) (#[].toList ++ cs) ∧ Below w.heap.size w w1) := ⟨h2, hB.grown h3 (by simp) (fun k hk => by cases hk; exact Nat.le_refl _)⟩
    clear h2 h3 hlit hB hlen h1c
    go_enter Try.func27, Try.ntmps27
    go_wp2_with (at_builtin; refine Lib.wpList_append_run _ rfl _ _ _ _ rfl _ _ rfl rfl _ _ hrun ?_)
    go_ret
    obtain ⟨h2, hB⟩ := E.out
    simp only [Nat.zero_add, List.nil_append] at h2
    exact ⟨_, rfl, h2, hB⟩
/-- the shapes of what the map has -/
def mkF : Option Nat → Value
  | some g => .pointer (some ⟨g, 0, none⟩)
  | none => .pointer none
theorem invF (v : Value) (y : DataW Unit × List MemPlace) (h : rdF v = some y) : ∃ c, v = mkF c := by
  unfold rdF at h
  split at h
  · rename_i g; exact ⟨some g, rfl⟩
  · exact ⟨none, rfl⟩
  · cases h
theorem key_is {x : ByteArray} {kl : Lit} (h : keyOf Try.prog 9 (.string x) = some kl) : kl = .string x.data.toList := by
  simp [keyOf, Try.underlying9, mapKey] at h
  exact h.2.symm
/-- an entry has come -/
theorem came (hr : Rise es) {x : ByteArray} {kl : Lit} {c : Option Nat} {y : DataW Unit × List MemPlace} (hkey : keyOf Try.prog 9 (.string x) = some kl) (hv : rdF (mkF c) = some y)
    (hat : ∀ zd, (DataW.map (ents dg es)).atKey kl zd = y.1) : ∃ v, (x, v) ∈ es ∧ c = some v.g := by
  obtain rfl := key_is hkey
  cases hh : has es x with
  | false =>
    have h1 := hat .nil
    have h2 := hat (.lit (.int .i64 0))
    rw [ents_no dg hr hh] at h1 h2
    rw [← h1] at h2
    cases h2
  | true =>
    obtain ⟨v, hm⟩ := has_mem hh
    refine ⟨v, hm, ?_⟩
    have h1 := hat .nil
    rw [ents_at dg hr hm] at h1
    cases c with
    | none => rw [show rdF (mkF none) = some (.nil, []) from rfl] at hv; cases hv; cases h1
    | some g =>
      rw [show rdF (mkF (some g)) = some (.lit (.int .i64 (g : Int)), []) from rfl] at hv
      cases hv
      simp only [dg, DataW.lit.injEq, Lit.int.injEq, true_and] at h1
      have : v.g = g := by omega
      rw [this]
end Go.Proofs.Ytedcabnjcbdkaaa

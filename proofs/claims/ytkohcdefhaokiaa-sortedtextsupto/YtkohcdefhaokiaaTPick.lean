/-
  The map of texts: what a range over all picks.
-/
import Derived.Test.YtkohcdefhaokiaaTLend
namespace Go.Proofs.Ytkohcdefhaokiaa.T
open Go.RowKit Go.Shelf Go.Lib Go.Sort

/-- a range over a slice -/
def Itv (W : World) (n₀ cb : Nat) (itv : Value) (zs : List Ent) : Prop :=
  ∃ bs sv, n₀ ≤ bs ∧ Bx W bs sv 75 ∧ itv = .func (.func 66) #[] #[.pointer (some ⟨bs, 0, none⟩)] ∧ Sl W sv cb zs

theorem Sl.below {W W' : World} {sv : Value} {cb : Nat} {zs : List Ent} {B : Nat} (h : Sl W sv cb zs) (hb : Below B W W') (hcb : zs = [] ∨ cb < B) : Sl W' sv cb zs := by
  obtain ⟨a, cap, e, hl, hz⟩ := h
  refine ⟨a, cap, e, hl, ?_⟩
  rcases hz with h0 | ⟨off, ea, hc⟩
  · exact .inl h0
  · rcases hcb with h0 | hcb
    · exact .inl h0
    · exact .inr ⟨off, ea, fun j hj => ⟨(hb.cell (p := ⟨cb, off + j * 2, none⟩) hcb).trans (hc j hj).1, (hb.cell (p := ⟨cb, off + j * 2 + 1, none⟩) hcb).trans (hc j hj).2⟩⟩

theorem Sl.lt {W : World} {sv : Value} {cb : Nat} {zs : List Ent} (h : Sl W sv cb zs) : zs = [] ∨ cb < W.heap.size := by
  obtain ⟨a, cap, e, hl, hz⟩ := h
  rcases hz with h0 | ⟨off, ea, hc⟩
  · exact .inl h0
  · cases zs with
    | nil => exact .inl rfl
    | cons z r => exact .inr (World.block_lt_of_cell? _ _ (hc 0 (by simp)).1)

theorem sl_of_row {W : World} {sv : Value} {es : List Ent} {cb : Nat} (h : W.ownsRow 0 81 2 sv es.length (flat es)) (hcb : ∀ g, sv.ownBlock = some g → g = cb) (hn : es.length < 4611686018427387904) : Sl W sv cb es := by
  rcases h.2 with ⟨rfl, h0⟩ | ⟨g, cap, cur, rfl, _, hg, _⟩
  · exact ⟨none, 0, by rw [h0], hn, .inl (List.eq_nil_of_length_eq_zero h0)⟩
  · obtain rfl := hcb g rfl
    refine ⟨some ⟨g, 0, none⟩, cap, rfl, hn, .inr ⟨0, rfl, fun j hj => ?_⟩⟩
    rw [Nat.zero_add]
    exact ⟨row_cell h (flat_key es j hj), row_cell h (flat_val es j hj)⟩

set_option maxHeartbeats 400000 in
theorem pickAll {W : World} {sv : Value} {cb : Nat} {zs : List Ent} (h : Sl W sv cb zs) :
    Calls Try.prog 48 #[sv] W fun e W' => ∃ itv, e = .returned itv ∧ Itv W' W.heap.size cb itv zs ∧ Below W.heap.size W W' := by
  have hmf : ∀ (fn : Fn) (first cap : Array Value) (w : World), (Instr.makeFunc fn first cap).run Try.prog w = .ok (.func fn first cap) w := fun _ _ _ _ => rfl
  have hlt := h.lt
  have H : Hid (Sl W sv cb zs) := h
  obtain ⟨a, cap, rfl, -⟩ := h
  go_enter Try.func48, Try.ntmps48
  go_wp2
  go_ret
  have hB : Below W.heap.size W (W.alloc (.cells #[.slice a zs.length cap] 75)) := (Below.refl _ W).alloc (Nat.le_refl _) _
  exact ⟨_, rfl, ⟨W.heap.size, _, Nat.le_refl _, Bx.new W _ _, rfl, H.out.below hB hlt⟩, hB⟩
end Go.Proofs.Ytkohcdefhaokiaa.T

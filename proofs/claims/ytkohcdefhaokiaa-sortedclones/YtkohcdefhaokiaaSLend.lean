/-
  lend and what it hands back: a range is counted, and struck off again.
-/
import Derived.Test.YtkohcdefhaokiaaSIter
namespace Go.Proofs.Ytkohcdefhaokiaa
open Go.RowKit Go.Shelf Go.Lib Go.Sort

theorem one0 {w : World} {b : Nat} {x : Value} {t : TypeId} (h : Bx w b x t) (v : Value) : Bx (w.setCell ⟨b, 0, none⟩ v) b v t := heap_setCell_same w b 0 _ t v h

set_option maxHeartbeats 1000000 in
theorem lend_any {w : World} {mb : Nat} {es : List Ent} {sv : Value} {q : Option Nat} {c : Nat} (h : Mp w mb es sv q c) (hc : c < 4611686018427387904) :
    Calls Try.prog 54 #[.pointer (some ⟨mb, 0, none⟩)] w fun e w' => ∃ b3 lb, e = .returned (.func (.func 70) #[] #[.pointer (some ⟨b3, 0, none⟩)]) ∧ Mp w' mb es sv (some lb) (c + 1) ∧ Bx w' b3 (.pointer (some ⟨lb, 0, none⟩)) 61 ∧ w.heap.size ≤ b3 ∧ (q = some lb ∨ (q = none ∧ w.heap.size ≤ lb)) ∧ Ch (fun b => b = mb ∨ q = some b) w w' := by
  have hmf : ∀ (fn : Fn) (first cap : Array Value) (w : World), (Instr.makeFunc fn first cap).run Try.prog w = .ok (.func fn first cap) w := fun _ _ _ _ => rfl
  have h0 := h.cell0
  have h1 := h.cell1
  have hf1 := h.fro 1
  have hlt := h.lt
  have M : Hid (Mp w mb es sv q c) := h
  have hne : ¬ mb = w.heap.size := by omega
  rcases h.lent with ⟨rfl, rfl⟩ | ⟨b, rfl, hb⟩
  · clear h
    go_enter Try.func54, Try.ntmps54
    go_wp2
    go_ret
    have hM := M.out
    have hch : Ch (fun b => b = mb ∨ none = some b) w (((w.setCell ⟨mb, 1, none⟩ (.pointer (some ⟨w.heap.size, 0, none⟩))).alloc (.cells #[.int .i64 1] 3)).alloc (.cells #[.pointer (some ⟨w.heap.size, 0, none⟩)] 61)) :=
      (((Ch.refl _ w).setCell ⟨mb, 1, none⟩ _ (fun _ => .inl rfl)).alloc _).alloc _
    have hs : (w.setCell ⟨mb, 1, none⟩ (.pointer (some ⟨w.heap.size, 0, none⟩))).heap.size = w.heap.size := by simp
    have hb1 : Bx ((w.setCell ⟨mb, 1, none⟩ (.pointer (some ⟨w.heap.size, 0, none⟩))).alloc (.cells #[.int .i64 1] 3)) w.heap.size (.int .i64 1) 3 := by
      have := Bx.new (w.setCell ⟨mb, 1, none⟩ (.pointer (some ⟨w.heap.size, 0, none⟩))) (.int .i64 1) 3
      rwa [hs] at this
    refine ⟨w.heap.size + 1, w.heap.size, rfl, ⟨?_, ?_, hM.rise, .inr ⟨_, rfl, ?_⟩⟩, ?_, Nat.le_succ _, .inr ⟨by simp, Nat.le_refl _⟩, hch⟩
    · have e2 := two1 hM.hd (.pointer (some ⟨w.heap.size, 0, none⟩))
      exact ((Below.heap_alloc _ _ mb (by simp; omega)).trans ((Below.heap_alloc _ _ mb (by simp; omega)).trans e2))
    · exact hch.row hM.row (fun k hk hX => by rcases hX with e | e; · exact hM.apart (by rw [hk, e])
                                              · cases e)
    · exact hb1.alloc _
    · have := Bx.new ((w.setCell ⟨mb, 1, none⟩ (.pointer (some ⟨w.heap.size, 0, none⟩))).alloc (.cells #[.int .i64 1] 3)) (.pointer (some ⟨w.heap.size, 0, none⟩)) 61
      rwa [World.size_alloc, hs] at this
  · have hcb : w.cell? ⟨b, 0, none⟩ = some (.int .i64 c) := by simp [World.cell?, hb]
    have hfb : w.frozen? ⟨b, 0, none⟩ = false := by simp [World.frozen?, hb]
    have hbl : b < w.heap.size := World.block_lt_of_cell? _ _ hcb
    have hnb : ¬ b = w.heap.size := by omega
    have HB : Hid (Bx w b (.int .i64 c) 3) := hb
    clear h hb
    go_enter Try.func54, Try.ntmps54
    go_wp2
    go_ret
    have hM := M.out
    have hch : Ch (fun k => k = b) w ((w.setCell ⟨b, 0, none⟩ (.int .i64 ((c : Int) + 1))).alloc (.cells #[.pointer (some ⟨b, 0, none⟩)] 61)) :=
      (((Ch.refl (fun k => k = b) w).setCell ⟨b, 0, none⟩ _ (fun _ => rfl)).alloc _)
    have hs : (w.setCell ⟨b, 0, none⟩ (.int .i64 ((c : Int) + 1))).heap.size = w.heap.size := by simp
    obtain ⟨a1, a2⟩ := hM.lentApart rfl
    refine ⟨w.heap.size, b, rfl, ⟨hch.obj hM.hd (fun e => a1 e.symm), hch.row hM.row (fun k hk e => a2 (by rw [hk, e])), hM.rise, .inr ⟨_, rfl, ?_⟩⟩, ?_, Nat.le_refl _, .inl rfl, hch.mono (fun k _ e => .inr (by rw [e]))⟩
    · have := (one0 HB.out (.int .i64 ((c : Int) + 1))).alloc (.cells #[.pointer (some ⟨b, 0, none⟩)] 61)
      exact_mod_cast this
    · have := Bx.new (w.setCell ⟨b, 0, none⟩ (.int .i64 ((c : Int) + 1))) (.pointer (some ⟨b, 0, none⟩)) 61
      rwa [hs] at this

set_option maxHeartbeats 1000000 in
/-- what lend handed back, as a deferred call -/
theorem back_any {w : World} {b3 lb c : Nat} (h3 : Bx w b3 (.pointer (some ⟨lb, 0, none⟩)) 61) (hl : Bx w lb (.int .i64 ((c + 1 : Nat) : Int)) 3) (hc : c < 4611686018427387904) (n : Nat) :
    CallsDIn Fence.wide n Try.prog 70 #[.pointer (some ⟨b3, 0, none⟩)] .returning w fun e u' w' => u' = .returning ∧ (∃ v, e = .returned v) ∧ w' = w.setCell ⟨lb, 0, none⟩ (.int .i64 (c : Int)) := by
  have h1 := h3.cell
  have h2 := hl.cell
  have h4 := hl.fro
  clear h3 hl
  have hw1 : IntKind.i64.wrap (((c + 1 : Nat) : Int) - 1) = (c : Int) := by rw [IntKind.wrap_i64]; omega
  refine callsDIn_of_wp Try.func70 rfl trivial ?_ rfl
  simp only [Try.ntmps70, List.size_toArray, List.length_cons, List.length_nil, Nat.reduceAdd, Nat.reduceSub, Array.replicate_succ, Array.replicate_zero, List.push_toArray, List.append_toArray, List.nil_append, List.cons_append]
  gi_wp2
  go_end0
  exact ⟨⟨_, rfl⟩, rfl⟩
end Go.Proofs.Ytkohcdefhaokiaa

/-
  The calls that hand back ranges (All, Down, From, Under), and a range over a map that is nil.
-/
import Derived.Test.YtkohcdefhaokiaaSRange
namespace Go.Proofs.Ytkohcdefhaokiaa
open Go.RowKit Go.Shelf Go.Lib Go.Sort

/-- a block of one cell -/
def Bx (w : World) (b : Nat) (v : Value) (t : TypeId) : Prop := w.heap[b]? = some (.cells #[v] t (0, 0))
theorem Bx.cell {w : World} {b : Nat} {v : Value} {t : TypeId} (h : Bx w b v t) : w.cell? ⟨b, 0, none⟩ = some v := by unfold Bx at h; simp [World.cell?, h]
theorem Bx.fro {w : World} {b : Nat} {v : Value} {t : TypeId} (h : Bx w b v t) : w.frozen? ⟨b, 0, none⟩ = false := by unfold Bx at h; simp [World.frozen?, h]
theorem Bx.lt {w : World} {b : Nat} {v : Value} {t : TypeId} (h : Bx w b v t) : b < w.heap.size := (Array.getElem?_eq_some_iff.1 h).1
theorem Bx.new (w : World) (v : Value) (t : TypeId) : Bx (w.alloc (.cells #[v] t)) w.heap.size v t := heap_alloc_new w _
theorem Bx.ch {w w' : World} {b : Nat} {v : Value} {t : TypeId} {X : Nat → Prop} (h : Bx w b v t) (hc : Ch X w w') (hX : ¬ X b) : Bx w' b v t := hc.obj h hX
theorem Bx.below {w w' : World} {b : Nat} {v : Value} {t : TypeId} {B : Nat} (h : Bx w b v t) (hc : Below B w w') (hB : b < B) : Bx w' b v t := (hc.block b hB).trans h
theorem Bx.alloc {w : World} {b : Nat} {v : Value} {t : TypeId} (h : Bx w b v t) (o : Obj) : Bx (w.alloc o) b v t := h.below ((Below.refl _ w).alloc (Nat.le_refl _) o) h.lt

/-- f is a range over the map at p, by what pv picks -/
def Rg (w : World) (n₀ : Nat) (f : Value) (p : Option Addr) (pv : Value) : Prop :=
  ∃ bm bp, f = .func (.func 53) #[] #[.pointer (some ⟨bm, 0, none⟩), .pointer (some ⟨bp, 0, none⟩)] ∧ Bx w bm (.pointer p) 24 ∧ Bx w bp pv 67 ∧ n₀ ≤ bm ∧ n₀ ≤ bp

set_option maxHeartbeats 400000 in
theorem over_any (p : Option Addr) (pf : Nat) (pc : Array Value) (w : World) : Calls Try.prog 33 #[.pointer p, .func (.func pf) #[] pc] w fun e w' => ∃ f, e = .returned f ∧ Rg w' w.heap.size f p (.func (.func pf) #[] pc) ∧ Below w.heap.size w w' := by
  have hmf : ∀ (fn : Fn) (first cap : Array Value) (w : World), (Instr.makeFunc fn first cap).run Try.prog w = .ok (.func fn first cap) w := fun _ _ _ _ => rfl
  go_enter Try.func33, Try.ntmps33
  go_wp2
  go_ret
  refine ⟨_, rfl, ⟨_, _, rfl, (Bx.new w _ _).alloc _, ?_, Nat.le_refl _, Nat.le_succ _⟩, ((Below.refl _ w).alloc (Nat.le_refl _) _).alloc (by simp) _⟩
  have := Bx.new (w.alloc (.cells #[.pointer p] 24)) (.func (.func pf) #[] pc) 67
  rwa [World.size_alloc] at this

set_option maxHeartbeats 400000 in
theorem All_any (p : Option Addr) (w : World) : Calls Try.prog 26 #[.pointer p] w fun e w' => ∃ f, e = .returned f ∧ Rg w' w.heap.size f p (.func (.func 35) #[] #[]) ∧ Below w.heap.size w w' := by
  go_enter Try.func26, Try.ntmps26
  go_wp2_with (go_at_call 33; refine (over_any _ _ _ _).mono ?_; rintro e w' ⟨f, rfl, hR, hB⟩; have HR : Hid (Rg w' w.heap.size f p (.func (.func 35) #[] #[])) := hR; obtain ⟨bm, bp, rfl, -⟩ := hR)
  go_ret
  exact ⟨_, rfl, HR.out, hB⟩

set_option maxHeartbeats 400000 in
theorem Down_any (p : Option Addr) (w : World) : Calls Try.prog 27 #[.pointer p] w fun e w' => ∃ f, e = .returned f ∧ Rg w' w.heap.size f p (.func (.func 49) #[] #[]) ∧ Below w.heap.size w w' := by
  go_enter Try.func27, Try.ntmps27
  go_wp2_with (go_at_call 33; refine (over_any _ _ _ _).mono ?_; rintro e w' ⟨f, rfl, hR, hB⟩; have HR : Hid (Rg w' w.heap.size f p (.func (.func 49) #[] #[])) := hR; obtain ⟨bm, bp, rfl, -⟩ := hR)
  go_ret
  exact ⟨_, rfl, HR.out, hB⟩

set_option maxHeartbeats 400000 in
theorem From_any (p : Option Addr) (k : ByteArray) (w : World) : Calls Try.prog 16 #[.pointer p, .string k] w fun e w' => ∃ f kb, e = .returned f ∧ Rg w' w.heap.size f p (.func (.func 34) #[] #[.pointer (some ⟨kb, 0, none⟩)]) ∧ Bx w' kb (.string k) 9 ∧ w.heap.size ≤ kb ∧ Below w.heap.size w w' := by
  have hmf : ∀ (fn : Fn) (first cap : Array Value) (w : World), (Instr.makeFunc fn first cap).run Try.prog w = .ok (.func fn first cap) w := fun _ _ _ _ => rfl
  go_enter Try.func16, Try.ntmps16
  go_wp2_with fail
  refine (over_any _ _ _ _).mono ?_
  rintro e w' ⟨f, rfl, hR, hB⟩
  rw [World.size_alloc] at hR
  have HR : Hid (Rg w' (w.heap.size + 1) f p (.func (.func 34) #[] #[.pointer (some ⟨w.heap.size, 0, none⟩)])) := hR
  obtain ⟨bm, bp, rfl, -⟩ := hR
  go_wp2
  go_ret
  obtain ⟨bm', bp', e, h1, h2, h3, h4⟩ := HR.out
  simp only [World.size_alloc] at hB
  exact ⟨_, w.heap.size, rfl, ⟨bm', bp', e, h1, h2, by omega, by omega⟩, (Bx.new w _ _).below hB (Nat.lt_succ_self _), Nat.le_refl _, ((Below.refl _ w).alloc (Nat.le_refl _) _).trans (hB.mono (Nat.le_succ _))⟩

set_option maxHeartbeats 400000 in
theorem Under_any (p : Option Addr) (k : ByteArray) (w : World) : Calls Try.prog 28 #[.pointer p, .string k] w fun e w' => ∃ f kb, e = .returned f ∧ Rg w' w.heap.size f p (.func (.func 50) #[] #[.pointer (some ⟨kb, 0, none⟩)]) ∧ Bx w' kb (.string k) 9 ∧ w.heap.size ≤ kb ∧ Below w.heap.size w w' := by
  have hmf : ∀ (fn : Fn) (first cap : Array Value) (w : World), (Instr.makeFunc fn first cap).run Try.prog w = .ok (.func fn first cap) w := fun _ _ _ _ => rfl
  go_enter Try.func28, Try.ntmps28
  go_wp2_with fail
  refine (over_any _ _ _ _).mono ?_
  rintro e w' ⟨f, rfl, hR, hB⟩
  rw [World.size_alloc] at hR
  have HR : Hid (Rg w' (w.heap.size + 1) f p (.func (.func 50) #[] #[.pointer (some ⟨w.heap.size, 0, none⟩)])) := hR
  obtain ⟨bm, bp, rfl, -⟩ := hR
  go_wp2
  go_ret
  obtain ⟨bm', bp', e, h1, h2, h3, h4⟩ := HR.out
  simp only [World.size_alloc] at hB
  exact ⟨_, w.heap.size, rfl, ⟨bm', bp', e, h1, h2, by omega, by omega⟩, (Bx.new w _ _).below hB (Nat.lt_succ_self _), Nat.le_refl _, ((Below.refl _ w).alloc (Nat.le_refl _) _).trans (hB.mono (Nat.le_succ _))⟩

set_option maxHeartbeats 400000 in
/-- a range over a map that is nil -/
theorem over1_nil (l bm : Nat) (bp : Value) (w : World) (hm : Bx w bm (.pointer none) 24) : Calls Try.prog 53 #[.func (.yield l) #[] #[], .pointer (some ⟨bm, 0, none⟩), bp] w fun e w' => (∃ v, e = .returned v) ∧ Below w.heap.size w w' := by
  have hc := cell?_alloc_some (.cells #[.func (.yield l) #[] #[]] 86) hm.cell
  clear hm
  go_enter Try.func53, Try.ntmps53
  go_wp2
  refine bodyPost_ret (results_none rfl _ _ _) rfl ?_
  exact ⟨⟨_, rfl⟩, (Below.refl _ w).alloc (Nat.le_refl _) _⟩

/-- a range over nothing -/
theorem range_none {P : Program} {g : Operand} {ps : Array Tmp} {assign body : Code} {Q : Exit → Act → World → Prop} {a : Act} {w : World} {n : Nat}
    {gf : Nat} {lb : Array Value} (hg : a.eval g = .func (.func gf) #[] lb) (eg : ∀ args w, (callFunc gf args).run P w = .ok (.enter gf args) w)
    (hcall : ∀ l W1, Below w.heap.size w W1 → Calls P gf (#[.func (.yield l) #[] #[]] ++ lb) W1 fun e W2 => (∃ v, e = .returned v) ∧ Below W1.heap.size W1 W2)
    (hdone : ∀ (W : World), Below w.heap.size w W → W.heap[w.heap.size]? = some (.deferred (some [])) → Q .normal { a with defers := { target := .collected w.heap.size, args := #[] } :: a.defers } W) :
    (Code.rangeFunc g ps assign body).wpIn Fence.wide n P Q a w := by
  refine range_law (α := Unit) (σ := Unit) hg eg (fun _ => Array.replicate ps.size undef) (fun _ => by simp) (fun _ _ _ => False) (fun _ _ _ _ => False) (fun _ _ _ => True) (fun _ _ _ => False) (fun _ W => Below w.heap.size w W) (fun _ _ _ => False) (fun _ _ _ _ _ => False)
    (fun _ _ _ _ _ h _ _ => h) (fun _ _ _ _ _ _ h _ _ => h) (ownFrom_below (Nat.le_refl _) (Nat.le_refl _)) (fun _ _ _ _ _ h _ _ => h) (fun _ _ _ _ _ _ _ _ h _ _ => h) (fun _ _ _ _ _ _ => trivial) (fun _ _ _ _ _ _ _ _ => trivial)
    (fun _ _ _ _ _ _ _ h => h.elim) (fun _ _ _ _ _ _ _ h => h.elim) ?_ (fun _ W h hD => hdone W h hD) (fun _ _ _ h => h.elim)
  intro W1 R0 R1 _ _ hb hs h2 _
  refine (hcall _ W1 hb).mono ?_
  rintro e W2 ⟨hv, hB⟩
  refine ⟨hv, .inl ⟨[], hb.trans (hB.mono hb.size), ?_⟩⟩
  exact ⟨(hB.block _ (by omega)).trans h2.1, (hB.block _ (by omega)).trans h2.2⟩

theorem takes {D : Nat} {W : World} (hD : W.heap[D]? = some (.deferred (some []))) {P : Program} : (Instr.takeDeferred D).run P W = .ok [] (W.putObj D (.deferred none)) := run_takeDeferred hD
theorem below_take {B : Nat} {w W : World} {D : Nat} (h : Below B w W) (hB : B ≤ w.heap.size) (hD : B ≤ D) (o : Obj) : Below B w (W.putObj D o) :=
  h.trans ((Below.refl B W).grown (grownBy_putObj' W D o) (Nat.le_trans hB h.size) (fun k e => by cases e; exact hD))
end Go.Proofs.Ytkohcdefhaokiaa

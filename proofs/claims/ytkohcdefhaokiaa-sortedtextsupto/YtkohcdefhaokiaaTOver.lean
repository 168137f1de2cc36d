/-
  The map of texts: the calls that hand back ranges.
-/
import Derived.Test.YtkohcdefhaokiaaTOps
namespace Go.Proofs.Ytkohcdefhaokiaa.T
open Go.RowKit Go.Shelf Go.Lib Go.Sort

/-- f is a range over the map at p, by what pv picks -/
def Rg (w : World) (n₀ : Nat) (f : Value) (p : Option Addr) (pv : Value) : Prop :=
  ∃ bm bp, f = .func (.func 64) #[] #[.pointer (some ⟨bm, 0, none⟩), .pointer (some ⟨bp, 0, none⟩)] ∧ Bx w bm (.pointer p) 48 ∧ Bx w bp pv 83 ∧ n₀ ≤ bm ∧ n₀ ≤ bp

set_option maxHeartbeats 400000 in
theorem over_any (p : Option Addr) (pf : Nat) (pc : Array Value) (w : World) : Calls Try.prog 47 #[.pointer p, .func (.func pf) #[] pc] w fun e w' => ∃ f, e = .returned f ∧ Rg w' w.heap.size f p (.func (.func pf) #[] pc) ∧ Below w.heap.size w w' := by
  have hmf : ∀ (fn : Fn) (first cap : Array Value) (w : World), (Instr.makeFunc fn first cap).run Try.prog w = .ok (.func fn first cap) w := fun _ _ _ _ => rfl
  go_enter Try.func47, Try.ntmps47
  go_wp2
  go_ret
  refine ⟨_, rfl, ⟨_, _, rfl, (Bx.new w _ _).alloc _, ?_, Nat.le_refl _, Nat.le_succ _⟩, ((Below.refl _ w).alloc (Nat.le_refl _) _).alloc (by simp) _⟩
  have := Bx.new (w.alloc (.cells #[.pointer p] 48)) (.func (.func pf) #[] pc) 83
  rwa [World.size_alloc] at this

set_option maxHeartbeats 400000 in
theorem All_any (p : Option Addr) (w : World) : Calls Try.prog 22 #[.pointer p] w fun e w' => ∃ f, e = .returned f ∧ Rg w' w.heap.size f p (.func (.func 48) #[] #[]) ∧ Below w.heap.size w w' := by
  go_enter Try.func22, Try.ntmps22
  go_wp2_with (go_at_call 47; refine (over_any _ _ _ _).mono ?_; rintro e w' ⟨f, rfl, hR, hB⟩; have HR : Hid (Rg w' w.heap.size f p (.func (.func 48) #[] #[])) := hR; obtain ⟨bm, bp, rfl, -⟩ := hR)
  go_ret
  exact ⟨_, rfl, HR.out, hB⟩
end Go.Proofs.Ytkohcdefhaokiaa.T

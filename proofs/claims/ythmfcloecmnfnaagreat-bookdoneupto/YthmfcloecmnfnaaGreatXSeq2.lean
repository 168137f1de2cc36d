/-
  'for k, v := range f { .. }' with a break in it: whatever ends it, the same follows.
-/
import Derived.Test.YthmfcloecmnfnaaGreatXSeq
namespace Go.Proofs.YthmfcloecmnfnaaGreat
open Go.RowKit Go.Shelf Go.Sort
open Go.Lib hiding intOf

theorem range_sq2B {α : Type} {e1 e2 : α → Value} {g : Operand} {p1 p2 : Tmp} {assign body : Code} {Q2 : Exit → Act → World → Prop} {id : Nat} {a : Act} {w : World} {n : Nat} {f : Value} {l : List α} {X : Nat → Prop} (r1 r2 : Nat)
    (hg : a.eval g = f) (hS : Sq (fun x => #[e1 x, e2 x]) w f l X)
    (I Bk : Nat → List α → World → Prop) (E : World → Prop)
    (hI : ∀ s pre W W', I s pre W → Sb w.heap.size s W W' → I s pre W') (hBk : ∀ s pre W W', Bk s pre W → Sb w.heap.size s W W' → Bk s pre W')
    (hstart : ∀ W0, Below w.heap.size w W0 → w.heap.size + 2 ≤ W0.heap.size → I W0.heap.size [] W0)
    (hassign : ∀ (m l' : Nat) (x : α) (W : World) (K : Act → World → Prop), K { tmps := (((a.tmps.setIfInBounds p1 (e1 x)).setIfInBounds p2 (e2 x)).setIfInBounds r1 (e1 x)).setIfInBounds r2 (e2 x), defers := [] } W →
      assign.wpIn (Fence.wide.inRound l') m Tryz.prog (Exit.then K (fun _ _ _ => False)) { tmps := (a.tmps.setIfInBounds p1 (e1 x)).setIfInBounds p2 (e2 x), defers := [] } W)
    (hbody : ∀ (m l' : Nat) (s : Nat) (pre : List α) (x : α) (Wp W : World), I s pre Wp → Sb w.heap.size s Wp W → pre ++ [x] <+: l → body.wpIn (Fence.wide.inRound l') m Tryz.prog (ownPostX w.heap.size (Kq (fun k => X k ∨ (w.heap.size + 2 ≤ k ∧ k < s) ∨ (Wp.heap.size ≤ k ∧ k < W.heap.size))) (I s) (fun c pre W => c = .exit id ∧ Bk s pre W) (pre ++ [x]) W) { tmps := (((a.tmps.setIfInBounds p1 (e1 x)).setIfInBounds p2 (e2 x)).setIfInBounds r1 (e1 x)).setIfInBounds r2 (e2 x), defers := [] } W)
    (hdone : ∀ (s : Nat) (W : World), I s l W → E W) (hstop : ∀ (s : Nat) (pre : List α) (W : World), Bk s pre W → E W)
    (hend : ∀ (W : World), E W → W.heap[w.heap.size]? = some (.deferred (some [])) → Q2 .normal { a with defers := { target := .collected w.heap.size, args := #[] } :: a.defers } W) :
    (Code.rangeFunc g #[p1, p2] assign body).wpIn Fence.wide n Tryz.prog (Exit.inBlock id Q2) a w := by
  refine range_sq2 r1 r2 hg hS I (fun s c pre W => c = .exit id ∧ Bk s pre W) hI (fun s c pre W W' h hs => ⟨h.1, hBk s pre W W' h.2 hs⟩) hstart hassign hbody
    (fun s W h hD => hend W (hdone s W h) hD) (fun s c pre W h hD => ?_)
  obtain ⟨rfl, hb⟩ := h
  have h1 := hend W (hstop s pre W hb) hD
  refine wpIn_exit ?_
  simpa [Exit.inBlock] using h1
end Go.Proofs.YthmfcloecmnfnaaGreat

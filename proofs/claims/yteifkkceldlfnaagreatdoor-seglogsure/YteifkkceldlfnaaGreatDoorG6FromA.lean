/-
  Package seglog's From: its answer is a range over the records from a position on.
-/
import Derived.Test.YteifkkceldlfnaaGreatDoorG6From2
namespace Go.Proofs.YteifkkceldlfnaaGreatDoor
open Go.RowKit Go.Shelf Go.Sort
open Go.Lib hiding intOf
variable {w w' : World} {B lb d : Nat} {lg : Lg} {vs : List Sv} {sl : Value}

theorem From_any {pos : Nat} (o : Lq w B lb d lg vs sl) : Calls Tryz.prog 26 #[.pointer (some ⟨lb, 0, none⟩), .int .u64 (pos : Int)] w fun e w' =>
    ∃ f, e = .returned f ∧ SqR (fun x => #[encE1 x, encE2 x]) w' f (gFrom lg pos) (Xf w.heap.size (w.heap.size + 1) lb sl vs) ∧ Below w.heap.size w w' ∧ w'.heap.size = w.heap.size + 2 :=
  (From_mk (some ⟨lb, 0, none⟩) (pos : Int) w).mono fun e w' ⟨he, h1, h2, h3, h4⟩ => ⟨_, he, ⟨_, _, rfl, enters_of Tryz.func63 (by kernel_rfl) rfl, fun k hk => by
    rcases hk with rfl | rfl | hk
    · exact h1.lt
    · exact h2.lt
    · have := (o.lw.foot_lt hk).1; omega, fun W1 hk => From1_runs (kq_bx hk (.inl rfl) h1) (kq_bx hk (.inr (.inl rfl)) h2) ((o.below h3).kq hk (fun x hx => .inr (.inr hx)))⟩, h3, h4⟩
end Go.Proofs.YteifkkceldlfnaaGreatDoor

/-
  A disk and the document's side by side: made, cloned, asked for their names.
-/
import Derived.Test.YtedcabnjcbdkaaaD6Args
namespace Go.Proofs.Ytedcabnjcbdkaaa
open Go.RowKit Go.Shelf Go.Sort
open Go.Lib hiding intOf
variable {X : Nat → Prop} {w w1 w2 : World} {B B' d r : Nat} {es : List Le} {p : Int} {off : Bool} {mo : Option Nat} {sv : Value} {st st' : Ab}

theorem Ld.weak (h : Ld w B' d es p off mo) (hB : B ≤ B') : Ld w B d es p off mo :=
  ⟨h.hd, h.mp, h.mn, fun e he => ⟨(h.fw e he).hd, row_low (h.fw e he).row hB, Nat.le_trans hB (h.fw e he).low⟩, h.apart, h.rise, ⟨Nat.le_trans hB h.low.1, fun mb e => Nat.le_trans hB (h.low.2 mb e)⟩, h.few, h.small, h.pw⟩
theorem St.weak (h : St w B' d st) (hB : B ≤ B') : St w B d st := by
  obtain ⟨es, mo, L, e⟩ := h
  exact ⟨es, mo, L.weak hB, e⟩
theorem Dk.weak {fs : List Fil} (h : Dk w r B' fs p off sv) (hB : B ≤ B') : Dk w r B fs p off sv := ⟨h.hd, row_low h.row hB⟩
/-- both, from block B on -/
abbrev Pb (w : World) (B d r : Nat) (st : Ab) : Prop := Pr (fun x => B ≤ x) w B d r st
theorem Pb.make (h : St w B d st) (k : Dk w r B st.1 st.2.1 st.2.2 sv) (hr : B ≤ r) : Pb w B d r st := by
  obtain ⟨es, mo, L, e⟩ := h
  refine ⟨es, mo, sv, L, e, k, hr, fun x hx => (L.foot_lt hx).2, fun x hx => ?_⟩
  rcases hx with rfl | hx
  · exact hr
  · exact (row_obj k.row hx).1
theorem Pr.sd (h : Pr X w B d r st) : St w B d st := by
  obtain ⟨es, mo, sv, L, e, _⟩ := h
  exact ⟨es, mo, L, e⟩
theorem Pr.dk (h : Pr X w B d r st) : ∃ sv, Dk w r B st.1 st.2.1 st.2.2 sv := by
  obtain ⟨es, mo, sv, L, e, k, _⟩ := h
  exact ⟨sv, k⟩
theorem Pr.low (h : Pr X w B d r st) : B ≤ r := by
  obtain ⟨es, mo, sv, L, e, k, hr, _⟩ := h
  exact hr
theorem Pr.base (h : Pr X w B d r st) : B ≤ w.heap.size := Nat.le_of_lt (Nat.lt_of_le_of_lt h.sd.lt.1 h.sd.lt.2)
theorem Pr.ch {Y : Nat → Prop} (h : Pr X w B d r st) (hc : Ch Y w w1) (hY : ∀ x, X x → ¬ Y x) : Pr X w1 B d r st := by
  obtain ⟨es, mo, sv, L, e, k, hr, h1, h2⟩ := h
  exact ⟨es, mo, sv, L.ch hc (fun x hx => hY x (h1 x hx)), e, k.ch hc (fun x hx => hY x (h2 x hx)), hr, h1, h2⟩
theorem Pr.below (h : Pr X w B d r st) (hb : Below w.heap.size w w1) : Pr X w1 B d r st :=
  h.ch (Y := fun _ => False) (Ch.of_below hb) (fun _ _ => id)
theorem Pr.mono {Y : Nat → Prop} (h : Pr X w B d r st) (hXY : ∀ x, X x → Y x) : Pr Y w B d r st := by
  obtain ⟨es, mo, sv, L, e, k, hr, h1, h2⟩ := h
  exact ⟨es, mo, sv, L, e, k, hr, fun x hx => hXY x (h1 x hx), fun x hx => hXY x (h2 x hx)⟩
theorem Left.pb (h : Left (fun x => B ≤ x) w B d r w1) (hB : B ≤ w.heap.size) : ∃ st', Pb w1 B d r st' ∧ Below B w w1 := by
  obtain ⟨st', hp, hc⟩ := h
  exact ⟨st', hp.mono (fun x hx => hx.elim id (fun h => Nat.le_trans hB h)), hc.below hB (fun k hk h => by omega)⟩
theorem off_drawn (h : Pr X w B d r st) (n : Nat) : Calls Try.prog 18 #[.pointer (some ⟨d, 0, none⟩)] (w.drewN n) fun e w' => e = .returned (.bool st.2.2) ∧ w' = w.drewN n :=
  sOff (h.ch (Y := fun _ => False) ((Ch.refl _ w).drewN n) (fun _ _ => id)).sd
/-- the names of both -/
theorem names1 (h : Pr X w B d r st) : Calls Try.prog 16 #[.pointer (some ⟨d, 0, none⟩)] w fun e w' => ∃ v, e = .returned v ∧ w'.ownsRow w.heap.size 9 1 v st.1.length (nms st.1) ∧ Below w.heap.size w w' := sNames h.sd
theorem names2 (h : Pr X w B d r st) : Calls Try.prog 17 #[.pointer (some ⟨r, 0, none⟩)] w fun e w' => ∃ v, e = .returned v ∧ w'.ownsRow w.heap.size 9 1 v st.1.length (nms st.1) ∧ Below w.heap.size w w' := by
  obtain ⟨sv, k⟩ := h.dk
  exact dNames k h.sd.wf.few
theorem row_below {v : Value} {n : Nat} {xs : List Value} {e : TypeId} {size base : Nat} (h : w.ownsRow base e size v n xs) (hb : Below w.heap.size w w1) : w1.ownsRow base e size v n xs :=
  (show Ch (fun _ => False) w w1 from Ch.of_below hb).row h (fun _ _ => id)
end Go.Proofs.Ytedcabnjcbdkaaa

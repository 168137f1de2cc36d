/-
  Package fold's first, and Token, Job: the first element of a key.
-/
import Derived.Test.YthmfcloecmnfnaaGreatF13Ap1
import Derived.Laws.ResultCell
namespace Go.Proofs.YthmfcloecmnfnaaGreat.f13
open Go.RowKit Go.Shelf Go.Sort
open Go.Lib hiding intOf

def setTk (W : World) (g : Nat) (c0 c1 c2 c3 c4 c5 : Value) : World := ((((((W.setCell ⟨g, 0, none⟩ c0).setCell ⟨g, 1, none⟩ c1).setCell ⟨g, 2, none⟩ c2).setCell ⟨g, 3, none⟩ c3).setCell ⟨g, 4, none⟩ c4).setCell ⟨g, 5, none⟩ c5)
theorem setTk_obj {W : World} {g : Nat} {t : TypeId} {z0 z1 z2 z3 z4 z5 : Value} (c0 c1 c2 c3 c4 c5 : Value) (h : W.heap[g]? = some (.cells #[z0, z1, z2, z3, z4, z5] t (0, 0))) : (setTk W g c0 c1 c2 c3 c4 c5).heap[g]? = some (.cells #[c0, c1, c2, c3, c4, c5] t (0, 0)) := (heap_setCell_same _ g 5 _ _ c5 (heap_setCell_same _ g 4 _ _ c4 (heap_setCell_same _ g 3 _ _ c3 (heap_setCell_same _ g 2 _ _ c2 (heap_setCell_same _ g 1 _ _ c1 (heap_setCell_same _ g 0 _ _ c0 h))))))
theorem setTk_ch (W : World) (g : Nat) (c0 c1 c2 c3 c4 c5 : Value) : Ch (fun b => b = g) W (setTk W g c0 c1 c2 c3 c4 c5) := (((((((Ch.refl (fun b => b = g) W).setCell ⟨g, 0, none⟩ c0 (fun _ => rfl)).setCell ⟨g, 1, none⟩ c1 (fun _ => rfl)).setCell ⟨g, 2, none⟩ c2 (fun _ => rfl)).setCell ⟨g, 3, none⟩ c3 (fun _ => rfl)).setCell ⟨g, 4, none⟩ c4 (fun _ => rfl)).setCell ⟨g, 5, none⟩ c5 (fun _ => rfl))
theorem sizeTk : (Tryz.prog.info? 66).map (·.size) = some 6 := by kernel_rfl

theorem ret_two {P : Program} {fn : Func} {p u : Tmp} {ty : TypeId} (h : fn.results = #[.cell p ty, .tmp u]) (tmps : Array Value) (w : World) (g : Nat) (t : TypeId) (cs : Array Value) (fr : Nat × Nat) (d : TypeDesc) (hp : tmps.getD p undef = .pointer (some ⟨g, 0, none⟩)) (hg : w.heap[g]? = some (.cells cs t fr)) (hu : P.underlying ty = some d) (hd : (match d with | .struct _ | .array _ _ => true | _ => false) = true) (hi : (P.info? ty).map (·.size) = some cs.size) : (results fn tmps).run P w = .ok (.tuple #[.agg cs, tmps.getD u undef]) w := by
  rw [results_cell_tmp h, hp]
  simp [asAddr, run_loadVar_row w g t ty cs fr d hg hu hd hi]
/-- the first one that is so, or none -/
def fstTk (q : Tk → Bool) (l : List Tk) : Tk × Bool := match l.find? q with
  | some x => (x, true)
  | none => (⟨0, 0, 0, 0, 0, []⟩, false)
theorem find_of {α : Type} {q : α → Bool} {l : List α} {i : Nat} (h : l.findIdx? q = some i) : ∃ hi : i < l.length, l.find? q = some l[i] := by
  obtain ⟨hi, h1, h2⟩ := List.findIdx?_eq_some_iff_getElem.1 h
  refine ⟨hi, ?_⟩
  rw [List.find?_eq_some_iff_getElem]
  exact ⟨h1, i, hi, rfl, fun j hj => by have := h2 j hj; simpa using this⟩
theorem find_no {α : Type} {q : α → Bool} {l : List α} (h : l.findIdx? q = none) : l.find? q = none := by
  rw [List.findIdx?_eq_none_iff] at h
  rw [List.find?_eq_none]
  exact fun x hx => by simp [h x hx]
end Go.Proofs.YthmfcloecmnfnaaGreat.f13

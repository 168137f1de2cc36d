/-
  Package model: the lists of rules, and what is found wrong by them.
-/
import Derived.Test.YtlmdoiagjepmbaaGreatDoorM11Way
namespace Go.Proofs.YtlmdoiagjepmbaaGreatDoor.m11
open Go.Proofs.YtlmdoiagjepmbaaGreatDoor.x10
open Go.RowKit Go.Shelf Go.Sort
open Go.Lib hiding intOf

def ptr (b : Nat) : Value := .pointer (some ⟨b, 0, none⟩)
/-- the rules of nodes, as functions -/
def NR (pb eb : Nat) : List (Nat × Array Value) := [(59, #[]), (60, #[ptr pb]), (62, #[ptr pb]), (64, #[ptr pb]), (66, #[]), (67, #[]), (69, #[ptr eb])]
def FR (pb : Nat) : List (Nat × Array Value) := [(70, #[ptr pb]), (71, #[ptr pb]), (72, #[ptr pb]), (73, #[ptr pb]), (75, #[ptr pb])]
def WR (pb : Nat) : List (Nat × Array Value) := [(78, #[ptr pb]), (79, #[ptr pb])]
theorem NR_ent (pb eb : Nat) : ∀ (j : Nat) (h : j < (NR pb eb).length), Ent0 (NR pb eb)[j].1 := fun j h => by
  have h7 : j < 7 := h
  match j, h7 with
  | 0, _ => exact enters_of Tryz.func59 (by kernel_rfl) rfl
  | 1, _ => exact enters_of Tryz.func60 (by kernel_rfl) rfl
  | 2, _ => exact enters_of Tryz.func62 (by kernel_rfl) rfl
  | 3, _ => exact enters_of Tryz.func64 (by kernel_rfl) rfl
  | 4, _ => exact enters_of Tryz.func66 (by kernel_rfl) rfl
  | 5, _ => exact enters_of Tryz.func67 (by kernel_rfl) rfl
  | 6, _ => exact enters_of Tryz.func69 (by kernel_rfl) rfl
theorem FR_ent (pb : Nat) : ∀ (j : Nat) (h : j < (FR pb).length), Ent0 (FR pb)[j].1 := fun j h => by
  have h5 : j < 5 := h
  match j, h5 with
  | 0, _ => exact enters_of Tryz.func70 (by kernel_rfl) rfl
  | 1, _ => exact enters_of Tryz.func71 (by kernel_rfl) rfl
  | 2, _ => exact enters_of Tryz.func72 (by kernel_rfl) rfl
  | 3, _ => exact enters_of Tryz.func73 (by kernel_rfl) rfl
  | 4, _ => exact enters_of Tryz.func75 (by kernel_rfl) rfl
theorem WR_ent (pb : Nat) : ∀ (j : Nat) (h : j < (WR pb).length), Ent0 (WR pb)[j].1 := fun j h => by
  have h2 : j < 2 := h
  match j, h2 with
  | 0, _ => exact enters_of Tryz.func78 (by kernel_rfl) rfl
  | 1, _ => exact enters_of Tryz.func79 (by kernel_rfl) rfl
theorem nodes_getD {P : Pc} {i : Nat} (hi : i < P.nodes.length) : P.nodes[i]?.getD n0 = P.nodes[i] := by rw [List.getElem?_eq_getElem hi]; rfl
theorem flows_getD {P : Pc} {i : Nat} (hi : i < P.flows.length) : P.flows[i]?.getD f0 = P.flows[i] := by rw [List.getElem?_eq_getElem hi]; rfl
theorem NR_say {w : World} {pb eb mb : Nat} {nv fv : Value} {P : Pc} (hb : Pb w pb nv fv P) (hz : Pz P) (hg : Gg w) (he : w.cell? ⟨eb, 0, none⟩ = some (.map (some mb))) (hlt : eb < w.heap.size) (hm : Bn w mb) (hml : mb < w.heap.size) :
    ∀ (i : Nat) (hi : i < P.nodes.length) (j : Nat) (hj : j < (NR pb eb).length), (∀ j', j' < j → ndQ P j' i = true) → Say w (NR pb eb)[j].1 (NR pb eb)[j].2 #[.int .i64 (i : Int), nA P.nodes[i]] (ndQ P j i) := fun i hi j hj _ => by
  have h7 : j < 7 := hj
  have hd := nodes_getD hi
  have hx := hz.nz _ (List.getElem_mem hi)
  intro W hW
  match j, h7 with
  | 0, _ => unfold ndQ; rw [hd]; exact nr1_any P.nodes[i] (i : Int) W
  | 1, _ => unfold ndQ; rw [hd]; exact nr2_any (hb.up hW) hz hi
  | 2, _ => unfold ndQ; rw [hd]; exact nr3_any (hb.up hW) hi
  | 3, _ => unfold ndQ; rw [hd]; exact nr4_any (hb.up hW) hi
  | 4, _ => unfold ndQ; rw [hd]; exact nr5_any P.nodes[i] (i : Int) W hx
  | 5, _ => unfold ndQ; rw [hd]; exact nr6_any P.nodes[i] (i : Int) W (hg.up hW)
  | 6, _ => unfold ndQ; rw [hd]; exact nr7_any (i : Int) hx ((hW.cell (p := ⟨eb, 0, none⟩) hlt).trans he) (Nat.lt_of_lt_of_le hlt hW.size) (hm.up hW hml) (Nat.lt_of_lt_of_le hml hW.size)
theorem FR_say {w : World} {pb : Nat} {nv fv : Value} {P : Pc} (hb : Pb w pb nv fv P) (hz : Pz P) (hg : Gg w) :
    ∀ (i : Nat) (hi : i < P.flows.length) (j : Nat) (hj : j < (FR pb).length), (∀ j', j' < j → flQ P j' i = true) → Say w (FR pb)[j].1 (FR pb)[j].2 #[.int .i64 (i : Int), fA P.flows[i]] (flQ P j i) := fun i hi j hj hq => by
  have h5 : j < 5 := hj
  have hd := flows_getD hi
  have h0 : 0 < j → (isPl P.nodes.length P.flows[i].src && isPl P.nodes.length P.flows[i].dst) = true := fun h => by have := hq 0 h; unfold flQ at this; rw [hd] at this; exact this
  intro W hW
  match j, h5 with
  | 0, _ => unfold flQ; rw [hd]; exact fr1_any (hb.up hW) (i : Int) P.flows[i]
  | 1, _ => unfold flQ; rw [hd]; exact fr2_any (hb.up hW) (i : Int) (h0 (by omega))
  | 2, _ => unfold flQ; rw [hd]; exact fr3_any (hb.up hW) (i : Int) (Bool.and_eq_true_iff.1 (h0 (by omega))).1
  | 3, _ => unfold flQ; rw [hd]; exact fr4_any (hb.up hW) (i : Int) (Bool.and_eq_true_iff.1 (h0 (by omega))).2
  | 4, _ => unfold flQ; rw [hd]; exact fr5_any (hb.up hW) hz (hg.up hW) hi (Bool.and_eq_true_iff.1 (h0 (by omega))).1
theorem WR_say {w : World} {pb : Nat} {nv fv : Value} {P : Pc} (hb : Pb w pb nv fv P) (hz : Pz P) :
    ∀ (i : Nat) (hi : i < P.nodes.length) (j : Nat) (hj : j < (WR pb).length), (∀ j', j' < j → wyQ P j' i = true) → Say w (WR pb)[j].1 (WR pb)[j].2 #[.int .i64 (i : Int), nA P.nodes[i]] (wyQ P j i) := fun i hi j hj _ => by
  have h2 : j < 2 := hj
  have hd := nodes_getD hi
  intro W hW
  match j, h2 with
  | 0, _ => unfold wyQ; rw [hd]; exact wr1_any (hb.up hW) hz (i : Int) P.nodes[i]
  | 1, _ => unfold wyQ; rw [hd]; exact wr2_any (hb.up hW) hz (i : Int) P.nodes[i]
end Go.Proofs.YtlmdoiagjepmbaaGreatDoor.m11

/-
  slices.SortFunc of segments by their first positions.
-/
import Derived.Test.YteifkkceldlfnaaGreatDoorG6Cmp
import Derived.Test.YteifkkceldlfnaaGreatDoorG6Lay2
import Derived.Shelf.SlSortCmp.Whole1
namespace Go.Proofs.YteifkkceldlfnaaGreatDoor
open Go.RowKit Go.Shelf Go.Sort
open Go.Lib hiding intOf

theorem mapBlock_other (w : World) (blk k : Nat) (f : Array Value → Array Value) (h : k ≠ blk) : (mapBlock w blk f).heap[k]? = w.heap[k]? := by
  unfold mapBlock
  simp only [Array.getElem?_modify]
  rw [if_neg (fun e => h e.symm)]
theorem mapBlock_size (w : World) (blk : Nat) (f : Array Value → Array Value) : (mapBlock w blk f).heap.size = w.heap.size := by
  unfold mapBlock
  simp
theorem mapBlock_cells (w : World) (blk : Nat) (f : Array Value → Array Value) {c : Array Value} {e : TypeId} {fr : Nat × Nat} (h : w.heap[blk]? = some (.cells c e fr)) : (mapBlock w blk f).heap[blk]? = some (.cells (f c) e fr) := by
  unfold mapBlock
  simp only [Array.getElem?_modify]
  rw [if_pos trivial, h]
  rfl
section
variable {α : Type} [Inhabited α]
theorem sortW_old (enc : α → Value) (w : World) (blk off m : Nat) (dk : Array α) (os : Array Obj) {k : Nat} (hk : k < w.heap.size) : (sortWorld enc w blk off m dk os).heap[k]? = (mapBlock w blk (putCells enc off dk)).heap[k]? := by
  unfold sortWorld grow putRow
  simp only
  rw [Array.getElem?_append_left (by rw [mapBlock_size]; exact hk)]
  rfl
theorem sortW_ch (enc : α → Value) (w : World) (blk off m : Nat) (dk : Array α) (os : Array Obj) : Ch (fun k => k = blk) w (sortWorld enc w blk off m dk os) := by
  refine ⟨rfl, rfl, rfl, ?_, fun k hk hne => ?_⟩
  · unfold sortWorld grow putRow
    simp only [Array.size_append]
    rw [mapBlock_size]
    exact Nat.le_add_right _ _
  · rw [sortW_old enc w blk off m dk os hk]
    exact mapBlock_other w blk k _ hne
end
/-- a segment among these, as a pointer -/
def encP6 {vs : List Sv} (x : { v : Sv // v ∈ vs }) : Value := ptr x.1
def cmpP6 {vs : List Sv} (x y : { v : Sv // v ∈ vs }) : Int := cmpN x.1.sg.first y.1.sg.first
theorem cmpP6_lt {vs : List Sv} (x y : { v : Sv // v ∈ vs }) : ltOf cmpP6 x y = decide (x.1.sg.first < y.1.sg.first) := by
  unfold ltOf cmpP6 cmpN
  by_cases h : x.1.sg.first < y.1.sg.first
  · simp [h]
  · rw [if_neg h]
    by_cases h2 : y.1.sg.first < x.1.sg.first
    · rw [if_pos h2]; simp [h]
    · rw [if_neg h2]; simp [h]
theorem swo6 {vs : List Sv} : SWO (ltOf (cmpP6 (vs := vs))) := by
  refine ⟨fun x => ?_, fun x y z h1 h2 => ?_, fun x y z h1 h2 => ?_⟩
  · rw [cmpP6_lt]; simp
  · rw [cmpP6_lt] at *
    simp at *
    omega
  · rw [cmpP6_lt] at *
    simp at *
    omega
theorem put_take {α : Type} [Inhabited α] (enc : α → Value) (d : Array α) (cur : Array Value) (h : d.size ≤ cur.size) : (putCells enc 0 d cur).toList.take d.size = d.toList.map enc := by
  apply List.ext_getElem?
  intro j
  rw [List.getElem?_take]
  by_cases hj : j < d.size
  · rw [if_pos hj]
    unfold putCells
    rw [Array.getElem?_toList, Array.getElem?_mapIdx, Array.getElem?_eq_getElem (by omega), List.getElem?_map, Array.getElem?_toList, Array.getElem?_eq_getElem hj]
    simp only [Option.map_some]
    rw [if_pos ⟨Nat.zero_le _, by omega⟩, Nat.sub_zero, getElem!_pos d j hj]
  · rw [if_neg hj, List.getElem?_map, Array.getElem?_toList, Array.getElem?_eq_none (by omega)]
    rfl

set_option maxHeartbeats 1000000 in
theorem sortSegs {w : World} {B g cap : Nat} {vs : List Sv} (hne : vs ≠ []) (hrow : w.ownsRow B 83 1 (.slice (some ⟨g, 0, none⟩) vs.length cap) vs.length (vs.map ptr)) (hseg : ∀ v ∈ vs, w.cell? ⟨v.g, 1, none⟩ = some (.int .u64 (v.sg.first : Int)) ∧ v.g < w.heap.size ∧ v.g ≠ g) (hlen : vs.length ≤ 1099511627776) :
    Calls Tryz.prog 98 #[.slice (some ⟨g, 0, none⟩) vs.length cap, .func (.func 99) #[] #[]] w fun e w' => e = .returned (.tuple #[]) ∧ ∃ vs' : List Sv, vs'.Perm vs ∧ vs'.Pairwise (fun a b => a.sg.first ≤ b.sg.first) ∧ w'.ownsRow B 83 1 (.slice (some ⟨g, 0, none⟩) vs.length cap) vs.length (vs'.map ptr) ∧ Ch (fun k => k = g) w w' := by
  obtain ⟨v0, hv0⟩ := List.exists_mem_of_ne_nil vs hne
  haveI : Inhabited { v : Sv // v ∈ vs } := ⟨⟨v0, hv0⟩⟩
  obtain ⟨hxl, hr⟩ := hrow
  obtain ⟨g', cap', cur, e, hBg, hcur, hnc, hcm, hcs, htk⟩ := hr.resolve_left (fun h => by cases h.1)
  cases e
  have hgl := (Array.getElem?_eq_some_iff.1 hcur).1
  have hds : vs.attach.toArray.size = vs.length := by simp
  have hH : Holds (encP6 (vs := vs)) w g 0 vs.attach.toArray := fun j hj => by
    rw [hds] at hj
    rw [getElem!_pos _ j (by rw [hds]; exact hj)]
    refine ⟨?_, by simp [World.frozen?, hcur]⟩
    have h1 : (vs.map ptr)[j]? = some (ptr vs[j]) := by simp [hj]
    rw [← htk, List.getElem?_take, if_pos (by omega), Array.getElem?_toList] at h1
    simp only [World.cell?, hcur, Nat.zero_add]
    simpa [encP6] using h1
  have hcmp : CmpLays1 Tryz.prog 99 #[] (encP6 (vs := vs)) cmpP6 g 0 vs.attach.toArray.size w := fun m os dk hdk x y => by
    have hc := sortW_ch (encP6 (vs := vs)) w g 0 m dk os
    obtain ⟨x1, x2, x3⟩ := hseg x.1 x.2
    obtain ⟨y1, y2, y3⟩ := hseg y.1 y.2
    have hx : (sortWorld (encP6 (vs := vs)) w g 0 m dk os).cell? ⟨x.1.g, 1, none⟩ = some (.int .u64 (x.1.sg.first : Int)) := (World.cell?_of_block (a := ⟨x.1.g, 1, none⟩) (hc.block _ x2 x3)).trans x1
    have hy : (sortWorld (encP6 (vs := vs)) w g 0 m dk os).cell? ⟨y.1.g, 1, none⟩ = some (.int .u64 (y.1.sg.first : Int)) := (World.cell?_of_block (a := ⟨y.1.g, 1, none⟩) (hc.block _ y2 y3)).trans y1
    refine (cmp1_any hx hy).mono fun e w' ⟨h1, q, h2⟩ => ⟨h1, q, #[], by rw [h2, grow_empty]⟩
  have hS := Any.slices_SortFunc sort1Lay (encP6 (vs := vs)) (fun x => rfl) cmpP6 swo6 99 #[] g 0 cap vs.attach.toArray w (enters_of Tryz.func99 (by kernel_rfl) rfl) hcmp hH hgl (by rw [hds]; omega)
  rw [hds] at hS
  refine Calls.mono (P := Tryz.prog) (f := 98) hS fun e w' ⟨h1, d', n, os, hp, hs, hw⟩ => ⟨h1, d'.toList.map (·.1), ?_, ?_, ?_, by rw [hw]; exact sortW_ch _ _ _ _ _ _ _⟩
  · obtain ⟨p1, -, p3⟩ := hp
    have e1 : d'.extract 0 vs.length = d' := by rw [← hds, ← p1]; simp
    have e2 : vs.attach.toArray.extract 0 vs.length = vs.attach.toArray := by simp; exact List.take_of_length_le (by simp)
    rw [e1, e2] at p3
    have := p3.map (·.1)
    simpa using this
  · have hsz : d'.size = vs.length := hp.1.trans hds
    rw [List.pairwise_map, List.pairwise_iff_getElem]
    intro i j hi hj hij
    have hi' : i < d'.size := by simpa using hi
    have hj' : j < d'.size := by simpa using hj
    have := hs i j (Nat.zero_le _) hij (by omega)
    rw [getElem!_pos d' i hi', getElem!_pos d' j hj', cmpP6_lt] at this
    simp at this
    simpa using this
  · have hsz : d'.size = vs.length := hp.1.trans hds
    refine ⟨by simp [hsz], .inr ⟨g, cap, putCells encP6 0 d' cur, rfl, hBg, ?_, hnc, hcm, by simp [putCells, hcs], ?_⟩⟩
    · rw [hw, sortW_old _ _ _ _ _ _ _ hgl]
      exact mapBlock_cells w g _ hcur
    · have := put_take (encP6 (vs := vs)) d' cur (by rw [hsz]; omega)
      rw [hsz] at this
      rw [Nat.mul_one, this, List.map_map]
      rfl
end Go.Proofs.YteifkkceldlfnaaGreatDoor

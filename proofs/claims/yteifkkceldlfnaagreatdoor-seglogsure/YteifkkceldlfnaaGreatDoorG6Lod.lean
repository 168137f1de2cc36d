/-
  Package seglog's load, its plain half, and what stands in its loop.
-/
import Derived.Test.YteifkkceldlfnaaGreatDoorG6Nmd
import Derived.Test.YteifkkceldlfnaaGreatDoorG6Fil2
namespace Go.Proofs.YteifkkceldlfnaaGreatDoor
open Go.RowKit Go.Shelf Go.Sort
open Go.Lib hiding intOf

/-- may a segment at position n stand behind these (tn: bytes were behind the last one's frames)? -/
def flw (sgs : List Sg) (tn : Bool) (n : Nat) : Bool := match sgs.getLast? with
  | none => true
  | some s => !tn && (n == s.next)
def ldStep (o : Option (List Sg × Bool)) (x : Nat × List UInt8) : Option (List Sg × Bool) := match o with
  | none => none
  | some (sgs, tn) => if flw sgs tn x.1 = true then (match filS x.1 (fra x.2) with
    | some rs => some (sgs ++ [⟨x.1, rs, god (fra x.2)⟩], decide (god (fra x.2) < x.2.length))
    | none => none) else none
/-- the segments of files (position, bytes), in their order, and whether bytes are behind the last one's frames; none: they are no log's -/
def ldG (fs : List (Nat × List UInt8)) : Option (List Sg × Bool) := fs.foldl ldStep (some ([], false))
theorem ldG_snoc (a : List (Nat × List UInt8)) (x : Nat × List UInt8) : ldG (a ++ [x]) = ldStep (ldG a) x := by
  unfold ldG
  rw [List.foldl_append]
  rfl
theorem ld_none : ∀ (b : List (Nat × List UInt8)), b.foldl ldStep none = none
  | [] => rfl
  | x :: t => by rw [List.foldl_cons]; exact ld_none t
theorem ldG_none {a b : List (Nat × List UInt8)} (h : ldG a = none) (hp : a <+: b) : ldG b = none := by
  obtain ⟨t, rfl⟩ := hp
  unfold ldG at h ⊢
  rw [List.foldl_append, h]
  exact ld_none t
/-- what stands in load's loop: vs: the segments as they were named, ws: those that are filled -/
structure Lo6 (w wr : World) (pre : ByteArray) (vs ws : List Sv) (sl : Value) : Prop where
  row : wr.ownsRow w.heap.size 83 1 sl vs.length (vs.map ptr)
  le : ws.length ≤ vs.length
  same : ∀ j (h : j < ws.length), ws[j].g = (vs[j]'(by omega)).g ∧ ws[j].sg.first = (vs[j]'(by omega)).sg.first
  sw : ∀ v ∈ ws, Sw wr w.heap.size pre v
  nw : ∀ v ∈ vs.drop ws.length, Nw wr pre w.heap.size v
  ap : ws.Pairwise SApart
  bw : Below w.heap.size w wr
section
variable {w wr w' : World} {pre : ByteArray} {vs ws : List Sv} {sl : Value}
theorem Lo6.below (h : Lo6 w wr pre vs ws sl) (hb : Below wr.heap.size wr w') : Lo6 w w' pre vs ws sl :=
  ⟨(show Ch (fun _ => False) wr w' from Ch.of_below hb).row h.row (fun _ _ => id), h.le, h.same, fun v hv => (h.sw v hv).below hb, fun v hv => (h.nw v hv).ch (Y := fun _ => False) (Ch.of_below hb) id, h.ap, h.bw.trans (hb.mono h.bw.size)⟩
/-- a block with a segment in it is no row of strings, nor of pointers -/
theorem Lo6.not_row {g : Nat} {cs : Array Value} (hg : wr.heap[g]? = some (.cells cs 113 (0, 0))) {B : Nat} {e : TypeId} (he : e ≠ 113) {v : Value} {n : Nat} {xs : List Value} (hr : wr.ownsRow B e 1 v n xs) : v.ownBlock ≠ some g := fun e2 => by
  obtain ⟨_, cur, h1⟩ := row_obj hr e2
  rw [h1] at hg
  injection hg with hg
  injection hg with _ h2 _
  exact he h2
theorem Lo6.fill (h : Lo6 w wr pre vs ws sl) (hi : ws.length < vs.length) (hgs : vs.Pairwise (fun a b => a.g ≠ b.g)) {recs : List (List UInt8)} {sz : Nat} {rv : Value} (hc : Ch (fun k => k = vs[ws.length].g) wr w') (hs : Sw w' w.heap.size pre ⟨⟨vs[ws.length].sg.first, recs, sz⟩, vs[ws.length].g, rv⟩) (hrv : ∀ x, rv.ownBlock = some x → wr.heap.size ≤ x) : Lo6 w w' pre vs (ws ++ [⟨⟨vs[ws.length].sg.first, recs, sz⟩, vs[ws.length].g, rv⟩]) sl := by
  have hn := h.nw vs[ws.length] (by rw [List.drop_eq_getElem_cons hi]; exact List.mem_cons_self ..)
  have hhd := hn.hd
  unfold segC at hhd
  have hgd : ∀ j (hj : j < vs.length), j ≠ ws.length → vs[j].g ≠ vs[ws.length].g := fun j hj hne => by
    rcases Nat.lt_or_ge j ws.length with h1 | h1
    · exact List.pairwise_iff_getElem.1 hgs j ws.length hj hi h1
    · exact fun e => List.pairwise_iff_getElem.1 hgs ws.length j hi hj (by omega) e.symm
  have hold : ∀ v ∈ ws, v.g ≠ vs[ws.length].g ∧ v.rv.ownBlock ≠ some vs[ws.length].g := fun v hv => by
    obtain ⟨j, hj, rfl⟩ := List.getElem_of_mem hv
    refine ⟨?_, Lo6.not_row hhd (by decide) (h.sw _ hv).row⟩
    rw [(h.same j hj).1]
    exact hgd j (by omega) (by omega)
  refine ⟨hc.row h.row (fun k hk e => Lo6.not_row hhd (by decide) h.row (by rw [← e]; exact hk)), by simp; omega, fun j hj => ?_, fun v hv => ?_, fun v hv => ?_, ?_, h.bw.trans (hc.below h.bw.size (fun k hk e => by have := hn.lo; omega))⟩
  · rw [List.length_append, List.length_singleton] at hj
    by_cases hjw : j < ws.length
    · rw [List.getElem_append_left hjw]; exact h.same j hjw
    · obtain rfl : j = ws.length := by omega
      simp
  · rcases List.mem_append.1 hv with hv | hv
    · refine (h.sw v hv).ch hc (fun x hx e => ?_)
      rcases hx with hx | hx
      · exact (hold v hv).1 (hx ▸ e)
      · exact (hold v hv).2 (e ▸ hx)
    · rw [List.mem_singleton.1 hv]; exact hs
  · rw [List.length_append, List.length_singleton] at hv
    obtain ⟨j, hj, e⟩ := List.getElem_of_mem hv
    rw [List.getElem_drop] at e
    rw [List.length_drop] at hj
    refine (h.nw v (by rw [List.drop_eq_getElem_cons hi]; exact List.mem_cons_of_mem _ hv)).ch hc (fun e2 => ?_)
    rw [← e] at e2
    exact hgd _ (by omega) (by omega) e2
  · rw [List.pairwise_append]
    refine ⟨h.ap, List.pairwise_singleton _ _, fun a ha b hb => ?_⟩
    rw [List.mem_singleton.1 hb]
    refine ⟨(hold a ha).1, fun x hx e => ?_⟩
    have h1 := hrv x e
    obtain ⟨_, cur, h2⟩ := row_obj (h.sw a ha).row hx
    have := (Array.getElem?_eq_some_iff.1 h2).1
    omega
end
end Go.Proofs.YteifkkceldlfnaaGreatDoor

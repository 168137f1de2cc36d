/-
  Package seglog's load, of every disk that is on.
-/
import Derived.BigQuiet
import Derived.Test.YteifkkceldlfnaaGreatDoorG6Lod
namespace Go.Proofs.YteifkkceldlfnaaGreatDoor
open Go.RowKit Go.Shelf Go.Sort
open Go.Lib hiding intOf

/-- a disk's bounds -/
theorem St.facts {w : World} {B d : Nat} {st : Ab} (h : St w B d st) : st.1.length ≤ 256 ∧ (st.1.map (·.1)).Nodup ∧ (∀ k ∈ st.1.map (·.1), k.size ≤ 32) ∧ ∀ k ∈ st.1.map (·.1), ((gv st.1 k).1 ++ (gv st.1 k).2).size ≤ 1048576 := by
  have hr := h.rise
  obtain ⟨es, mo, L, e⟩ := h
  have hl : st.1.length = es.length := by rw [← e]; simp [fil, vals]
  refine ⟨by rw [hl]; exact L.few, ?_, fun k hk => ?_, fun k hk => ?_⟩
  · rw [List.nodup_iff_pairwise_ne, List.pairwise_map]
    exact hr.imp (fun h1 h2 => by rw [h2, lt_irrefl] at h1; cases h1)
  · rw [← e] at hk
    obtain ⟨x, hx, rfl⟩ := List.mem_map.1 hk
    obtain ⟨y, hy, rfl⟩ := List.mem_map.1 hx
    exact (L.small y hy).1
  · rw [← e] at hk ⊢
    obtain ⟨x, hx, rfl⟩ := List.mem_map.1 hk
    obtain ⟨y, hy, rfl⟩ := List.mem_map.1 hx
    have h1 := fil_gv L.rise (k := y.1) (v := y.2) hy
    show ((gv (fil es) y.1).1 ++ (gv (fil es) y.1).2).size ≤ _
    rw [h1]
    exact (L.small y hy).2
/-- the bytes of the file of position n -/
def flB (st : Ab) (pre : ByteArray) (n : Nat) : List UInt8 := ((gv st.1 (nam pre n)).1 ++ (gv st.1 (nam pre n)).2).data.toList
def flN (st : Ab) (pre : ByteArray) (n : Nat) : Nat × List UInt8 := (n, flB st pre n)
theorem read_at6 {w : World} {B d n : Nat} {st : Ab} {pre : ByteArray} (h : St w B d st) (hoff : st.2.2 = false) (hk : nam pre n ∈ st.1.map (·.1)) : aRead st (nam pre n) = (S (flB st pre n), 0) := by
  have h1 : noOf st.1 st.2.2 (nam pre n) = 0 := by
    obtain ⟨x, hx, e⟩ := List.mem_map.1 hk
    have h2 := (has_iff h.rise (nam pre n)).2 ⟨x.2, by rw [← e]; exact hx⟩
    unfold noOf
    rw [hoff, h2]
    simp
  unfold aRead
  rw [if_neg (by rw [h1]; simp)]
  unfold flB
  rw [S_of]
/-- the positions whose files are there, rising -/
structure PsOf (pre : ByteArray) (ns : List ByteArray) (ps : List Nat) : Prop where
  rise : ps.Pairwise (· < ·)
  iff : ∀ n, n ∈ ps ↔ 1 ≤ n ∧ n ≤ 1099511627777 ∧ nam pre n ∈ ns
/-- load's answer -/
def LodR (w : World) (pre : ByteArray) (st : Ab) (e : Ending) (w' : World) : Prop :=
  ∃ ps, PsOf pre (st.1.map (·.1)) ps ∧ ((∃ (ws : List Sv) (sl : Value) (tn : Bool), ldG (ps.map (flN st pre)) = some (ws.map Sv.sg, tn) ∧ e = .returned (.tuple #[sl, .bool tn, .int .i64 0]) ∧ w'.ownsRow w.heap.size 83 1 sl ws.length (ws.map ptr) ∧ (∀ v ∈ ws, Sw w' w.heap.size pre v) ∧ ws.Pairwise SApart ∧ ∀ v ∈ ws, v.sg.next ≤ 1099511627777) ∨ (ldG (ps.map (flN st pre)) = none ∧ e = .returned (.tuple #[.slice none 0 0, .bool false, .int .i64 3])))
theorem ldStep_ok {sgs : List Sg} {tn : Bool} {n : Nat} {l : List UInt8} {rs : List (List UInt8)} (hf : flw sgs tn n = true) (he : filS n (fra l) = some rs) : ldStep (some (sgs, tn)) (n, l) = some (sgs ++ [⟨n, rs, god (fra l)⟩], decide (god (fra l) < l.length)) := by
  simp only [ldStep, if_pos hf, he]
theorem ldStep_no {sgs : List Sg} {tn : Bool} {n : Nat} {l : List UInt8} (h : flw sgs tn n = false ∨ filS n (fra l) = none) : ldStep (some (sgs, tn)) (n, l) = none := by
  rcases h with h | h
  · simp [ldStep, h]
  · simp [ldStep, h]
/-- what stands in load's loop, with what was loaded -/
def Lp (w wr : World) (pre : ByteArray) (st : Ab) (vs ws : List Sv) (sl : Value) (tn : Bool) : Prop :=
  Lo6 w wr pre vs ws sl ∧ ldG ((vs.take ws.length).map fun v => flN st pre v.sg.first) = some (ws.map Sv.sg, tn) ∧ ∀ v ∈ ws, v.sg.next ≤ 1099511627777
section
variable {w wr w' : World} {pre : ByteArray} {st : Ab} {vs ws : List Sv} {sl : Value} {tn : Bool}
theorem Lp.below (h : Lp w wr pre st vs ws sl tn) (hb : Below wr.heap.size wr w') : Lp w w' pre st vs ws sl tn := ⟨h.1.below hb, h.2⟩
theorem Lp.step (h : Lp w wr pre st vs ws sl tn) (hi : ws.length < vs.length) : ldG ((vs.take (ws.length + 1)).map fun v => flN st pre v.sg.first) = ldStep (some (ws.map Sv.sg, tn)) (vs[ws.length].sg.first, flB st pre vs[ws.length].sg.first) := by
  rw [List.take_succ_eq_append_getElem hi, List.map_append, List.map_singleton, ldG_snoc, h.2.1]
  rfl
theorem Lp.fill (h : Lp w wr pre st vs ws sl tn) (hi : ws.length < vs.length) (hgs : vs.Pairwise (fun a b => a.g ≠ b.g)) (hf : flw (ws.map Sv.sg) tn vs[ws.length].sg.first = true) (hm : vs[ws.length].sg.first ≤ 1099511627777) {recs : List (List UInt8)} {rv : Value} (he : filS vs[ws.length].sg.first (fra (flB st pre vs[ws.length].sg.first)) = some recs) (hc : Ch (fun k => k = vs[ws.length].g) wr w') (hs : Sw w' w.heap.size pre ⟨⟨vs[ws.length].sg.first, recs, god (fra (flB st pre vs[ws.length].sg.first))⟩, vs[ws.length].g, rv⟩) (hrv : ∀ x, rv.ownBlock = some x → wr.heap.size ≤ x) :
    Lp w w' pre st vs (ws ++ [⟨⟨vs[ws.length].sg.first, recs, god (fra (flB st pre vs[ws.length].sg.first))⟩, vs[ws.length].g, rv⟩]) sl (decide (god (fra (flB st pre vs[ws.length].sg.first)) < (flB st pre vs[ws.length].sg.first).length)) := by
  refine ⟨h.1.fill hi hgs hc hs hrv, ?_, fun v hv => ?_⟩
  · rw [List.length_append, List.length_singleton, h.step hi]
    rw [ldStep_ok hf he, List.map_append, List.map_singleton]
  · rcases List.mem_append.1 hv with hv | hv
    · exact h.2.2 v hv
    · rw [List.mem_singleton.1 hv]
      exact filS_max hm he
theorem Lp.falls (h : Lp w wr pre st vs ws sl tn) (hi : ws.length < vs.length) (hn : flw (ws.map Sv.sg) tn vs[ws.length].sg.first = false ∨ filS vs[ws.length].sg.first (fra (flB st pre vs[ws.length].sg.first)) = none) : ldG (vs.map fun v => flN st pre v.sg.first) = none := by
  refine ldG_none (a := (vs.take (ws.length + 1)).map fun v => flN st pre v.sg.first) ?_ ((List.take_prefix _ _).map _)
  rw [h.step hi]
  exact ldStep_no hn
theorem psOf {ns : List ByteArray} (h1 : vs.Pairwise (fun a b => a.sg.first < b.sg.first)) (h2 : ∀ n, (∃ v ∈ vs, v.sg.first = n) ↔ 1 ≤ n ∧ n ≤ 1099511627777 ∧ nam pre n ∈ ns) : PsOf pre ns (vs.map fun v => v.sg.first) :=
  ⟨List.pairwise_map.2 h1, fun n => by rw [← h2 n, List.mem_map]⟩
theorem Lp.done (h : Lp w wr pre st vs ws sl tn) (hi : ¬ ws.length < vs.length) (hp : PsOf pre (st.1.map (·.1)) (vs.map fun v => v.sg.first)) : LodR w pre st (.returned (.tuple #[sl, .bool tn, .int .i64 0])) wr := by
  have hl : ws.length = vs.length := by have := h.1.le; omega
  refine ⟨_, hp, .inl ⟨ws, sl, tn, ?_, rfl, ?_, h.1.sw, h.1.ap, h.2.2⟩⟩
  · have h2 := h.2.1
    rw [hl, List.take_length] at h2
    rw [List.map_map]
    exact h2
  · have h3 := h.1.row
    have e : vs.map ptr = ws.map ptr := by
      refine List.ext_getElem (by simp [hl]) (fun j h4 h5 => ?_)
      simp only [List.getElem_map]
      simp only [List.length_map] at h4 h5
      unfold ptr
      rw [(h.1.same j h5).1]
    rw [hl, ← e]
    exact h3
theorem Lp.bad (h : Lp w wr pre st vs ws sl tn) (hi : ws.length < vs.length) (hp : PsOf pre (st.1.map (·.1)) (vs.map fun v => v.sg.first)) (hn : flw (ws.map Sv.sg) tn vs[ws.length].sg.first = false ∨ filS vs[ws.length].sg.first (fra (flB st pre vs[ws.length].sg.first)) = none) (w2 : World) : LodR w pre st (.returned (.tuple #[.slice none 0 0, .bool false, .int .i64 3])) w2 := by
  refine ⟨_, hp, .inr ⟨?_, rfl⟩⟩
  rw [List.map_map]
  exact h.falls hi hn
end
end Go.Proofs.YteifkkceldlfnaaGreatDoor

/-
  Package model: the first node, flow, way that is wrong.
-/
import Derived.Test.YtlmdoiagjepmbaaGreatDoorM11Rls
import Derived.Laws.AppendOwnNone
namespace Go.Proofs.YtlmdoiagjepmbaaGreatDoor.m11
open Go.Proofs.YtlmdoiagjepmbaaGreatDoor.x10
open Go.RowKit Go.Shelf Go.Sort
open Go.Lib hiding intOf

set_option maxHeartbeats 1000000 in
theorem nodeRules_any {w : World} {nv fv : Value} {P : Pc} (hp : Po w nv fv P) : Calls Tryz.prog 33 #[pV P.id nv fv] w fun e w' => ∃ rb pb eb mb, e = .returned (.slice (some ⟨rb, 0, none⟩) 7 7) ∧ rb < w'.heap.size ∧ (∀ (j : Nat) (h : j < (NR pb eb).length), w'.cell? ⟨rb, j, none⟩ = some (.func (.func (NR pb eb)[j].1) #[] (NR pb eb)[j].2)) ∧ Pb w' pb nv fv P ∧ w'.cell? ⟨eb, 0, none⟩ = some (.map (some mb)) ∧ eb < w'.heap.size ∧ Bn w' mb ∧ mb < w'.heap.size ∧ Below w.heap.size w w' := by
  have hmf : ∀ (fn : Fn) (first cap : Array Value) (w : World), (Instr.makeFunc fn first cap).run Tryz.prog w = .ok (.func fn first cap) w := fun _ _ _ _ => rfl
  have hB1 : Below w.heap.size w (w.alloc (.cells #[.string (S P.id), nv, fv] 25)) := (Below.refl _ w).alloc (Nat.le_refl _) _
  have CB := bounds_any (w.alloc (.cells #[.string (S P.id), nv, fv] 25))
  have HP : Hid (Pb (w.alloc (.cells #[.string (S P.id), nv, fv] 25)) w.heap.size nv fv P ∧ Below w.heap.size w (w.alloc (.cells #[.string (S P.id), nv, fv] 25))) := ⟨Pb.new hp, hB1⟩
  obtain ⟨na, nc, rfl, -⟩ := hp.ns
  obtain ⟨fa, fc, rfl, -⟩ := hp.fs
  unfold pV
  clear hp hB1
  go_enter Tryz.func33, Tryz.ntmps33
  go_wp2_with (go_at_call 58; refine CB.mono ?_; rintro e w1 ⟨mb, rfl, hm, hml, hb1⟩; (have HM : Hid (Bn w1 mb ∧ mb < w1.heap.size ∧ Below (w.alloc (.cells #[.string (S P.id), .slice na P.nodes.length nc, .slice fa P.flows.length fc] 25)).heap.size (w.alloc (.cells #[.string (S P.id), .slice na P.nodes.length nc, .slice fa P.flows.length fc] 25)) w1) := ⟨hm, hml, hb1⟩); clear hm hml hb1 CB)
  go_ret
  have hA : Below w1.heap.size w1 (w1.alloc (.cells #[.map (some mb)] 90)) := (Below.refl _ w1).alloc (Nat.le_refl _) _
  have hz1 : (w1.alloc (.cells #[.map (some mb)] 90)).heap.size = w1.heap.size + 1 := by simp
  refine ⟨w1.heap.size + 1, w.heap.size, w1.heap.size, mb, rfl, by simp, fun j h => ?_, ?_, ?_, by simp; omega, ?_, ?_, ?_⟩
  · have h7 : j < 7 := h
    have hc := World.cell?_alloc_new (w1.alloc (.cells #[.map (some mb)] 90)) #[.func (.func 59) #[] #[], .func (.func 60) #[] #[ptr w.heap.size], .func (.func 62) #[] #[ptr w.heap.size], .func (.func 64) #[] #[ptr w.heap.size], .func (.func 66) #[] #[], .func (.func 67) #[] #[], .func (.func 69) #[] #[ptr w1.heap.size]] 89 j
    rw [hz1] at hc
    refine hc.trans ?_
    match j, h7 with
    | 0, _ => rfl
    | 1, _ => rfl
    | 2, _ => rfl
    | 3, _ => rfl
    | 4, _ => rfl
    | 5, _ => rfl
    | 6, _ => rfl
  · exact ((HP.out.1.up HM.out.2.2).up hA).up ((Below.refl _ _).alloc (Nat.le_refl _) _)
  · exact (((Below.refl _ _).alloc (Nat.le_refl _) _).cell (p := ⟨w1.heap.size, 0, none⟩) (by simp)).trans (World.cell?_alloc_new _ _ _ _)
  · exact (HM.out.1.up hA HM.out.2.1).up ((Below.refl _ _).alloc (Nat.le_refl _) _) (by have := HM.out.2.1; simp; omega)
  · have := HM.out.2.1; simp; omega
  · exact bel_of (bel_of (bel_of HP.out.2 HM.out.2.2 (Nat.le_refl _)) hA (Nat.le_refl _)) ((Below.refl _ _).alloc (Nat.le_refl _) _) (Nat.le_refl _)

set_option maxHeartbeats 1000000 in
theorem flowRules_any {w : World} {nv fv : Value} {P : Pc} (hp : Po w nv fv P) : Calls Tryz.prog 39 #[pV P.id nv fv] w fun e w' => ∃ rb pb, e = .returned (.slice (some ⟨rb, 0, none⟩) 5 5) ∧ rb < w'.heap.size ∧ (∀ (j : Nat) (h : j < (FR pb).length), w'.cell? ⟨rb, j, none⟩ = some (.func (.func (FR pb)[j].1) #[] (FR pb)[j].2)) ∧ Pb w' pb nv fv P ∧ Below w.heap.size w w' := by
  have hmf : ∀ (fn : Fn) (first cap : Array Value) (w : World), (Instr.makeFunc fn first cap).run Tryz.prog w = .ok (.func fn first cap) w := fun _ _ _ _ => rfl
  have hB1 : Below w.heap.size w (w.alloc (.cells #[.string (S P.id), nv, fv] 25)) := (Below.refl _ w).alloc (Nat.le_refl _) _
  have HP : Hid (Pb (w.alloc (.cells #[.string (S P.id), nv, fv] 25)) w.heap.size nv fv P ∧ Below w.heap.size w (w.alloc (.cells #[.string (S P.id), nv, fv] 25))) := ⟨Pb.new hp, hB1⟩
  obtain ⟨na, nc, rfl, -⟩ := hp.ns
  obtain ⟨fa, fc, rfl, -⟩ := hp.fs
  have hz1 : (w.alloc (.cells #[.string (S P.id), .slice na P.nodes.length nc, .slice fa P.flows.length fc] 25)).heap.size = w.heap.size + 1 := by simp
  unfold pV
  clear hp hB1
  go_enter Tryz.func39, Tryz.ntmps39
  go_wp2
  go_ret
  refine ⟨w.heap.size + 1, w.heap.size, rfl, by simp, fun j h => ?_, ?_, ?_⟩
  · have h5 : j < 5 := h
    have hc := World.cell?_alloc_new (w.alloc (.cells #[.string (S P.id), .slice na P.nodes.length nc, .slice fa P.flows.length fc] 25)) #[.func (.func 70) #[] #[ptr w.heap.size], .func (.func 71) #[] #[ptr w.heap.size], .func (.func 72) #[] #[ptr w.heap.size], .func (.func 73) #[] #[ptr w.heap.size], .func (.func 75) #[] #[ptr w.heap.size]] 96 j
    rw [hz1] at hc
    refine hc.trans ?_
    match j, h5 with
    | 0, _ => rfl
    | 1, _ => rfl
    | 2, _ => rfl
    | 3, _ => rfl
    | 4, _ => rfl
  · exact HP.out.1.up ((Below.refl _ _).alloc (Nat.le_refl _) _)
  · exact bel_of HP.out.2 ((Below.refl _ _).alloc (Nat.le_refl _) _) (Nat.le_refl _)

set_option maxHeartbeats 1000000 in
theorem wayRules_any {w : World} {nv fv : Value} {P : Pc} (hp : Po w nv fv P) : Calls Tryz.prog 40 #[pV P.id nv fv] w fun e w' => ∃ rb pb, e = .returned (.slice (some ⟨rb, 0, none⟩) 2 2) ∧ rb < w'.heap.size ∧ (∀ (j : Nat) (h : j < (WR pb).length), w'.cell? ⟨rb, j, none⟩ = some (.func (.func (WR pb)[j].1) #[] (WR pb)[j].2)) ∧ Pb w' pb nv fv P ∧ Below w.heap.size w w' := by
  have hmf : ∀ (fn : Fn) (first cap : Array Value) (w : World), (Instr.makeFunc fn first cap).run Tryz.prog w = .ok (.func fn first cap) w := fun _ _ _ _ => rfl
  have hB1 : Below w.heap.size w (w.alloc (.cells #[.string (S P.id), nv, fv] 25)) := (Below.refl _ w).alloc (Nat.le_refl _) _
  have HP : Hid (Pb (w.alloc (.cells #[.string (S P.id), nv, fv] 25)) w.heap.size nv fv P ∧ Below w.heap.size w (w.alloc (.cells #[.string (S P.id), nv, fv] 25))) := ⟨Pb.new hp, hB1⟩
  obtain ⟨na, nc, rfl, -⟩ := hp.ns
  obtain ⟨fa, fc, rfl, -⟩ := hp.fs
  have hz1 : (w.alloc (.cells #[.string (S P.id), .slice na P.nodes.length nc, .slice fa P.flows.length fc] 25)).heap.size = w.heap.size + 1 := by simp
  unfold pV
  clear hp hB1
  go_enter Tryz.func40, Tryz.ntmps40
  go_wp2
  go_ret
  refine ⟨w.heap.size + 1, w.heap.size, rfl, by simp, fun j h => ?_, ?_, ?_⟩
  · have h2 : j < 2 := h
    have hc := World.cell?_alloc_new (w.alloc (.cells #[.string (S P.id), .slice na P.nodes.length nc, .slice fa P.flows.length fc] 25)) #[.func (.func 78) #[] #[ptr w.heap.size], .func (.func 79) #[] #[ptr w.heap.size]] 89 j
    rw [hz1] at hc
    refine hc.trans ?_
    match j, h2 with
    | 0, _ => rfl
    | 1, _ => rfl
  · exact HP.out.1.up ((Below.refl _ _).alloc (Nat.le_refl _) _)
  · exact bel_of HP.out.2 ((Below.refl _ _).alloc (Nat.le_refl _) _) (Nat.le_refl _)

/-- a place, and whether it was found -/
def fnd (r : Option Nat) : Value := .tuple #[.int .i64 ((r.map fun (i : Nat) => (i : Int)).getD 0), .bool r.isSome]

set_option maxRecDepth 100000 in
set_option maxHeartbeats 1000000 in
theorem wrongNode_any {w : World} {nv fv : Value} {P : Pc} (hp : Po w nv fv P) (hz : Pz P) (hg : Gg w) : Calls Tryz.prog 14 #[pV P.id nv fv] w fun e w' => e = .returned (fnd (fwr (ndQ P) 7 P.nodes.length)) ∧ Below w.heap.size w w' := by
  have hB1 : Below w.heap.size w (w.alloc (.cells #[.string (S P.id), nv, fv] 25)) := (Below.refl _ w).alloc (Nat.le_refl _) _
  have HB : Hid (Below w.heap.size w (w.alloc (.cells #[.string (S P.id), nv, fv] 25))) := hB1
  obtain ⟨b0, b1, b2, blt, -⟩ := Pb.new hp
  have HS : Hid (∀ W, Below (w.alloc (.cells #[.string (S P.id), nv, fv] 25)).heap.size (w.alloc (.cells #[.string (S P.id), nv, fv] 25)) W → W.cell? ⟨w.heap.size, 0, none⟩ = some (.string (S P.id)) ∧ W.cell? ⟨w.heap.size, 1, none⟩ = some nv ∧ W.cell? ⟨w.heap.size, 2, none⟩ = some fv) := fun W hW => ⟨(hW.cell (p := ⟨w.heap.size, 0, none⟩) blt).trans b0, (hW.cell (p := ⟨w.heap.size, 1, none⟩) blt).trans b1, (hW.cell (p := ⟨w.heap.size, 2, none⟩) blt).trans b2⟩
  obtain ⟨O, hO⟩ : ∃ O, fwr (ndQ P) 7 P.nodes.length = O := ⟨_, rfl⟩
  have HBO : Hid (∀ i, O = some i → i < P.nodes.length) := fun i h => by
    rw [← hO] at h
    unfold fwr at h
    exact List.mem_range.1 (List.mem_of_find?_eq_some h)
  have CR : ∀ W, Below (w.alloc (.cells #[.string (S P.id), nv, fv] 25)).heap.size (w.alloc (.cells #[.string (S P.id), nv, fv] 25)) W → Calls Tryz.prog 33 #[.agg #[.string (S P.id), nv, fv]] W fun e w' => ∃ rb, e = .returned (.slice (some ⟨rb, 0, none⟩) 7 7) ∧ Below (w.alloc (.cells #[.string (S P.id), nv, fv] 25)).heap.size (w.alloc (.cells #[.string (S P.id), nv, fv] 25)) w' ∧ Hid (∀ W', Below w'.heap.size w' W' → Calls Tryz.prog 32 #[nv, .slice (some ⟨rb, 0, none⟩) 7 7] W' fun e w'' => e = .returned (fnd O) ∧ Below (w.alloc (.cells #[.string (S P.id), nv, fv] 25)).heap.size (w.alloc (.cells #[.string (S P.id), nv, fv] 25)) w'') := fun W hW => by
    have h0 : Below w.heap.size w W := bel_of hB1 hW (Nat.le_refl _)
    refine (nodeRules_any (hp.up h0)).mono ?_
    rintro e w' ⟨rb, pb, eb, mb, rfl, q1, q2, q3, q4, q5, q6, q7, hX⟩
    have hX0 := bel_of hW hX (Nat.le_refl _)
    refine ⟨rb, rfl, hX0, fun W' hW' => ?_⟩
    replace hX := bel_of h0 hX (Nat.le_refl _)
    have hF' := firstWrongNode (w := W') (NR pb eb) (ndQ P) ((hp.ns.up hX).up hW') hz.nl (by show 7 ≤ 100; omega) (Nat.lt_of_lt_of_le q1 hW'.size) (fun j h => ⟨(hW'.cell (p := ⟨rb, j, none⟩) q1).trans (q2 j h), NR_ent pb eb j h⟩) (fun i hi j hj hq => ((NR_say q3 hz (hg.up hX) q4 q5 q6 q7) i hi j hj hq).up hW')
    have hn : (NR pb eb).length = 7 := rfl
    rw [hn, hO] at hF'
    exact hF'.mono fun e w'' hh => ⟨hh.1, bel_of (bel_of hX0 hW' (Nat.le_refl _)) hh.2 (Nat.le_refl _)⟩
  have hFL : P.nodes.length ≤ 4398046511104 := hz.nl
  rw [hO]
  obtain ⟨na, nc, rfl, -⟩ := hp.ns
  obtain ⟨fa, fc, rfl, -⟩ := hp.fs
  unfold pV
  unfold fnd at CR
  unfold fnd
  clear hp hz hB1 hO hg

  go_enter Tryz.func14, Tryz.ntmps14
  go_wp2
  generalize w.alloc (.cells #[.string (S P.id), .slice na P.nodes.length nc, .slice fa P.flows.length fc] 25) = W1 at *
  go_region_held3 (fun W => W.cell? ⟨w.heap.size, 0, none⟩ = some (.string (S P.id)) ∧ W.cell? ⟨w.heap.size, 1, none⟩ = some (.slice na P.nodes.length nc) ∧ W.cell? ⟨w.heap.size, 2, none⟩ = some (.slice fa P.flows.length fc))
    (first | go_keep | exact HS.out _ (Below.refl _ _) | exact HS.out _ hX | exact HS.out _ hY)
    (first
      | (go_at_call 33; refine (CR _ (by first | exact Below.refl _ _ | exact (Below.refl _ _).drew | exact below_drewN (Below.refl _ _) _)).mono ?_; rintro e u1 ⟨rb, rfl, hX, HF⟩)
      | (go_at_call 32; refine (HF.out _ (by first | exact Below.refl _ _ | exact (Below.refl _ _).drew)).mono ?_; rintro e u2 ⟨rfl, hY⟩; (have B3 : Hid (Below w.heap.size w u2) := bel_of HB.out hY (Nat.le_refl _))))
  all_goals
    go_wp2
    go_ret2
    exact ⟨rfl, B3.out⟩
end Go.Proofs.YtlmdoiagjepmbaaGreatDoor.m11
namespace Go.Proofs.YtlmdoiagjepmbaaGreatDoor.m11
open Go.Proofs.YtlmdoiagjepmbaaGreatDoor.x10
open Go.RowKit Go.Shelf Go.Sort
open Go.Lib hiding intOf

def fndF (r : Option Nat) : Value := .tuple #[.int .i64 (1000 + ((r.map fun (i : Nat) => (i : Int)).getD 0)), .bool r.isSome]

set_option maxRecDepth 100000 in
set_option maxHeartbeats 1000000 in
theorem wrongFlow_any {w : World} {nv fv : Value} {P : Pc} (hp : Po w nv fv P) (hz : Pz P) (hg : Gg w) : Calls Tryz.prog 16 #[pV P.id nv fv] w fun e w' => e = .returned (fndF (fwr (flQ P) 5 P.flows.length)) ∧ Below w.heap.size w w' := by
  have hB1 : Below w.heap.size w (w.alloc (.cells #[.string (S P.id), nv, fv] 25)) := (Below.refl _ w).alloc (Nat.le_refl _) _
  have HB : Hid (Below w.heap.size w (w.alloc (.cells #[.string (S P.id), nv, fv] 25))) := hB1
  obtain ⟨b0, b1, b2, blt, -⟩ := Pb.new hp
  have HS : Hid (∀ W, Below (w.alloc (.cells #[.string (S P.id), nv, fv] 25)).heap.size (w.alloc (.cells #[.string (S P.id), nv, fv] 25)) W → W.cell? ⟨w.heap.size, 0, none⟩ = some (.string (S P.id)) ∧ W.cell? ⟨w.heap.size, 1, none⟩ = some nv ∧ W.cell? ⟨w.heap.size, 2, none⟩ = some fv) := fun W hW => ⟨(hW.cell (p := ⟨w.heap.size, 0, none⟩) blt).trans b0, (hW.cell (p := ⟨w.heap.size, 1, none⟩) blt).trans b1, (hW.cell (p := ⟨w.heap.size, 2, none⟩) blt).trans b2⟩
  obtain ⟨O, hO⟩ : ∃ O, fwr (flQ P) 5 P.flows.length = O := ⟨_, rfl⟩
  have HBO : Hid (∀ i, O = some i → i < P.flows.length) := fun i h => by
    rw [← hO] at h
    unfold fwr at h
    exact List.mem_range.1 (List.mem_of_find?_eq_some h)
  have CR : ∀ W, Below (w.alloc (.cells #[.string (S P.id), nv, fv] 25)).heap.size (w.alloc (.cells #[.string (S P.id), nv, fv] 25)) W → Calls Tryz.prog 39 #[.agg #[.string (S P.id), nv, fv]] W fun e w' => ∃ rb, e = .returned (.slice (some ⟨rb, 0, none⟩) 5 5) ∧ Below (w.alloc (.cells #[.string (S P.id), nv, fv] 25)).heap.size (w.alloc (.cells #[.string (S P.id), nv, fv] 25)) w' ∧ Hid (∀ W', Below w'.heap.size w' W' → Calls Tryz.prog 38 #[fv, .slice (some ⟨rb, 0, none⟩) 5 5] W' fun e w'' => e = .returned (fnd O) ∧ Below (w.alloc (.cells #[.string (S P.id), nv, fv] 25)).heap.size (w.alloc (.cells #[.string (S P.id), nv, fv] 25)) w'') := fun W hW => by
    have h0 : Below w.heap.size w W := bel_of hB1 hW (Nat.le_refl _)
    refine (flowRules_any (hp.up h0)).mono ?_
    rintro e w' ⟨rb, pb, rfl, q1, q2, q3, hX⟩
    have hX0 := bel_of hW hX (Nat.le_refl _)
    refine ⟨rb, rfl, hX0, fun W' hW' => ?_⟩
    replace hX := bel_of h0 hX (Nat.le_refl _)
    have hF' := firstWrongFlow (w := W') (FR pb) (flQ P) ((hp.fs.up hX).up hW') hz.fl (by show 5 ≤ 100; omega) (Nat.lt_of_lt_of_le q1 hW'.size) (fun j h => ⟨(hW'.cell (p := ⟨rb, j, none⟩) q1).trans (q2 j h), FR_ent pb j h⟩) (fun i hi j hj hq => ((FR_say q3 hz (hg.up hX)) i hi j hj hq).up hW')
    have hn : (FR pb).length = 5 := rfl
    rw [hn, hO] at hF'
    exact hF'.mono fun e w'' hh => ⟨hh.1, bel_of (bel_of hX0 hW' (Nat.le_refl _)) hh.2 (Nat.le_refl _)⟩
  have hFL : P.flows.length ≤ 4398046511104 := hz.fl
  rw [hO]
  obtain ⟨na, nc, rfl, -⟩ := hp.ns
  obtain ⟨fa, fc, rfl, -⟩ := hp.fs
  unfold pV
  unfold fnd at CR
  unfold fndF
  clear hp hz hB1 hO hg
  have hwr : IntKind.i64.wrap (1000 + ((O.map fun (i : Nat) => (i : Int)).getD 0)) = 1000 + ((O.map fun (i : Nat) => (i : Int)).getD 0) := by
    rw [IntKind.wrap_i64]
    cases O with
    | none => rfl
    | some i => have := HBO.out i rfl; simp only [Option.map_some, Option.getD_some]; omega
  clear hFL HBO
  generalize ((O.map fun (i : Nat) => (i : Int)).getD 0) = x at *
  go_enter Tryz.func16, Tryz.ntmps16
  go_wp2
  generalize w.alloc (.cells #[.string (S P.id), .slice na P.nodes.length nc, .slice fa P.flows.length fc] 25) = W1 at *
  go_region_held3 (fun W => W.cell? ⟨w.heap.size, 0, none⟩ = some (.string (S P.id)) ∧ W.cell? ⟨w.heap.size, 1, none⟩ = some (.slice na P.nodes.length nc) ∧ W.cell? ⟨w.heap.size, 2, none⟩ = some (.slice fa P.flows.length fc))
    (first | go_keep | exact HS.out _ (Below.refl _ _) | exact HS.out _ hX | exact HS.out _ hY)
    (first
      | (go_at_call 39; refine (CR _ (by first | exact Below.refl _ _ | exact (Below.refl _ _).drew | exact below_drewN (Below.refl _ _) _)).mono ?_; rintro e u1 ⟨rb, rfl, hX, HF⟩)
      | (go_at_call 38; refine (HF.out _ (by first | exact Below.refl _ _ | exact (Below.refl _ _).drew)).mono ?_; rintro e u2 ⟨rfl, hY⟩; (have B3 : Hid (Below w.heap.size w u2) := bel_of HB.out hY (Nat.le_refl _))))
  all_goals
    go_wp2
    go_ret2
    exact ⟨rfl, B3.out⟩

set_option maxRecDepth 100000 in
set_option maxHeartbeats 1000000 in
theorem wrongWay_any {w : World} {nv fv : Value} {P : Pc} (hp : Po w nv fv P) (hz : Pz P) : Calls Tryz.prog 17 #[pV P.id nv fv] w fun e w' => e = .returned (fnd (fwr (wyQ P) 2 P.nodes.length)) ∧ Below w.heap.size w w' := by
  have hB1 : Below w.heap.size w (w.alloc (.cells #[.string (S P.id), nv, fv] 25)) := (Below.refl _ w).alloc (Nat.le_refl _) _
  have HB : Hid (Below w.heap.size w (w.alloc (.cells #[.string (S P.id), nv, fv] 25))) := hB1
  obtain ⟨b0, b1, b2, blt, -⟩ := Pb.new hp
  have HS : Hid (∀ W, Below (w.alloc (.cells #[.string (S P.id), nv, fv] 25)).heap.size (w.alloc (.cells #[.string (S P.id), nv, fv] 25)) W → W.cell? ⟨w.heap.size, 0, none⟩ = some (.string (S P.id)) ∧ W.cell? ⟨w.heap.size, 1, none⟩ = some nv ∧ W.cell? ⟨w.heap.size, 2, none⟩ = some fv) := fun W hW => ⟨(hW.cell (p := ⟨w.heap.size, 0, none⟩) blt).trans b0, (hW.cell (p := ⟨w.heap.size, 1, none⟩) blt).trans b1, (hW.cell (p := ⟨w.heap.size, 2, none⟩) blt).trans b2⟩
  obtain ⟨O, hO⟩ : ∃ O, fwr (wyQ P) 2 P.nodes.length = O := ⟨_, rfl⟩
  have HBO : Hid (∀ i, O = some i → i < P.nodes.length) := fun i h => by
    rw [← hO] at h
    unfold fwr at h
    exact List.mem_range.1 (List.mem_of_find?_eq_some h)
  have CR : ∀ W, Below (w.alloc (.cells #[.string (S P.id), nv, fv] 25)).heap.size (w.alloc (.cells #[.string (S P.id), nv, fv] 25)) W → Calls Tryz.prog 40 #[.agg #[.string (S P.id), nv, fv]] W fun e w' => ∃ rb, e = .returned (.slice (some ⟨rb, 0, none⟩) 2 2) ∧ Below (w.alloc (.cells #[.string (S P.id), nv, fv] 25)).heap.size (w.alloc (.cells #[.string (S P.id), nv, fv] 25)) w' ∧ Hid (∀ W', Below w'.heap.size w' W' → Calls Tryz.prog 32 #[nv, .slice (some ⟨rb, 0, none⟩) 2 2] W' fun e w'' => e = .returned (fnd O) ∧ Below (w.alloc (.cells #[.string (S P.id), nv, fv] 25)).heap.size (w.alloc (.cells #[.string (S P.id), nv, fv] 25)) w'') := fun W hW => by
    have h0 : Below w.heap.size w W := bel_of hB1 hW (Nat.le_refl _)
    refine (wayRules_any (hp.up h0)).mono ?_
    rintro e w' ⟨rb, pb, rfl, q1, q2, q3, hX⟩
    have hX0 := bel_of hW hX (Nat.le_refl _)
    refine ⟨rb, rfl, hX0, fun W' hW' => ?_⟩
    replace hX := bel_of h0 hX (Nat.le_refl _)
    have hF' := firstWrongNode (w := W') (WR pb) (wyQ P) ((hp.ns.up hX).up hW') hz.nl (by show 2 ≤ 100; omega) (Nat.lt_of_lt_of_le q1 hW'.size) (fun j h => ⟨(hW'.cell (p := ⟨rb, j, none⟩) q1).trans (q2 j h), WR_ent pb j h⟩) (fun i hi j hj hq => ((WR_say q3 hz) i hi j hj hq).up hW')
    have hn : (WR pb).length = 2 := rfl
    rw [hn, hO] at hF'
    exact hF'.mono fun e w'' hh => ⟨hh.1, bel_of (bel_of hX0 hW' (Nat.le_refl _)) hh.2 (Nat.le_refl _)⟩
  have hFL : P.nodes.length ≤ 4398046511104 := hz.nl
  rw [hO]
  obtain ⟨na, nc, rfl, -⟩ := hp.ns
  obtain ⟨fa, fc, rfl, -⟩ := hp.fs
  unfold pV
  unfold fnd at CR
  unfold fnd
  clear hp hz hB1 hO 

  go_enter Tryz.func17, Tryz.ntmps17
  go_wp2
  generalize w.alloc (.cells #[.string (S P.id), .slice na P.nodes.length nc, .slice fa P.flows.length fc] 25) = W1 at *
  go_region_held3 (fun W => W.cell? ⟨w.heap.size, 0, none⟩ = some (.string (S P.id)) ∧ W.cell? ⟨w.heap.size, 1, none⟩ = some (.slice na P.nodes.length nc) ∧ W.cell? ⟨w.heap.size, 2, none⟩ = some (.slice fa P.flows.length fc))
    (first | go_keep | exact HS.out _ (Below.refl _ _) | exact HS.out _ hX | exact HS.out _ hY)
    (first
      | (go_at_call 40; refine (CR _ (by first | exact Below.refl _ _ | exact (Below.refl _ _).drew | exact below_drewN (Below.refl _ _) _)).mono ?_; rintro e u1 ⟨rb, rfl, hX, HF⟩)
      | (go_at_call 32; refine (HF.out _ (by first | exact Below.refl _ _ | exact (Below.refl _ _).drew)).mono ?_; rintro e u2 ⟨rfl, hY⟩; (have B3 : Hid (Below w.heap.size w u2) := bel_of HB.out hY (Nat.le_refl _))))
  all_goals
    go_wp2
    go_ret2
    exact ⟨rfl, B3.out⟩

set_option maxRecDepth 100000 in
set_option maxHeartbeats 1000000 in
theorem wrongWhole_any {w : World} {nv fv : Value} {P : Pc} (hp : Po w nv fv P) (hz : Pz P) : Calls Tryz.prog 13 #[pV P.id nv fv] w fun e w' => e = .returned (.tuple #[.int .i64 (-1), .bool (whl P)]) ∧ Below w.heap.size w w' := by
  have HB : Hid (Below w.heap.size w (w.alloc (.cells #[.string (S P.id), nv, fv] 25))) := (Below.refl _ w).alloc (Nat.le_refl _) _
  have CN := fun w => Named_any (S P.id) (by rw [S_size]; have := hz.id; omega) w
  rw [S_data] at CN
  have HR : Hid (whl P = (!(namV P.id) || P.nodes.length == 0 || decide (40 < P.nodes.length) || decide (80 < P.flows.length))) := by show _ = _; rfl
  obtain ⟨na, nc, rfl, -⟩ := hp.ns
  obtain ⟨fa, fc, rfl, -⟩ := hp.fs
  unfold pV
  rw [HR.out]
  clear hp hz HR
  generalize namV P.id = r at *
  generalize P.nodes.length = N at *
  generalize P.flows.length = F at *
  cases r with
  | false =>
    go_enter Tryz.func13, Tryz.ntmps13
    go_wp2
    go_quiet (fail)
    go_wp2_with (go_at_call 31; refine (CN _).mono ?_; rintro e u1 ⟨rfl, hu1⟩; rw [hu1]; clear hu1)
    go_ret2
    exact ⟨by simp, below_drewN HB.out _⟩
  | true =>
    by_cases h0 : N = 0
    · subst h0
      go_enter Tryz.func13, Tryz.ntmps13
      go_wp2
      go_quiet (fail)
      go_wp2_with (go_at_call 31; refine (CN _).mono ?_; rintro e u1 ⟨rfl, hu1⟩; rw [hu1]; clear hu1)
      go_ret2
      exact ⟨by simp, below_drewN HB.out _⟩
    · have h0' : ((N : Int) == 0) = false := by rw [beq_eq_false_iff_ne]; omega
      have h0b : (N == 0) = false := by rw [beq_eq_false_iff_ne]; exact h0
      have h0c : ¬ (N : Int) = 0 := by omega
      rw [h0b]
      clear h0b
      by_cases h1 : 40 < N
      · have h1' : (40 : Int) < (N : Int) := by omega
        rw [decide_eq_true h1]
        clear h0
        go_enter Tryz.func13, Tryz.ntmps13
        go_wp2
        go_quiet (fail)
        go_wp2_with (go_at_call 31; refine (CN _).mono ?_; rintro e u1 ⟨rfl, hu1⟩; rw [hu1]; clear hu1)
        go_ret2
        exact ⟨by simp, below_drewN HB.out _⟩
      · have h1' : ¬ (40 : Int) < (N : Int) := by omega
        rw [decide_eq_false h1]
        clear h0
        by_cases h2 : 80 < F
        · have h2' : (80 : Int) < (F : Int) := by omega
          rw [decide_eq_true h2]
          go_enter Tryz.func13, Tryz.ntmps13
          go_wp2
          go_quiet (fail)
          go_wp2_with (go_at_call 31; refine (CN _).mono ?_; rintro e u1 ⟨rfl, hu1⟩; rw [hu1]; clear hu1)
          go_ret2
          exact ⟨by simp, below_drewN HB.out _⟩
        · have h2' : ¬ (80 : Int) < (F : Int) := by omega
          rw [decide_eq_false h2]
          go_enter Tryz.func13, Tryz.ntmps13
          go_wp2
          go_quiet (fail)
          go_wp2_with (go_at_call 31; refine (CN _).mono ?_; rintro e u1 ⟨rfl, hu1⟩; rw [hu1]; clear hu1)
          go_ret2
          exact ⟨by simp; omega, below_drewN HB.out _⟩
end Go.Proofs.YtlmdoiagjepmbaaGreatDoor.m11

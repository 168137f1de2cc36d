/-
  Package model: Check.
-/
import Derived.Test.YtlmdoiagjepmbaaGreatDoorM11Sco
namespace Go.Proofs.YtlmdoiagjepmbaaGreatDoor.m11
open Go.Proofs.YtlmdoiagjepmbaaGreatDoor.x10
open Go.RowKit Go.Shelf Go.Sort
open Go.Lib hiding intOf

def opI (r : Option Nat) : Int := (r.map fun (i : Nat) => (i : Int)).getD 0
/-- what each look finds -/
def fd (P : Pc) : Nat → Int × Bool
  | 0 => (-1, whl P)
  | 1 => (opI (fwr (ndQ P) 7 P.nodes.length), (fwr (ndQ P) 7 P.nodes.length).isSome)
  | 2 => ((wsc P).getD 0, (wsc P).isSome)
  | 3 => (1000 + opI (fwr (flQ P) 5 P.flows.length), (fwr (flQ P) 5 P.flows.length).isSome)
  | _ => (opI (fwr (wyQ P) 2 P.nodes.length), (fwr (wyQ P) 2 P.nodes.length).isSome)
theorem chk_hit {P : Pc} {j : Nat} (hj : j < 5) (h : (fd P j).2 = true) (h0 : ∀ i, i < j → (fd P i).2 = false) : chk P = (14, (fd P j).1) := by
  unfold chk
  match j, hj with
  | 0, _ => have h : whl P = true := h; rw [if_pos h]; rfl
  | 1, _ =>
    have h1 : whl P = false := h0 0 (by omega)
    have h : (fwr (ndQ P) 7 P.nodes.length).isSome = true := h
    obtain ⟨a, ha⟩ := Option.isSome_iff_exists.1 h
    rw [if_neg (by simp [h1]), ha]
    simp [fd, opI, ha]
  | 2, _ =>
    have h1 : whl P = false := h0 0 (by omega)
    have h2 : (fwr (ndQ P) 7 P.nodes.length).isSome = false := h0 1 (by omega)
    have h : (wsc P).isSome = true := h
    obtain ⟨a, ha⟩ := Option.isSome_iff_exists.1 h
    rw [if_neg (by simp [h1]), Option.isSome_eq_false_iff.1 h2 |> Option.isNone_iff_eq_none.1, ha]
    simp [fd, ha]
  | 3, _ =>
    have h1 : whl P = false := h0 0 (by omega)
    have h2 : (fwr (ndQ P) 7 P.nodes.length).isSome = false := h0 1 (by omega)
    have h3 : (wsc P).isSome = false := h0 2 (by omega)
    have h : (fwr (flQ P) 5 P.flows.length).isSome = true := h
    obtain ⟨a, ha⟩ := Option.isSome_iff_exists.1 h
    rw [if_neg (by simp [h1]), Option.isSome_eq_false_iff.1 h2 |> Option.isNone_iff_eq_none.1, Option.isSome_eq_false_iff.1 h3 |> Option.isNone_iff_eq_none.1, ha]
    simp [fd, opI, ha]
  | 4, _ =>
    have h1 : whl P = false := h0 0 (by omega)
    have h2 : (fwr (ndQ P) 7 P.nodes.length).isSome = false := h0 1 (by omega)
    have h3 : (wsc P).isSome = false := h0 2 (by omega)
    have h4 : (fwr (flQ P) 5 P.flows.length).isSome = false := h0 3 (by omega)
    have h : (fwr (wyQ P) 2 P.nodes.length).isSome = true := h
    obtain ⟨a, ha⟩ := Option.isSome_iff_exists.1 h
    rw [if_neg (by simp [h1]), Option.isSome_eq_false_iff.1 h2 |> Option.isNone_iff_eq_none.1, Option.isSome_eq_false_iff.1 h3 |> Option.isNone_iff_eq_none.1, Option.isSome_eq_false_iff.1 h4 |> Option.isNone_iff_eq_none.1, ha]
    simp [fd, opI, ha]
theorem chk_ok {P : Pc} (h0 : ∀ i, i < 5 → (fd P i).2 = false) : chk P = (0, -1) := by
  unfold chk
  have h1 : whl P = false := h0 0 (by omega)
  have h2 : (fwr (ndQ P) 7 P.nodes.length).isSome = false := h0 1 (by omega)
  have h3 : (wsc P).isSome = false := h0 2 (by omega)
  have h4 : (fwr (flQ P) 5 P.flows.length).isSome = false := h0 3 (by omega)
  have h5 : (fwr (wyQ P) 2 P.nodes.length).isSome = false := h0 4 (by omega)
  rw [if_neg (by simp [h1]), Option.isSome_eq_false_iff.1 h2 |> Option.isNone_iff_eq_none.1, Option.isSome_eq_false_iff.1 h3 |> Option.isNone_iff_eq_none.1, Option.isSome_eq_false_iff.1 h4 |> Option.isNone_iff_eq_none.1, Option.isSome_eq_false_iff.1 h5 |> Option.isNone_iff_eq_none.1]
def LK : List (Nat × Array Value) := [(13, #[]), (14, #[]), (15, #[]), (16, #[]), (17, #[])]
theorem LK_ent : ∀ (j : Nat) (h : j < LK.length), Ent0 LK[j].1 := fun j h => by
  have h5 : j < 5 := h
  match j, h5 with
  | 0, _ => exact enters_of Tryz.func13 (by kernel_rfl) rfl
  | 1, _ => exact enters_of Tryz.func14 (by kernel_rfl) rfl
  | 2, _ => exact enters_of Tryz.func15 (by kernel_rfl) rfl
  | 3, _ => exact enters_of Tryz.func16 (by kernel_rfl) rfl
  | 4, _ => exact enters_of Tryz.func17 (by kernel_rfl) rfl
theorem LK_say {w : World} {nv fv : Value} {P : Pc} (hp : Po w nv fv P) (hz : Pz P) (hg : Gg w) (j : Nat) (h : j < LK.length) : Calls Tryz.prog LK[j].1 (#[.agg #[.string (S P.id), nv, fv]] ++ LK[j].2) w fun e w' => e = .returned (.tuple #[.int .i64 (fd P j).1, .bool (fd P j).2]) ∧ Below w.heap.size w w' := by
  have h5 : j < 5 := h
  match j, h5 with
  | 0, _ => exact wrongWhole_any hp hz
  | 1, _ => exact wrongNode_any hp hz hg
  | 2, _ => exact wrongScope_any hp hz
  | 3, _ => exact wrongFlow_any hp hz hg
  | 4, _ => exact wrongWay_any hp hz

set_option maxRecDepth 100000 in
set_option maxHeartbeats 1000000 in
theorem Check_any {w : World} {nv fv : Value} {P : Pc} (hp : Po w nv fv P) (hz : Pz P) (hg : Gg w) : Calls Tryz.prog 6 #[pV P.id nv fv] w fun e w' => e = .returned (.tuple #[.int .i64 (chk P).1, .int .i64 (chk P).2]) ∧ Below w.heap.size w w' := by
  obtain ⟨W1, hW1⟩ : ∃ W1, w.alloc (.cells #[.string (S P.id), nv, fv] 25) = W1 := ⟨_, rfl⟩
  have hz1 : W1.heap.size = w.heap.size + 1 := by rw [← hW1]; simp
  have hpb : Pb W1 w.heap.size nv fv P := by rw [← hW1]; exact Pb.new hp
  have hB1 : Below w.heap.size w W1 := by rw [← hW1]; exact (Below.refl _ w).alloc (Nat.le_refl _) _
  obtain ⟨W2, hW2⟩ : ∃ W2, W1.alloc (.cells #[.func (.func 13) #[] #[], .func (.func 14) #[] #[], .func (.func 15) #[] #[], .func (.func 16) #[] #[], .func (.func 17) #[] #[]] 43) = W2 := ⟨_, rfl⟩
  have hB2 : Below W1.heap.size W1 W2 := by rw [← hW2]; exact (Below.refl _ W1).alloc (Nat.le_refl _) _
  have hz2 : w.heap.size + 1 < W2.heap.size := by rw [← hW2]; simp; omega
  have HC : Hid (∀ (j : Nat) (h : j < LK.length), W2.cell? ⟨w.heap.size + 1, j, none⟩ = some (.func (.func LK[j].1) #[] LK[j].2)) := fun j h => by
    have hc := World.cell?_alloc_new W1 #[.func (.func 13) #[] #[], .func (.func 14) #[] #[], .func (.func 15) #[] #[], .func (.func 16) #[] #[], .func (.func 17) #[] #[]] 43 j
    rw [hz1, hW2] at hc
    refine hc.trans ?_
    have h5 : j < 5 := h
    match j, h5 with
    | 0, _ => rfl
    | 1, _ => rfl
    | 2, _ => rfl
    | 3, _ => rfl
    | 4, _ => rfl
  have HP : Hid (Pb W2 w.heap.size nv fv P ∧ Below w.heap.size w W2 ∧ Gg W2) := ⟨hpb.up hB2, bel_of hB1 hB2 (Nat.le_refl _), (hg.up hB1).up hB2⟩
  have HS : Hid (∀ W, Below W2.heap.size W2 W → ∀ (j : Nat) (h : j < LK.length), Calls Tryz.prog LK[j].1 (#[.agg #[.string (S P.id), nv, fv]] ++ LK[j].2) W fun e w' => e = .returned (.tuple #[.int .i64 (fd P j).1, .bool (fd P j).2]) ∧ Below W.heap.size W w') := fun W hW j h => LK_say ((HP.out.1.up hW).po) hz (HP.out.2.2.up hW) j h
  have HW : Hid ((w.alloc (.cells #[.string (S P.id), nv, fv] 25)).alloc (.cells #[.func (.func 13) #[] #[], .func (.func 14) #[] #[], .func (.func 15) #[] #[], .func (.func 16) #[] #[], .func (.func 17) #[] #[]] 43) = W2) := by show _ = _; rw [hW1, hW2]
  obtain ⟨na, nc, rfl, -⟩ := hp.ns
  obtain ⟨fa, fc, rfl, -⟩ := hp.fs
  unfold pV
  clear hp hz hg hW1 hz1 hpb hB1 hW2 hB2
  have hlk : LK.length = 5 := rfl
  go_enter Tryz.func6, Tryz.ntmps6
  go_wp2
  rw [HW.out]
  go_loopw [10] (fun v10 wr => ∃ j : Nat, v10 = .int .i64 (j : Int) ∧ j ≤ 5 ∧ Hid (Below W2.heap.size W2 wr ∧ ∀ i, i < j → (fd P i).2 = false)) (fun v10 _ => 5 - (intOf v10).toNat)
  case atStart => exact ⟨0, rfl, Nat.zero_le _, Below.refl _ _, fun i hi => by omega⟩
  case round =>
    obtain ⟨j, rfl, hj, HB⟩ := hrel
    by_cases hjl : j < 5
    · have hjl' : (j : Int) < 5 := by omega
      have hj0 : (0 : Int) ≤ (j : Int) := by omega
      have hjk : j < LK.length := hjl
      have d0 := HC.out j hjk
      rw [← HB.out.1.cell (p := ⟨w.heap.size + 1, j, none⟩) hz2] at d0
      have ek := LK_ent j hjk
      have CG := HS.out wr HB.out.1 j hjk
      obtain ⟨b0, b1, b2, blt, -⟩ := HP.out.1.up HB.out.1
      have HBW : Hid (Below w.heap.size w wr) := bel_of HP.out.2.1 HB.out.1 (Nat.le_refl _)
      generalize LK[j] = r at *
      obtain ⟨kf, caps⟩ := r
      simp only at d0 ek CG
      unfold Ent0 at ek
      cases hx : (fd P j).2 with
      | true =>
        have HE : Hid (chk P = (14, (fd P j).1)) := chk_hit hjl hx HB.out.2
        rw [hx] at CG
        clear hx HB HS HC HP HW
        generalize (fd P j).1 = at' at *
        go_wp2
        refine CG.mono ?_
        rintro e w1 ⟨rfl, hb1⟩
        have B1 : Hid (Below w.heap.size w w1) := bel_of HBW.out hb1 (Nat.le_refl _)
        clear hb1 CG
        go_wp2
        go_ret2
        rw [HE.out]
        exact ⟨rfl, B1.out⟩
      | false =>
        have HN : Hid (∀ i, i < j + 1 → (fd P i).2 = false) := fun i hi => by
          by_cases e : i = j
          · subst e; exact hx
          · exact HB.out.2 i (by omega)
        have HB0 : Hid (Below W2.heap.size W2 wr) := HB.out.1
        rw [hx] at CG
        clear hx HB HS HC HP HW
        generalize (fd P j).1 = at' at *
        go_wp2
        refine CG.mono ?_
        rintro e w1 ⟨rfl, hb1⟩
        have B1 : Hid (Below W2.heap.size W2 w1) := bel_of HB0.out hb1 (Nat.le_refl _)
        clear hb1 CG
        go_wp2
        go_roundw
        case rel => exact ⟨j + 1, by simp, by omega, B1.out, HN.out⟩
        case measure => simp [intOf]; omega
    · have hjl' : ¬ (j : Int) < 5 := by omega
      have HE : Hid (chk P = (0, -1)) := chk_ok fun i hi => HB.out.2 i (by omega)
      have B1 : Hid (Below w.heap.size w wr) := bel_of HP.out.2.1 HB.out.1 (Nat.le_refl _)
      clear HB HS HC HP HW
      go_wp2
      go_ret2
      rw [HE.out]
      exact ⟨rfl, B1.out⟩
end Go.Proofs.YtlmdoiagjepmbaaGreatDoor.m11

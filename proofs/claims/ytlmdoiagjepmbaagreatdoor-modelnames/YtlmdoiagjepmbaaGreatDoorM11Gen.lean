/-
  slices.Index, Contains, IndexFunc, ContainsFunc and package model's places, for whatever function they are handed.
-/
import Derived.Test.YtlmdoiagjepmbaaGreatDoorM11Mem
import Derived.Deep.RegionHeld3
namespace Go.Proofs.YtlmdoiagjepmbaaGreatDoor.m11
open Go.Proofs.YtlmdoiagjepmbaaGreatDoor.x10
open Go.RowKit Go.Shelf Go.Sort
open Go.Lib hiding intOf

/-- a function that is entered like any other -/
def Ent0 (gf : Nat) : Prop := ∀ args w, (callFunc gf args).run Tryz.prog w = .ok (.enter gf args) w
/-- what the function in kf with caps says of a thing, from world w on -/
def Say (w : World) (kf : Nat) (caps : Array Value) (args : Array Value) (b : Bool) : Prop := ∀ W, Below w.heap.size w W → Calls Tryz.prog kf (args ++ caps) W fun e W' => e = .returned (.bool b) ∧ Below W.heap.size W W'
theorem Say.up {w w' : World} {kf : Nat} {caps args : Array Value} {b : Bool} (h : Say w kf caps args b) (hb : Below w.heap.size w w') : Say w' kf caps args b := fun W hW => h W (hb.trans (hW.mono hb.size))
theorem findIdx_next {α : Type} {q : α → Bool} {l : List α} {j : Nat} (hj : j < l.length) (h : ∀ (i : Nat) (hi : i < j), q (l[i]'(by omega)) = false) (hq : q l[j] = true) : l.findIdx? q = some j := by
  rw [List.findIdx?_eq_some_iff_getElem]
  exact ⟨hj, hq, fun i hi => by rw [h i hi]; simp⟩
theorem findIdx_none {α : Type} {q : α → Bool} {l : List α} (h : ∀ (i : Nat) (hi : i < l.length), q l[i] = false) : l.findIdx? q = none := by
  rw [List.findIdx?_eq_none_iff]
  intro x hx
  obtain ⟨i, hi, rfl⟩ := List.getElem_of_mem hx
  exact h i hi
/-- the place of the first that is so, as a number -/
def fix {α : Type} (q : α → Bool) (l : List α) : Int := match l.findIdx? q with
  | some i => (i : Int)
  | none => -1
theorem fix_nonneg {α : Type} (q : α → Bool) (l : List α) : decide (0 ≤ fix q l) = l.any q := by
  unfold fix
  cases h : l.findIdx? q with
  | none =>
    rw [List.findIdx?_eq_none_iff] at h
    have : l.any q = false := by rw [List.any_eq_false]; exact fun x hx => by simp [h x hx]
    rw [this]; rfl
  | some i =>
    rw [List.findIdx?_eq_some_iff_getElem] at h
    have : l.any q = true := by rw [List.any_eq_true]; exact ⟨_, List.getElem_mem h.1, h.2.1⟩
    rw [this]; simp

set_option maxHeartbeats 1000000 in
set_option maxRecDepth 100000 in
theorem index_any {w : World} {v : Value} {l : List Int} (x : Int) (hv : Is w v l) (hn : l.length ≤ 4611686018427387904) :
    Calls Tryz.prog 84 #[v, .int .i64 x] w fun e w' => e = .returned (.int .i64 (fix (fun y => x == y) l)) ∧ w' = w := by
  obtain ⟨a, cap, rfl, hc⟩ := hv
  have HC : Hid (l = [] ∨ ∃ b off, a = some ⟨b, off, none⟩ ∧ b < w.heap.size ∧ ∀ (j : Nat) (h : j < l.length), w.cell? ⟨b, off + j, none⟩ = some (.int .i64 l[j])) := hc
  clear hc
  go_enter Tryz.func84, Tryz.ntmps84
  go_wp2
  go_loopw [8] (fun v8 wr => ∃ j : Nat, v8 = .int .i64 (j : Int) ∧ j ≤ l.length ∧ wr = w ∧ Hid (∀ (i : Nat) (hi : i < j) (hl : i < l.length), (x == l[i]) = false)) (fun v8 _ => l.length - (intOf v8).toNat)
  case atStart => exact ⟨0, rfl, Nat.zero_le _, rfl, fun i hi => by omega⟩
  case round =>
    obtain ⟨j, rfl, hj, rfl, HP⟩ := hrel
    by_cases hjl : j < l.length
    · have hjl' : (j : Int) < (l.length : Int) := by omega
      have hj0 : (0 : Int) ≤ (j : Int) := by omega
      rcases HC.out with h | ⟨b, off, rfl, hlt, hc⟩
      · rw [h] at hjl; cases hjl
      have m0 := hc j hjl
      by_cases hx : x = l[j]
      · have HE : Hid (fix (fun y => x == y) l = (j : Int)) := by
          show _ = _
          unfold fix
          rw [findIdx_next hjl (fun i hi => HP.out i hi (by omega)) (by simpa using hx)]
        rw [← hx] at m0
        clear hc HC HP hx
        go_wp2
        go_ret
        rw [HE.out]
        exact ⟨rfl, rfl⟩
      · have HP' : Hid (∀ (i : Nat) (hi : i < j + 1) (hl : i < l.length), (x == l[i]) = false) := fun i hi hl => by
          by_cases e : i = j
          · subst e; simpa using hx
          · exact HP.out i (by omega) hl
        have hx' : (x == l[j]) = false := by simpa using hx
        clear hc HP hx
        generalize l[j] = y at *
        go_wp2
        go_roundw
        case rel => exact ⟨j + 1, by simp, by omega, by trivial, HP'.out⟩
        case measure => simp [intOf]; omega
    · have hjl' : ¬ (j : Int) < (l.length : Int) := by omega
      have HE : Hid (fix (fun y => x == y) l = -1) := by
        show _ = _
        unfold fix
        rw [findIdx_none (fun i hi => HP.out i (by omega) hi)]
      clear HC HP
      go_wp2
      go_ret
      rw [HE.out]
      exact ⟨rfl, rfl⟩
theorem any_contains (l : List Int) (x : Int) : (l.any fun y => x == y) = l.contains x := by
  induction l with
  | nil => rfl
  | cons a t ih => rw [List.any_cons, ih, List.contains_cons]

set_option maxHeartbeats 400000 in
theorem contains_any {w : World} {v : Value} {l : List Int} (x : Int) (hv : Is w v l) (hn : l.length ≤ 4611686018427387904) :
    Calls Tryz.prog 44 #[v, .int .i64 x] w fun e w' => e = .returned (.bool (l.contains x)) ∧ w' = w := by
  have CI := index_any x hv hn
  have HD : Hid (decide (0 ≤ fix (fun y => x == y) l) = l.contains x) := by show _ = _; rw [fix_nonneg]; exact any_contains l x
  obtain ⟨a, cap, rfl, -⟩ := hv
  generalize fix (fun y => x == y) l = r at *
  go_enter Tryz.func44, Tryz.ntmps44
  go_wp2_with (go_at_call 84; refine CI.mono ?_; rintro e w1 ⟨rfl, hw1⟩; rw [hw1]; clear hw1 CI w1)
  go_ret
  rw [← HD.out]
  exact ⟨rfl, rfl⟩

set_option maxHeartbeats 1000000 in
set_option maxRecDepth 100000 in
theorem indexFuncNode {w : World} {v : Value} {l : List Nd} {kf : Nat} {caps : Array Value} (q : Nd → Bool) (hv : Ns w v l) (hn : l.length ≤ 4611686018427387904) (ek : Ent0 kf) (hq : ∀ x ∈ l, Say w kf caps #[nA x] (q x)) :
    Calls Tryz.prog 112 #[v, .func (.func kf) #[] caps] w fun e w' => e = .returned (.int .i64 (fix q l)) ∧ Below w.heap.size w w' := by
  have HV : Hid (Ns w v l) := hv
  have HQ : Hid (∀ x ∈ l, Say w kf caps #[nA x] (q x)) := hq
  obtain ⟨a, cap, rfl, -⟩ := hv
  unfold Ent0 at ek
  clear hq
  go_enter Tryz.func112, Tryz.ntmps112
  go_wp2
  go_loopw [8] (fun v8 wr => ∃ j : Nat, v8 = .int .i64 (j : Int) ∧ j ≤ l.length ∧ Hid (Below w.heap.size w wr ∧ ∀ (i : Nat) (hi : i < j) (hl : i < l.length), q l[i] = false)) (fun v8 _ => l.length - (intOf v8).toNat)
  case atStart => exact ⟨0, rfl, Nat.zero_le _, Below.refl _ _, fun i hi => by omega⟩
  case round =>
    obtain ⟨j, rfl, hj, HB⟩ := hrel
    by_cases hjl : j < l.length
    · have hjl' : (j : Int) < (l.length : Int) := by omega
      have hj0 : (0 : Int) ≤ (j : Int) := by omega
      obtain ⟨b', off, cap', hsl, -, hbl, hcell⟩ := HV.out.at hjl
      cases hsl
      have CG := HQ.out l[j] (List.getElem_mem hjl) wr HB.out.1
      have HC : Hid _ := hcell wr HB.out.1 j hjl
      obtain ⟨m0, m1, m2, m3, m4, m5, m6⟩ := HC.out
      clear HC hcell
      by_cases hx : q l[j] = true
      · have HE : Hid (fix q l = (j : Int)) := by
          show _ = _
          unfold fix
          rw [findIdx_next hjl (fun i hi => HB.out.2 i hi (by omega)) hx]
        rw [hx] at CG
        unfold nA at CG
        clear hx HQ HV
        generalize l[j] = x at *
        obtain ⟨x0, x1, x2, x3, x4, x5, x6⟩ := x
        simp only at m0 m1 m2 m3 m4 m5 m6 CG
        go_wp2
        refine CG.mono ?_
        rintro e w1 ⟨rfl, b1⟩
        have B1 : Hid (Below w.heap.size w w1) := bel_of HB.out.1 b1 (Nat.le_refl _)
        clear b1 CG HB
        go_wp2
        go_ret
        rw [HE.out]
        exact ⟨rfl, B1.out⟩
      · have hx' : q l[j] = false := by simpa using hx
        have HP' : Hid (∀ (i : Nat) (hi : i < j + 1) (hl : i < l.length), q l[i] = false) := fun i hi hl => by
          by_cases e : i = j
          · subst e; exact hx'
          · exact HB.out.2 i (by omega) hl
        rw [hx'] at CG
        unfold nA at CG
        clear hx hx' HQ HV
        generalize l[j] = x at m0 CG m0 m1 m2 m3 m4 m5 m6
        obtain ⟨x0, x1, x2, x3, x4, x5, x6⟩ := x
        simp only at m0 m1 m2 m3 m4 m5 m6 CG
        go_wp2
        refine CG.mono ?_
        rintro e w1 ⟨rfl, b1⟩
        have B1 : Hid (Below w.heap.size w w1) := bel_of HB.out.1 b1 (Nat.le_refl _)
        clear b1 CG HB
        go_wp2
        go_roundw
        case rel => exact ⟨j + 1, by simp, by omega, B1.out, HP'.out⟩
        case measure => simp [intOf]; omega
    · have hjl' : ¬ (j : Int) < (l.length : Int) := by omega
      have HE : Hid (fix q l = -1) := by
        show _ = _
        unfold fix
        rw [findIdx_none (fun i hi => HB.out.2 i (by omega) hi)]
      have B1 : Hid (Below w.heap.size w wr) := HB.out.1
      clear HQ HV HB
      go_wp2
      go_ret
      rw [HE.out]
      exact ⟨rfl, B1.out⟩

set_option maxHeartbeats 400000 in
theorem containsFuncNode {w : World} {v : Value} {l : List Nd} {kf : Nat} {caps : Array Value} (q : Nd → Bool) (hv : Ns w v l) (hn : l.length ≤ 4611686018427387904) (ek : Ent0 kf) (hq : ∀ x ∈ l, Say w kf caps #[nA x] (q x)) :
    Calls Tryz.prog 99 #[v, .func (.func kf) #[] caps] w fun e w' => e = .returned (.bool (l.any q)) ∧ Below w.heap.size w w' := by
  have CI := indexFuncNode q hv hn ek hq
  have HD : Hid (decide (0 ≤ fix q l) = l.any q) := fix_nonneg q l
  obtain ⟨a, cap, rfl, -⟩ := hv
  generalize fix q l = r at *
  clear hq ek
  go_enter Tryz.func99, Tryz.ntmps99
  go_wp2_with (go_at_call 112; refine CI.mono ?_; rintro e w1 ⟨rfl, hb1⟩; (have B1 : Hid (Below w.heap.size w w1) := hb1); clear hb1 CI)
  go_ret
  rw [← HD.out]
  exact ⟨rfl, B1.out⟩

set_option maxHeartbeats 1000000 in
set_option maxRecDepth 100000 in
theorem indexFuncFlow {w : World} {v : Value} {l : List Fl} {kf : Nat} {caps : Array Value} (q : Fl → Bool) (hv : Fs w v l) (hn : l.length ≤ 4611686018427387904) (ek : Ent0 kf) (hq : ∀ x ∈ l, Say w kf caps #[fA x] (q x)) :
    Calls Tryz.prog 102 #[v, .func (.func kf) #[] caps] w fun e w' => e = .returned (.int .i64 (fix q l)) ∧ Below w.heap.size w w' := by
  have HV : Hid (Fs w v l) := hv
  have HQ : Hid (∀ x ∈ l, Say w kf caps #[fA x] (q x)) := hq
  obtain ⟨a, cap, rfl, -⟩ := hv
  unfold Ent0 at ek
  clear hq
  go_enter Tryz.func102, Tryz.ntmps102
  go_wp2
  go_loopw [8] (fun v8 wr => ∃ j : Nat, v8 = .int .i64 (j : Int) ∧ j ≤ l.length ∧ Hid (Below w.heap.size w wr ∧ ∀ (i : Nat) (hi : i < j) (hl : i < l.length), q l[i] = false)) (fun v8 _ => l.length - (intOf v8).toNat)
  case atStart => exact ⟨0, rfl, Nat.zero_le _, Below.refl _ _, fun i hi => by omega⟩
  case round =>
    obtain ⟨j, rfl, hj, HB⟩ := hrel
    by_cases hjl : j < l.length
    · have hjl' : (j : Int) < (l.length : Int) := by omega
      have hj0 : (0 : Int) ≤ (j : Int) := by omega
      obtain ⟨b', off, cap', hsl, -, hbl, hcell⟩ := HV.out.at hjl
      cases hsl
      have CG := HQ.out l[j] (List.getElem_mem hjl) wr HB.out.1
      have HC : Hid _ := hcell wr HB.out.1 j hjl
      obtain ⟨m0, m1, m2⟩ := HC.out
      clear HC hcell
      by_cases hx : q l[j] = true
      · have HE : Hid (fix q l = (j : Int)) := by
          show _ = _
          unfold fix
          rw [findIdx_next hjl (fun i hi => HB.out.2 i hi (by omega)) hx]
        rw [hx] at CG
        unfold fA at CG
        clear hx HQ HV
        generalize l[j] = x at *
        obtain ⟨x0, x1, x2⟩ := x
        simp only at m0 m1 m2 CG
        go_wp2
        refine CG.mono ?_
        rintro e w1 ⟨rfl, b1⟩
        have B1 : Hid (Below w.heap.size w w1) := bel_of HB.out.1 b1 (Nat.le_refl _)
        clear b1 CG HB
        go_wp2
        go_ret
        rw [HE.out]
        exact ⟨rfl, B1.out⟩
      · have hx' : q l[j] = false := by simpa using hx
        have HP' : Hid (∀ (i : Nat) (hi : i < j + 1) (hl : i < l.length), q l[i] = false) := fun i hi hl => by
          by_cases e : i = j
          · subst e; exact hx'
          · exact HB.out.2 i (by omega) hl
        rw [hx'] at CG
        unfold fA at CG
        clear hx hx' HQ HV
        generalize l[j] = x at m0 CG m0 m1 m2
        obtain ⟨x0, x1, x2⟩ := x
        simp only at m0 m1 m2 CG
        go_wp2
        refine CG.mono ?_
        rintro e w1 ⟨rfl, b1⟩
        have B1 : Hid (Below w.heap.size w w1) := bel_of HB.out.1 b1 (Nat.le_refl _)
        clear b1 CG HB
        go_wp2
        go_roundw
        case rel => exact ⟨j + 1, by simp, by omega, B1.out, HP'.out⟩
        case measure => simp [intOf]; omega
    · have hjl' : ¬ (j : Int) < (l.length : Int) := by omega
      have HE : Hid (fix q l = -1) := by
        show _ = _
        unfold fix
        rw [findIdx_none (fun i hi => HB.out.2 i (by omega) hi)]
      have B1 : Hid (Below w.heap.size w wr) := HB.out.1
      clear HQ HV HB
      go_wp2
      go_ret
      rw [HE.out]
      exact ⟨rfl, B1.out⟩

set_option maxHeartbeats 400000 in
theorem containsFuncFlow {w : World} {v : Value} {l : List Fl} {kf : Nat} {caps : Array Value} (q : Fl → Bool) (hv : Fs w v l) (hn : l.length ≤ 4611686018427387904) (ek : Ent0 kf) (hq : ∀ x ∈ l, Say w kf caps #[fA x] (q x)) :
    Calls Tryz.prog 76 #[v, .func (.func kf) #[] caps] w fun e w' => e = .returned (.bool (l.any q)) ∧ Below w.heap.size w w' := by
  have CI := indexFuncFlow q hv hn ek hq
  have HD : Hid (decide (0 ≤ fix q l) = l.any q) := fix_nonneg q l
  obtain ⟨a, cap, rfl, -⟩ := hv
  generalize fix q l = r at *
  clear hq ek
  go_enter Tryz.func76, Tryz.ntmps76
  go_wp2_with (go_at_call 102; refine CI.mono ?_; rintro e w1 ⟨rfl, hb1⟩; (have B1 : Hid (Below w.heap.size w w1) := hb1); clear hb1 CI)
  go_ret
  rw [← HD.out]
  exact ⟨rfl, B1.out⟩
end Go.Proofs.YtlmdoiagjepmbaaGreatDoor.m11

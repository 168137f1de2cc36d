/-
  slices.IndexFunc of every type of element, and package fold's first, for whatever function they are handed.
-/
import Derived.Test.YthmfcloecmnfnaaGreatF13Ky
namespace Go.Proofs.YthmfcloecmnfnaaGreat.f13
open Go.RowKit Go.Shelf Go.Sort
open Go.Lib hiding intOf

set_option maxHeartbeats 1000000 in
set_option maxRecDepth 100000 in
theorem indexDe_any {X : Nat → Prop} {w : World} {v : Value} {l : List De} {kf : Nat} {caps : Array Value} (q : De → Bool) (hv : Rr 2 De.c w v l) (hn : l.length ≤ 4611686018427387904) (ek : Ent0 kf) (hq : ∀ x ∈ l, Say X w kf caps #[.agg (De.c x).toArray] (q x)) :
    Calls Tryz.prog 134 #[v, .func (.func kf) #[] caps] w fun e w' => e = .returned (.int .i64 (fix q l)) ∧ Below w.heap.size w w' := by
  have HV : Hid (Rr 2 De.c w v l) := hv
  have HQ : Hid (∀ x ∈ l, Say X w kf caps #[.agg (De.c x).toArray] (q x)) := hq
  obtain ⟨a, cap, rfl, -⟩ := hv
  unfold Ent0 at ek
  clear hq
  go_enter Tryz.func134, Tryz.ntmps134
  go_wp2
  go_loopw [8] (fun v8 wr => ∃ j : Nat, v8 = .int .i64 (j : Int) ∧ j ≤ l.length ∧ Hid (Below w.heap.size w wr ∧ ∀ (i : Nat) (hi : i < j) (hl : i < l.length), q l[i] = false)) (fun v8 _ => l.length - (intOf v8).toNat)
  case atStart => exact ⟨0, rfl, Nat.zero_le _, Below.refl _ _, fun i hi => by omega⟩
  case round =>
    obtain ⟨j, rfl, hj, HB⟩ := hrel
    by_cases hjl : j < l.length
    · have hjl' : (j : Int) < (l.length : Int) := by omega
      have hj0 : (0 : Int) ≤ (j : Int) := by omega
      obtain ⟨b', off, cap', hsl, -, hbl, hcell⟩ := HV.out.at hjl
      cases hsl
      have CG := HQ.out l[j] (List.getElem_mem hjl) wr (Ch.of_below HB.out.1)
      have m0 := hcell wr HB.out.1 j hjl 0 _ rfl
      have m1 := hcell wr HB.out.1 j hjl 1 _ rfl
      simp only [Nat.add_zero] at m0
      clear hcell
      by_cases hx : q l[j] = true
      · have HE : Hid (fix q l = (j : Int)) := by
          show _ = _
          unfold fix
          rw [findIdx_next hjl (fun i hi => HB.out.2 i hi (by omega)) hx]
        rw [hx] at CG
        clear hx HQ HV
        generalize l[j] = x at *
        obtain ⟨x0, x1⟩ := x
        simp only [De.c] at m0 m1 CG
        go_wp2
        refine CG.mono ?_
        rintro e w1 ⟨rfl, b1⟩
        have B1 : Hid (Below w.heap.size w w1) := bel_of HB.out.1 b1 (Nat.le_refl _)
        clear b1 CG HB
        go_wp2
        go_ret
        rw [HE.out]
        exact ⟨rfl, B1.out⟩
      · have hx' : q l[j] = false := by simpa using hx
        have HP' : Hid (∀ (i : Nat) (hi : i < j + 1) (hl : i < l.length), q l[i] = false) := fun i hi hl => by
          by_cases e : i = j
          · subst e; exact hx'
          · exact HB.out.2 i (by omega) hl
        rw [hx'] at CG
        clear hx hx' HQ HV
        generalize l[j] = x at CG m0 m1
        obtain ⟨x0, x1⟩ := x
        simp only [De.c] at m0 m1 CG
        go_wp2
        refine CG.mono ?_
        rintro e w1 ⟨rfl, b1⟩
        have B1 : Hid (Below w.heap.size w w1) := bel_of HB.out.1 b1 (Nat.le_refl _)
        clear b1 CG HB
        go_wp2
        go_roundw
        case rel => exact ⟨j + 1, by simp, by omega, B1.out, HP'.out⟩
        case measure => simp [intOf]; omega
    · have hjl' : ¬ (j : Int) < (l.length : Int) := by omega
      have HE : Hid (fix q l = -1) := by
        show _ = _
        unfold fix
        rw [findIdx_none (fun i hi => HB.out.2 i (by omega) hi)]
      have B1 : Hid (Below w.heap.size w wr) := HB.out.1
      clear HQ HV HB
      go_wp2
      go_ret
      rw [HE.out]
      exact ⟨rfl, B1.out⟩

set_option maxHeartbeats 1000000 in
set_option maxRecDepth 100000 in
theorem indexIn_any {X : Nat → Prop} {w : World} {v : Value} {l : List In} {kf : Nat} {caps : Array Value} (q : In → Bool) (hv : Rr 3 In.c w v l) (hn : l.length ≤ 4611686018427387904) (ek : Ent0 kf) (hq : ∀ x ∈ l, Say X w kf caps #[.agg (In.c x).toArray] (q x)) :
    Calls Tryz.prog 139 #[v, .func (.func kf) #[] caps] w fun e w' => e = .returned (.int .i64 (fix q l)) ∧ Below w.heap.size w w' := by
  have HV : Hid (Rr 3 In.c w v l) := hv
  have HQ : Hid (∀ x ∈ l, Say X w kf caps #[.agg (In.c x).toArray] (q x)) := hq
  obtain ⟨a, cap, rfl, -⟩ := hv
  unfold Ent0 at ek
  clear hq
  go_enter Tryz.func139, Tryz.ntmps139
  go_wp2
  go_loopw [8] (fun v8 wr => ∃ j : Nat, v8 = .int .i64 (j : Int) ∧ j ≤ l.length ∧ Hid (Below w.heap.size w wr ∧ ∀ (i : Nat) (hi : i < j) (hl : i < l.length), q l[i] = false)) (fun v8 _ => l.length - (intOf v8).toNat)
  case atStart => exact ⟨0, rfl, Nat.zero_le _, Below.refl _ _, fun i hi => by omega⟩
  case round =>
    obtain ⟨j, rfl, hj, HB⟩ := hrel
    by_cases hjl : j < l.length
    · have hjl' : (j : Int) < (l.length : Int) := by omega
      have hj0 : (0 : Int) ≤ (j : Int) := by omega
      obtain ⟨b', off, cap', hsl, -, hbl, hcell⟩ := HV.out.at hjl
      cases hsl
      have CG := HQ.out l[j] (List.getElem_mem hjl) wr (Ch.of_below HB.out.1)
      have m0 := hcell wr HB.out.1 j hjl 0 _ rfl
      have m1 := hcell wr HB.out.1 j hjl 1 _ rfl
      have m2 := hcell wr HB.out.1 j hjl 2 _ rfl
      simp only [Nat.add_zero] at m0
      clear hcell
      by_cases hx : q l[j] = true
      · have HE : Hid (fix q l = (j : Int)) := by
          show _ = _
          unfold fix
          rw [findIdx_next hjl (fun i hi => HB.out.2 i hi (by omega)) hx]
        rw [hx] at CG
        clear hx HQ HV
        generalize l[j] = x at *
        obtain ⟨x0, x1, x2, _⟩ := x
        simp only [In.c] at m0 m1 m2 CG
        go_wp2
        refine CG.mono ?_
        rintro e w1 ⟨rfl, b1⟩
        have B1 : Hid (Below w.heap.size w w1) := bel_of HB.out.1 b1 (Nat.le_refl _)
        clear b1 CG HB
        go_wp2
        go_ret
        rw [HE.out]
        exact ⟨rfl, B1.out⟩
      · have hx' : q l[j] = false := by simpa using hx
        have HP' : Hid (∀ (i : Nat) (hi : i < j + 1) (hl : i < l.length), q l[i] = false) := fun i hi hl => by
          by_cases e : i = j
          · subst e; exact hx'
          · exact HB.out.2 i (by omega) hl
        rw [hx'] at CG
        clear hx hx' HQ HV
        generalize l[j] = x at CG m0 m1 m2
        obtain ⟨x0, x1, x2, _⟩ := x
        simp only [In.c] at m0 m1 m2 CG
        go_wp2
        refine CG.mono ?_
        rintro e w1 ⟨rfl, b1⟩
        have B1 : Hid (Below w.heap.size w w1) := bel_of HB.out.1 b1 (Nat.le_refl _)
        clear b1 CG HB
        go_wp2
        go_roundw
        case rel => exact ⟨j + 1, by simp, by omega, B1.out, HP'.out⟩
        case measure => simp [intOf]; omega
    · have hjl' : ¬ (j : Int) < (l.length : Int) := by omega
      have HE : Hid (fix q l = -1) := by
        show _ = _
        unfold fix
        rw [findIdx_none (fun i hi => HB.out.2 i (by omega) hi)]
      have B1 : Hid (Below w.heap.size w wr) := HB.out.1
      clear HQ HV HB
      go_wp2
      go_ret
      rw [HE.out]
      exact ⟨rfl, B1.out⟩

set_option maxHeartbeats 1000000 in
set_option maxRecDepth 100000 in
theorem indexTk_any {X : Nat → Prop} {w : World} {v : Value} {l : List Tk} {kf : Nat} {caps : Array Value} (q : Tk → Bool) (hv : Rr 6 Tk.c w v l) (hn : l.length ≤ 4611686018427387904) (ek : Ent0 kf) (hq : ∀ x ∈ l, Say X w kf caps #[.agg (Tk.c x).toArray] (q x)) :
    Calls Tryz.prog 143 #[v, .func (.func kf) #[] caps] w fun e w' => e = .returned (.int .i64 (fix q l)) ∧ Below w.heap.size w w' := by
  have HV : Hid (Rr 6 Tk.c w v l) := hv
  have HQ : Hid (∀ x ∈ l, Say X w kf caps #[.agg (Tk.c x).toArray] (q x)) := hq
  obtain ⟨a, cap, rfl, -⟩ := hv
  unfold Ent0 at ek
  clear hq
  go_enter Tryz.func143, Tryz.ntmps143
  go_wp2
  go_loopw [8] (fun v8 wr => ∃ j : Nat, v8 = .int .i64 (j : Int) ∧ j ≤ l.length ∧ Hid (Below w.heap.size w wr ∧ ∀ (i : Nat) (hi : i < j) (hl : i < l.length), q l[i] = false)) (fun v8 _ => l.length - (intOf v8).toNat)
  case atStart => exact ⟨0, rfl, Nat.zero_le _, Below.refl _ _, fun i hi => by omega⟩
  case round =>
    obtain ⟨j, rfl, hj, HB⟩ := hrel
    by_cases hjl : j < l.length
    · have hjl' : (j : Int) < (l.length : Int) := by omega
      have hj0 : (0 : Int) ≤ (j : Int) := by omega
      obtain ⟨b', off, cap', hsl, -, hbl, hcell⟩ := HV.out.at hjl
      cases hsl
      have CG := HQ.out l[j] (List.getElem_mem hjl) wr (Ch.of_below HB.out.1)
      have m0 := hcell wr HB.out.1 j hjl 0 _ rfl
      have m1 := hcell wr HB.out.1 j hjl 1 _ rfl
      have m2 := hcell wr HB.out.1 j hjl 2 _ rfl
      have m3 := hcell wr HB.out.1 j hjl 3 _ rfl
      have m4 := hcell wr HB.out.1 j hjl 4 _ rfl
      have m5 := hcell wr HB.out.1 j hjl 5 _ rfl
      simp only [Nat.add_zero] at m0
      clear hcell
      by_cases hx : q l[j] = true
      · have HE : Hid (fix q l = (j : Int)) := by
          show _ = _
          unfold fix
          rw [findIdx_next hjl (fun i hi => HB.out.2 i hi (by omega)) hx]
        rw [hx] at CG
        clear hx HQ HV
        generalize l[j] = x at *
        obtain ⟨x0, x1, x2, x3, x4, x5⟩ := x
        simp only [Tk.c] at m0 m1 m2 m3 m4 m5 CG
        go_wp2
        refine CG.mono ?_
        rintro e w1 ⟨rfl, b1⟩
        have B1 : Hid (Below w.heap.size w w1) := bel_of HB.out.1 b1 (Nat.le_refl _)
        clear b1 CG HB
        go_wp2
        go_ret
        rw [HE.out]
        exact ⟨rfl, B1.out⟩
      · have hx' : q l[j] = false := by simpa using hx
        have HP' : Hid (∀ (i : Nat) (hi : i < j + 1) (hl : i < l.length), q l[i] = false) := fun i hi hl => by
          by_cases e : i = j
          · subst e; exact hx'
          · exact HB.out.2 i (by omega) hl
        rw [hx'] at CG
        clear hx hx' HQ HV
        generalize l[j] = x at CG m0 m1 m2 m3 m4 m5
        obtain ⟨x0, x1, x2, x3, x4, x5⟩ := x
        simp only [Tk.c] at m0 m1 m2 m3 m4 m5 CG
        go_wp2
        refine CG.mono ?_
        rintro e w1 ⟨rfl, b1⟩
        have B1 : Hid (Below w.heap.size w w1) := bel_of HB.out.1 b1 (Nat.le_refl _)
        clear b1 CG HB
        go_wp2
        go_roundw
        case rel => exact ⟨j + 1, by simp, by omega, B1.out, HP'.out⟩
        case measure => simp [intOf]; omega
    · have hjl' : ¬ (j : Int) < (l.length : Int) := by omega
      have HE : Hid (fix q l = -1) := by
        show _ = _
        unfold fix
        rw [findIdx_none (fun i hi => HB.out.2 i (by omega) hi)]
      have B1 : Hid (Below w.heap.size w wr) := HB.out.1
      clear HQ HV HB
      go_wp2
      go_ret
      rw [HE.out]
      exact ⟨rfl, B1.out⟩

set_option maxHeartbeats 1000000 in
set_option maxRecDepth 100000 in
theorem indexJb_any {X : Nat → Prop} {w : World} {v : Value} {l : List Jb} {kf : Nat} {caps : Array Value} (q : Jb → Bool) (hv : Rr 6 Jb.c w v l) (hn : l.length ≤ 4611686018427387904) (ek : Ent0 kf) (hq : ∀ x ∈ l, Say X w kf caps #[.agg (Jb.c x).toArray] (q x)) :
    Calls Tryz.prog 79 #[v, .func (.func kf) #[] caps] w fun e w' => e = .returned (.int .i64 (fix q l)) ∧ Below w.heap.size w w' := by
  have HV : Hid (Rr 6 Jb.c w v l) := hv
  have HQ : Hid (∀ x ∈ l, Say X w kf caps #[.agg (Jb.c x).toArray] (q x)) := hq
  obtain ⟨a, cap, rfl, -⟩ := hv
  unfold Ent0 at ek
  clear hq
  go_enter Tryz.func79, Tryz.ntmps79
  go_wp2
  go_loopw [8] (fun v8 wr => ∃ j : Nat, v8 = .int .i64 (j : Int) ∧ j ≤ l.length ∧ Hid (Below w.heap.size w wr ∧ ∀ (i : Nat) (hi : i < j) (hl : i < l.length), q l[i] = false)) (fun v8 _ => l.length - (intOf v8).toNat)
  case atStart => exact ⟨0, rfl, Nat.zero_le _, Below.refl _ _, fun i hi => by omega⟩
  case round =>
    obtain ⟨j, rfl, hj, HB⟩ := hrel
    by_cases hjl : j < l.length
    · have hjl' : (j : Int) < (l.length : Int) := by omega
      have hj0 : (0 : Int) ≤ (j : Int) := by omega
      obtain ⟨b', off, cap', hsl, -, hbl, hcell⟩ := HV.out.at hjl
      cases hsl
      have CG := HQ.out l[j] (List.getElem_mem hjl) wr (Ch.of_below HB.out.1)
      have m0 := hcell wr HB.out.1 j hjl 0 _ rfl
      have m1 := hcell wr HB.out.1 j hjl 1 _ rfl
      have m2 := hcell wr HB.out.1 j hjl 2 _ rfl
      have m3 := hcell wr HB.out.1 j hjl 3 _ rfl
      have m4 := hcell wr HB.out.1 j hjl 4 _ rfl
      have m5 := hcell wr HB.out.1 j hjl 5 _ rfl
      simp only [Nat.add_zero] at m0
      clear hcell
      by_cases hx : q l[j] = true
      · have HE : Hid (fix q l = (j : Int)) := by
          show _ = _
          unfold fix
          rw [findIdx_next hjl (fun i hi => HB.out.2 i hi (by omega)) hx]
        rw [hx] at CG
        clear hx HQ HV
        generalize l[j] = x at *
        obtain ⟨x0, x1, x2, x3, x4, x5⟩ := x
        simp only [Jb.c] at m0 m1 m2 m3 m4 m5 CG
        go_wp2
        refine CG.mono ?_
        rintro e w1 ⟨rfl, b1⟩
        have B1 : Hid (Below w.heap.size w w1) := bel_of HB.out.1 b1 (Nat.le_refl _)
        clear b1 CG HB
        go_wp2
        go_ret
        rw [HE.out]
        exact ⟨rfl, B1.out⟩
      · have hx' : q l[j] = false := by simpa using hx
        have HP' : Hid (∀ (i : Nat) (hi : i < j + 1) (hl : i < l.length), q l[i] = false) := fun i hi hl => by
          by_cases e : i = j
          · subst e; exact hx'
          · exact HB.out.2 i (by omega) hl
        rw [hx'] at CG
        clear hx hx' HQ HV
        generalize l[j] = x at CG m0 m1 m2 m3 m4 m5
        obtain ⟨x0, x1, x2, x3, x4, x5⟩ := x
        simp only [Jb.c] at m0 m1 m2 m3 m4 m5 CG
        go_wp2
        refine CG.mono ?_
        rintro e w1 ⟨rfl, b1⟩
        have B1 : Hid (Below w.heap.size w w1) := bel_of HB.out.1 b1 (Nat.le_refl _)
        clear b1 CG HB
        go_wp2
        go_roundw
        case rel => exact ⟨j + 1, by simp, by omega, B1.out, HP'.out⟩
        case measure => simp [intOf]; omega
    · have hjl' : ¬ (j : Int) < (l.length : Int) := by omega
      have HE : Hid (fix q l = -1) := by
        show _ = _
        unfold fix
        rw [findIdx_none (fun i hi => HB.out.2 i (by omega) hi)]
      have B1 : Hid (Below w.heap.size w wr) := HB.out.1
      clear HQ HV HB
      go_wp2
      go_ret
      rw [HE.out]
      exact ⟨rfl, B1.out⟩

set_option maxHeartbeats 1000000 in
set_option maxRecDepth 100000 in
theorem indexTm_any {X : Nat → Prop} {w : World} {v : Value} {l : List Tm} {kf : Nat} {caps : Array Value} (q : Tm → Bool) (hv : Rr 3 Tm.c w v l) (hn : l.length ≤ 4611686018427387904) (ek : Ent0 kf) (hq : ∀ x ∈ l, Say X w kf caps #[.agg (Tm.c x).toArray] (q x)) :
    Calls Tryz.prog 157 #[v, .func (.func kf) #[] caps] w fun e w' => e = .returned (.int .i64 (fix q l)) ∧ Below w.heap.size w w' := by
  have HV : Hid (Rr 3 Tm.c w v l) := hv
  have HQ : Hid (∀ x ∈ l, Say X w kf caps #[.agg (Tm.c x).toArray] (q x)) := hq
  obtain ⟨a, cap, rfl, -⟩ := hv
  unfold Ent0 at ek
  clear hq
  go_enter Tryz.func157, Tryz.ntmps157
  go_wp2
  go_loopw [8] (fun v8 wr => ∃ j : Nat, v8 = .int .i64 (j : Int) ∧ j ≤ l.length ∧ Hid (Below w.heap.size w wr ∧ ∀ (i : Nat) (hi : i < j) (hl : i < l.length), q l[i] = false)) (fun v8 _ => l.length - (intOf v8).toNat)
  case atStart => exact ⟨0, rfl, Nat.zero_le _, Below.refl _ _, fun i hi => by omega⟩
  case round =>
    obtain ⟨j, rfl, hj, HB⟩ := hrel
    by_cases hjl : j < l.length
    · have hjl' : (j : Int) < (l.length : Int) := by omega
      have hj0 : (0 : Int) ≤ (j : Int) := by omega
      obtain ⟨b', off, cap', hsl, -, hbl, hcell⟩ := HV.out.at hjl
      cases hsl
      have CG := HQ.out l[j] (List.getElem_mem hjl) wr (Ch.of_below HB.out.1)
      have m0 := hcell wr HB.out.1 j hjl 0 _ rfl
      have m1 := hcell wr HB.out.1 j hjl 1 _ rfl
      have m2 := hcell wr HB.out.1 j hjl 2 _ rfl
      simp only [Nat.add_zero] at m0
      clear hcell
      by_cases hx : q l[j] = true
      · have HE : Hid (fix q l = (j : Int)) := by
          show _ = _
          unfold fix
          rw [findIdx_next hjl (fun i hi => HB.out.2 i hi (by omega)) hx]
        rw [hx] at CG
        clear hx HQ HV
        generalize l[j] = x at *
        obtain ⟨x0, x1, x2⟩ := x
        simp only [Tm.c] at m0 m1 m2 CG
        go_wp2
        refine CG.mono ?_
        rintro e w1 ⟨rfl, b1⟩
        have B1 : Hid (Below w.heap.size w w1) := bel_of HB.out.1 b1 (Nat.le_refl _)
        clear b1 CG HB
        go_wp2
        go_ret
        rw [HE.out]
        exact ⟨rfl, B1.out⟩
      · have hx' : q l[j] = false := by simpa using hx
        have HP' : Hid (∀ (i : Nat) (hi : i < j + 1) (hl : i < l.length), q l[i] = false) := fun i hi hl => by
          by_cases e : i = j
          · subst e; exact hx'
          · exact HB.out.2 i (by omega) hl
        rw [hx'] at CG
        clear hx hx' HQ HV
        generalize l[j] = x at CG m0 m1 m2
        obtain ⟨x0, x1, x2⟩ := x
        simp only [Tm.c] at m0 m1 m2 CG
        go_wp2
        refine CG.mono ?_
        rintro e w1 ⟨rfl, b1⟩
        have B1 : Hid (Below w.heap.size w w1) := bel_of HB.out.1 b1 (Nat.le_refl _)
        clear b1 CG HB
        go_wp2
        go_roundw
        case rel => exact ⟨j + 1, by simp, by omega, B1.out, HP'.out⟩
        case measure => simp [intOf]; omega
    · have hjl' : ¬ (j : Int) < (l.length : Int) := by omega
      have HE : Hid (fix q l = -1) := by
        show _ = _
        unfold fix
        rw [findIdx_none (fun i hi => HB.out.2 i (by omega) hi)]
      have B1 : Hid (Below w.heap.size w wr) := HB.out.1
      clear HQ HV HB
      go_wp2
      go_ret
      rw [HE.out]
      exact ⟨rfl, B1.out⟩

set_option maxHeartbeats 1000000 in
set_option maxRecDepth 100000 in
theorem indexSb_any {X : Nat → Prop} {w : World} {v : Value} {l : List Sb} {kf : Nat} {caps : Array Value} (q : Sb → Bool) (hv : Rr 6 Sb.c w v l) (hn : l.length ≤ 4611686018427387904) (ek : Ent0 kf) (hq : ∀ x ∈ l, Say X w kf caps #[.agg (Sb.c x).toArray] (q x)) :
    Calls Tryz.prog 164 #[v, .func (.func kf) #[] caps] w fun e w' => e = .returned (.int .i64 (fix q l)) ∧ Below w.heap.size w w' := by
  have HV : Hid (Rr 6 Sb.c w v l) := hv
  have HQ : Hid (∀ x ∈ l, Say X w kf caps #[.agg (Sb.c x).toArray] (q x)) := hq
  obtain ⟨a, cap, rfl, -⟩ := hv
  unfold Ent0 at ek
  clear hq
  go_enter Tryz.func164, Tryz.ntmps164
  go_wp2
  go_loopw [8] (fun v8 wr => ∃ j : Nat, v8 = .int .i64 (j : Int) ∧ j ≤ l.length ∧ Hid (Below w.heap.size w wr ∧ ∀ (i : Nat) (hi : i < j) (hl : i < l.length), q l[i] = false)) (fun v8 _ => l.length - (intOf v8).toNat)
  case atStart => exact ⟨0, rfl, Nat.zero_le _, Below.refl _ _, fun i hi => by omega⟩
  case round =>
    obtain ⟨j, rfl, hj, HB⟩ := hrel
    by_cases hjl : j < l.length
    · have hjl' : (j : Int) < (l.length : Int) := by omega
      have hj0 : (0 : Int) ≤ (j : Int) := by omega
      obtain ⟨b', off, cap', hsl, -, hbl, hcell⟩ := HV.out.at hjl
      cases hsl
      have CG := HQ.out l[j] (List.getElem_mem hjl) wr (Ch.of_below HB.out.1)
      have m0 := hcell wr HB.out.1 j hjl 0 _ rfl
      have m1 := hcell wr HB.out.1 j hjl 1 _ rfl
      have m2 := hcell wr HB.out.1 j hjl 2 _ rfl
      have m3 := hcell wr HB.out.1 j hjl 3 _ rfl
      have m4 := hcell wr HB.out.1 j hjl 4 _ rfl
      have m5 := hcell wr HB.out.1 j hjl 5 _ rfl
      simp only [Nat.add_zero] at m0
      clear hcell
      by_cases hx : q l[j] = true
      · have HE : Hid (fix q l = (j : Int)) := by
          show _ = _
          unfold fix
          rw [findIdx_next hjl (fun i hi => HB.out.2 i hi (by omega)) hx]
        rw [hx] at CG
        clear hx HQ HV
        generalize l[j] = x at *
        obtain ⟨x0, x1, x2, x3, x4, x5⟩ := x
        simp only [Sb.c] at m0 m1 m2 m3 m4 m5 CG
        go_wp2
        refine CG.mono ?_
        rintro e w1 ⟨rfl, b1⟩
        have B1 : Hid (Below w.heap.size w w1) := bel_of HB.out.1 b1 (Nat.le_refl _)
        clear b1 CG HB
        go_wp2
        go_ret
        rw [HE.out]
        exact ⟨rfl, B1.out⟩
      · have hx' : q l[j] = false := by simpa using hx
        have HP' : Hid (∀ (i : Nat) (hi : i < j + 1) (hl : i < l.length), q l[i] = false) := fun i hi hl => by
          by_cases e : i = j
          · subst e; exact hx'
          · exact HB.out.2 i (by omega) hl
        rw [hx'] at CG
        clear hx hx' HQ HV
        generalize l[j] = x at CG m0 m1 m2 m3 m4 m5
        obtain ⟨x0, x1, x2, x3, x4, x5⟩ := x
        simp only [Sb.c] at m0 m1 m2 m3 m4 m5 CG
        go_wp2
        refine CG.mono ?_
        rintro e w1 ⟨rfl, b1⟩
        have B1 : Hid (Below w.heap.size w w1) := bel_of HB.out.1 b1 (Nat.le_refl _)
        clear b1 CG HB
        go_wp2
        go_roundw
        case rel => exact ⟨j + 1, by simp, by omega, B1.out, HP'.out⟩
        case measure => simp [intOf]; omega
    · have hjl' : ¬ (j : Int) < (l.length : Int) := by omega
      have HE : Hid (fix q l = -1) := by
        show _ = _
        unfold fix
        rw [findIdx_none (fun i hi => HB.out.2 i (by omega) hi)]
      have B1 : Hid (Below w.heap.size w wr) := HB.out.1
      clear HQ HV HB
      go_wp2
      go_ret
      rw [HE.out]
      exact ⟨rfl, B1.out⟩

set_option maxHeartbeats 1000000 in
set_option maxRecDepth 100000 in
theorem indexKp_any {X : Nat → Prop} {w : World} {v : Value} {l : List Kp} {kf : Nat} {caps : Array Value} (q : Kp → Bool) (hv : Rr 3 Kp.c w v l) (hn : l.length ≤ 4611686018427387904) (ek : Ent0 kf) (hq : ∀ x ∈ l, Say X w kf caps #[.agg (Kp.c x).toArray] (q x)) :
    Calls Tryz.prog 169 #[v, .func (.func kf) #[] caps] w fun e w' => e = .returned (.int .i64 (fix q l)) ∧ Below w.heap.size w w' := by
  have HV : Hid (Rr 3 Kp.c w v l) := hv
  have HQ : Hid (∀ x ∈ l, Say X w kf caps #[.agg (Kp.c x).toArray] (q x)) := hq
  obtain ⟨a, cap, rfl, -⟩ := hv
  unfold Ent0 at ek
  clear hq
  go_enter Tryz.func169, Tryz.ntmps169
  go_wp2
  go_loopw [8] (fun v8 wr => ∃ j : Nat, v8 = .int .i64 (j : Int) ∧ j ≤ l.length ∧ Hid (Below w.heap.size w wr ∧ ∀ (i : Nat) (hi : i < j) (hl : i < l.length), q l[i] = false)) (fun v8 _ => l.length - (intOf v8).toNat)
  case atStart => exact ⟨0, rfl, Nat.zero_le _, Below.refl _ _, fun i hi => by omega⟩
  case round =>
    obtain ⟨j, rfl, hj, HB⟩ := hrel
    by_cases hjl : j < l.length
    · have hjl' : (j : Int) < (l.length : Int) := by omega
      have hj0 : (0 : Int) ≤ (j : Int) := by omega
      obtain ⟨b', off, cap', hsl, -, hbl, hcell⟩ := HV.out.at hjl
      cases hsl
      have CG := HQ.out l[j] (List.getElem_mem hjl) wr (Ch.of_below HB.out.1)
      have m0 := hcell wr HB.out.1 j hjl 0 _ rfl
      have m1 := hcell wr HB.out.1 j hjl 1 _ rfl
      have m2 := hcell wr HB.out.1 j hjl 2 _ rfl
      simp only [Nat.add_zero] at m0
      clear hcell
      by_cases hx : q l[j] = true
      · have HE : Hid (fix q l = (j : Int)) := by
          show _ = _
          unfold fix
          rw [findIdx_next hjl (fun i hi => HB.out.2 i hi (by omega)) hx]
        rw [hx] at CG
        clear hx HQ HV
        generalize l[j] = x at *
        obtain ⟨x0, x1, x2⟩ := x
        simp only [Kp.c] at m0 m1 m2 CG
        go_wp2
        refine CG.mono ?_
        rintro e w1 ⟨rfl, b1⟩
        have B1 : Hid (Below w.heap.size w w1) := bel_of HB.out.1 b1 (Nat.le_refl _)
        clear b1 CG HB
        go_wp2
        go_ret
        rw [HE.out]
        exact ⟨rfl, B1.out⟩
      · have hx' : q l[j] = false := by simpa using hx
        have HP' : Hid (∀ (i : Nat) (hi : i < j + 1) (hl : i < l.length), q l[i] = false) := fun i hi hl => by
          by_cases e : i = j
          · subst e; exact hx'
          · exact HB.out.2 i (by omega) hl
        rw [hx'] at CG
        clear hx hx' HQ HV
        generalize l[j] = x at CG m0 m1 m2
        obtain ⟨x0, x1, x2⟩ := x
        simp only [Kp.c] at m0 m1 m2 CG
        go_wp2
        refine CG.mono ?_
        rintro e w1 ⟨rfl, b1⟩
        have B1 : Hid (Below w.heap.size w w1) := bel_of HB.out.1 b1 (Nat.le_refl _)
        clear b1 CG HB
        go_wp2
        go_roundw
        case rel => exact ⟨j + 1, by simp, by omega, B1.out, HP'.out⟩
        case measure => simp [intOf]; omega
    · have hjl' : ¬ (j : Int) < (l.length : Int) := by omega
      have HE : Hid (fix q l = -1) := by
        show _ = _
        unfold fix
        rw [findIdx_none (fun i hi => HB.out.2 i (by omega) hi)]
      have B1 : Hid (Below w.heap.size w wr) := HB.out.1
      clear HQ HV HB
      go_wp2
      go_ret
      rw [HE.out]
      exact ⟨rfl, B1.out⟩

set_option maxHeartbeats 1000000 in
set_option maxRecDepth 100000 in
theorem indexLs_any {X : Nat → Prop} {w : World} {v : Value} {l : List Ls} {kf : Nat} {caps : Array Value} (q : Ls → Bool) (hv : Rr 7 Ls.c w v l) (hn : l.length ≤ 4611686018427387904) (ek : Ent0 kf) (hq : ∀ x ∈ l, Say X w kf caps #[.agg (Ls.c x).toArray] (q x)) :
    Calls Tryz.prog 173 #[v, .func (.func kf) #[] caps] w fun e w' => e = .returned (.int .i64 (fix q l)) ∧ Below w.heap.size w w' := by
  have HV : Hid (Rr 7 Ls.c w v l) := hv
  have HQ : Hid (∀ x ∈ l, Say X w kf caps #[.agg (Ls.c x).toArray] (q x)) := hq
  obtain ⟨a, cap, rfl, -⟩ := hv
  unfold Ent0 at ek
  clear hq
  go_enter Tryz.func173, Tryz.ntmps173
  go_wp2
  go_loopw [8] (fun v8 wr => ∃ j : Nat, v8 = .int .i64 (j : Int) ∧ j ≤ l.length ∧ Hid (Below w.heap.size w wr ∧ ∀ (i : Nat) (hi : i < j) (hl : i < l.length), q l[i] = false)) (fun v8 _ => l.length - (intOf v8).toNat)
  case atStart => exact ⟨0, rfl, Nat.zero_le _, Below.refl _ _, fun i hi => by omega⟩
  case round =>
    obtain ⟨j, rfl, hj, HB⟩ := hrel
    by_cases hjl : j < l.length
    · have hjl' : (j : Int) < (l.length : Int) := by omega
      have hj0 : (0 : Int) ≤ (j : Int) := by omega
      obtain ⟨b', off, cap', hsl, -, hbl, hcell⟩ := HV.out.at hjl
      cases hsl
      have CG := HQ.out l[j] (List.getElem_mem hjl) wr (Ch.of_below HB.out.1)
      have m0 := hcell wr HB.out.1 j hjl 0 _ rfl
      have m1 := hcell wr HB.out.1 j hjl 1 _ rfl
      have m2 := hcell wr HB.out.1 j hjl 2 _ rfl
      have m3 := hcell wr HB.out.1 j hjl 3 _ rfl
      have m4 := hcell wr HB.out.1 j hjl 4 _ rfl
      have m5 := hcell wr HB.out.1 j hjl 5 _ rfl
      have m6 := hcell wr HB.out.1 j hjl 6 _ rfl
      simp only [Nat.add_zero] at m0
      clear hcell
      by_cases hx : q l[j] = true
      · have HE : Hid (fix q l = (j : Int)) := by
          show _ = _
          unfold fix
          rw [findIdx_next hjl (fun i hi => HB.out.2 i hi (by omega)) hx]
        rw [hx] at CG
        clear hx HQ HV
        generalize l[j] = x at *
        obtain ⟨x0, x1, x2, x3, x4, x5, x6, _⟩ := x
        simp only [Ls.c] at m0 m1 m2 m3 m4 m5 m6 CG
        go_wp2
        refine CG.mono ?_
        rintro e w1 ⟨rfl, b1⟩
        have B1 : Hid (Below w.heap.size w w1) := bel_of HB.out.1 b1 (Nat.le_refl _)
        clear b1 CG HB
        go_wp2
        go_ret
        rw [HE.out]
        exact ⟨rfl, B1.out⟩
      · have hx' : q l[j] = false := by simpa using hx
        have HP' : Hid (∀ (i : Nat) (hi : i < j + 1) (hl : i < l.length), q l[i] = false) := fun i hi hl => by
          by_cases e : i = j
          · subst e; exact hx'
          · exact HB.out.2 i (by omega) hl
        rw [hx'] at CG
        clear hx hx' HQ HV
        generalize l[j] = x at CG m0 m1 m2 m3 m4 m5 m6
        obtain ⟨x0, x1, x2, x3, x4, x5, x6, _⟩ := x
        simp only [Ls.c] at m0 m1 m2 m3 m4 m5 m6 CG
        go_wp2
        refine CG.mono ?_
        rintro e w1 ⟨rfl, b1⟩
        have B1 : Hid (Below w.heap.size w w1) := bel_of HB.out.1 b1 (Nat.le_refl _)
        clear b1 CG HB
        go_wp2
        go_roundw
        case rel => exact ⟨j + 1, by simp, by omega, B1.out, HP'.out⟩
        case measure => simp [intOf]; omega
    · have hjl' : ¬ (j : Int) < (l.length : Int) := by omega
      have HE : Hid (fix q l = -1) := by
        show _ = _
        unfold fix
        rw [findIdx_none (fun i hi => HB.out.2 i (by omega) hi)]
      have B1 : Hid (Below w.heap.size w wr) := HB.out.1
      clear HQ HV HB
      go_wp2
      go_ret
      rw [HE.out]
      exact ⟨rfl, B1.out⟩

set_option maxHeartbeats 1000000 in
set_option maxRecDepth 100000 in
theorem indexMs_any {X : Nat → Prop} {w : World} {v : Value} {l : List Ms} {kf : Nat} {caps : Array Value} (q : Ms → Bool) (hv : Rr 7 Ms.c w v l) (hn : l.length ≤ 4611686018427387904) (ek : Ent0 kf) (hq : ∀ x ∈ l, Say X w kf caps #[.agg (Ms.c x).toArray] (q x)) :
    Calls Tryz.prog 176 #[v, .func (.func kf) #[] caps] w fun e w' => e = .returned (.int .i64 (fix q l)) ∧ Below w.heap.size w w' := by
  have HV : Hid (Rr 7 Ms.c w v l) := hv
  have HQ : Hid (∀ x ∈ l, Say X w kf caps #[.agg (Ms.c x).toArray] (q x)) := hq
  obtain ⟨a, cap, rfl, -⟩ := hv
  unfold Ent0 at ek
  clear hq
  go_enter Tryz.func176, Tryz.ntmps176
  go_wp2
  go_loopw [8] (fun v8 wr => ∃ j : Nat, v8 = .int .i64 (j : Int) ∧ j ≤ l.length ∧ Hid (Below w.heap.size w wr ∧ ∀ (i : Nat) (hi : i < j) (hl : i < l.length), q l[i] = false)) (fun v8 _ => l.length - (intOf v8).toNat)
  case atStart => exact ⟨0, rfl, Nat.zero_le _, Below.refl _ _, fun i hi => by omega⟩
  case round =>
    obtain ⟨j, rfl, hj, HB⟩ := hrel
    by_cases hjl : j < l.length
    · have hjl' : (j : Int) < (l.length : Int) := by omega
      have hj0 : (0 : Int) ≤ (j : Int) := by omega
      obtain ⟨b', off, cap', hsl, -, hbl, hcell⟩ := HV.out.at hjl
      cases hsl
      have CG := HQ.out l[j] (List.getElem_mem hjl) wr (Ch.of_below HB.out.1)
      have m0 := hcell wr HB.out.1 j hjl 0 _ rfl
      have m1 := hcell wr HB.out.1 j hjl 1 _ rfl
      have m2 := hcell wr HB.out.1 j hjl 2 _ rfl
      have m3 := hcell wr HB.out.1 j hjl 3 _ rfl
      have m4 := hcell wr HB.out.1 j hjl 4 _ rfl
      have m5 := hcell wr HB.out.1 j hjl 5 _ rfl
      have m6 := hcell wr HB.out.1 j hjl 6 _ rfl
      simp only [Nat.add_zero] at m0
      clear hcell
      by_cases hx : q l[j] = true
      · have HE : Hid (fix q l = (j : Int)) := by
          show _ = _
          unfold fix
          rw [findIdx_next hjl (fun i hi => HB.out.2 i hi (by omega)) hx]
        rw [hx] at CG
        clear hx HQ HV
        generalize l[j] = x at *
        obtain ⟨x0, x1, x2, x3, x4, x5, x6, _, _⟩ := x
        simp only [Ms.c] at m0 m1 m2 m3 m4 m5 m6 CG
        go_wp2
        refine CG.mono ?_
        rintro e w1 ⟨rfl, b1⟩
        have B1 : Hid (Below w.heap.size w w1) := bel_of HB.out.1 b1 (Nat.le_refl _)
        clear b1 CG HB
        go_wp2
        go_ret
        rw [HE.out]
        exact ⟨rfl, B1.out⟩
      · have hx' : q l[j] = false := by simpa using hx
        have HP' : Hid (∀ (i : Nat) (hi : i < j + 1) (hl : i < l.length), q l[i] = false) := fun i hi hl => by
          by_cases e : i = j
          · subst e; exact hx'
          · exact HB.out.2 i (by omega) hl
        rw [hx'] at CG
        clear hx hx' HQ HV
        generalize l[j] = x at CG m0 m1 m2 m3 m4 m5 m6
        obtain ⟨x0, x1, x2, x3, x4, x5, x6, _, _⟩ := x
        simp only [Ms.c] at m0 m1 m2 m3 m4 m5 m6 CG
        go_wp2
        refine CG.mono ?_
        rintro e w1 ⟨rfl, b1⟩
        have B1 : Hid (Below w.heap.size w w1) := bel_of HB.out.1 b1 (Nat.le_refl _)
        clear b1 CG HB
        go_wp2
        go_roundw
        case rel => exact ⟨j + 1, by simp, by omega, B1.out, HP'.out⟩
        case measure => simp [intOf]; omega
    · have hjl' : ¬ (j : Int) < (l.length : Int) := by omega
      have HE : Hid (fix q l = -1) := by
        show _ = _
        unfold fix
        rw [findIdx_none (fun i hi => HB.out.2 i (by omega) hi)]
      have B1 : Hid (Below w.heap.size w wr) := HB.out.1
      clear HQ HV HB
      go_wp2
      go_ret
      rw [HE.out]
      exact ⟨rfl, B1.out⟩
end Go.Proofs.YthmfcloecmnfnaaGreat.f13

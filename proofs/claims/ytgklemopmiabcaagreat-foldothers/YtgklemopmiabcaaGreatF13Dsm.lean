/-
  The document's Same of states that are the same.
-/
import Derived.Test.YtgklemopmiabcaaGreatF13Dse
namespace Go.Proofs.YtgklemopmiabcaaGreat.f13
open Go.RowKit Go.Shelf Go.Sort
open Go.Lib hiding intOf

set_option maxHeartbeats 32000000 in
set_option maxRecDepth 100000 in
theorem dSame_core {w : World} (pos done made : Nat) (paDe qaDe : Option Addr) (pcDe qcDe nDe : Nat) (paIn qaIn : Option Addr) (pcIn qcIn nIn : Nat) (paTk qaTk : Option Addr) (pcTk qcTk nTk : Nat) (paJb qaJb : Option Addr) (pcJb qcJb nJb : Nat) (paTm qaTm : Option Addr) (pcTm qcTm nTm : Nat) (paSb qaSb : Option Addr) (pcSb qcSb nSb : Nat) (paKp qaKp : Option Addr) (pcKp qcKp nKp : Nat) (paLs qaLs : Option Addr) (pcLs qcLs nLs : Nat) (paMs qaMs : Option Addr) (pcMs qcMs nMs : Nat) (zDe : nDe ≤ 4611686018427387904) (EDe : Hid (EwDe w paDe qaDe nDe)) (zIn : nIn ≤ 4611686018427387904) (EIn : Hid (EwIn w paIn qaIn nIn)) (zTk : nTk ≤ 4611686018427387904) (ETk : Hid (EwTk w paTk qaTk nTk)) (zJb : nJb ≤ 4611686018427387904) (EJb : Hid (EwJb w paJb qaJb nJb)) (zTm : nTm ≤ 4611686018427387904) (ETm : Hid (EwTm w paTm qaTm nTm)) (zSb : nSb ≤ 4611686018427387904) (ESb : Hid (EwSb w paSb qaSb nSb)) (zKp : nKp ≤ 4611686018427387904) (EKp : Hid (EwKp w paKp qaKp nKp)) (zLs : nLs ≤ 4611686018427387904) (ELs : Hid (EwLs w paLs qaLs nLs)) (zMs : nMs ≤ 4611686018427387904) (EMs : Hid (EwMs w paMs qaMs nMs)) :
    Calls Tryz.prog 13 #[.agg #[.int .u64 (pos : Int), .int .u64 (done : Int), .int .u64 (made : Int), .slice paDe nDe pcDe, .slice paIn nIn pcIn, .slice paTk nTk pcTk, .slice paJb nJb pcJb, .slice paTm nTm pcTm, .slice paSb nSb pcSb, .slice paKp nKp pcKp, .slice paLs nLs pcLs, .slice paMs nMs pcMs], .agg #[.int .u64 (pos : Int), .int .u64 (done : Int), .int .u64 (made : Int), .slice qaDe nDe qcDe, .slice qaIn nIn qcIn, .slice qaTk nTk qcTk, .slice qaJb nJb qcJb, .slice qaTm nTm qcTm, .slice qaSb nSb qcSb, .slice qaKp nKp qcKp, .slice qaLs nLs qcLs, .slice qaMs nMs qcMs]] w fun e w' => e = .returned (.bool true) ∧ Below w.heap.size w w' := by
  have hb0 : Below w.heap.size w ((w.alloc (.cells #[.int .u64 (pos : Int), .int .u64 (done : Int), .int .u64 (made : Int), .slice paDe nDe pcDe, .slice paIn nIn pcIn, .slice paTk nTk pcTk, .slice paJb nJb pcJb, .slice paTm nTm pcTm, .slice paSb nSb pcSb, .slice paKp nKp pcKp, .slice paLs nLs pcLs, .slice paMs nMs pcMs] 33)).alloc (.cells #[.int .u64 (pos : Int), .int .u64 (done : Int), .int .u64 (made : Int), .slice qaDe nDe qcDe, .slice qaIn nIn qcIn, .slice qaTk nTk qcTk, .slice qaJb nJb qcJb, .slice qaTm nTm qcTm, .slice qaSb nSb qcSb, .slice qaKp nKp qcKp, .slice qaLs nLs qcLs, .slice qaMs nMs qcMs] 33)) := ((Below.refl _ w).alloc (Nat.le_refl _) _).alloc (by simp) _
  have HB : Hid (∀ W, Below ((w.alloc (.cells #[.int .u64 (pos : Int), .int .u64 (done : Int), .int .u64 (made : Int), .slice paDe nDe pcDe, .slice paIn nIn pcIn, .slice paTk nTk pcTk, .slice paJb nJb pcJb, .slice paTm nTm pcTm, .slice paSb nSb pcSb, .slice paKp nKp pcKp, .slice paLs nLs pcLs, .slice paMs nMs pcMs] 33)).alloc (.cells #[.int .u64 (pos : Int), .int .u64 (done : Int), .int .u64 (made : Int), .slice qaDe nDe qcDe, .slice qaIn nIn qcIn, .slice qaTk nTk qcTk, .slice qaJb nJb qcJb, .slice qaTm nTm qcTm, .slice qaSb nSb qcSb, .slice qaKp nKp qcKp, .slice qaLs nLs qcLs, .slice qaMs nMs qcMs] 33)).heap.size ((w.alloc (.cells #[.int .u64 (pos : Int), .int .u64 (done : Int), .int .u64 (made : Int), .slice paDe nDe pcDe, .slice paIn nIn pcIn, .slice paTk nTk pcTk, .slice paJb nJb pcJb, .slice paTm nTm pcTm, .slice paSb nSb pcSb, .slice paKp nKp pcKp, .slice paLs nLs pcLs, .slice paMs nMs pcMs] 33)).alloc (.cells #[.int .u64 (pos : Int), .int .u64 (done : Int), .int .u64 (made : Int), .slice qaDe nDe qcDe, .slice qaIn nIn qcIn, .slice qaTk nTk qcTk, .slice qaJb nJb qcJb, .slice qaTm nTm qcTm, .slice qaSb nSb qcSb, .slice qaKp nKp qcKp, .slice qaLs nLs qcLs, .slice qaMs nMs qcMs] 33)) W → Below w.heap.size w W) := fun W hW => bel_of hb0 hW (Nat.le_refl _)
  have HS : Hid (∀ W, Below ((w.alloc (.cells #[.int .u64 (pos : Int), .int .u64 (done : Int), .int .u64 (made : Int), .slice paDe nDe pcDe, .slice paIn nIn pcIn, .slice paTk nTk pcTk, .slice paJb nJb pcJb, .slice paTm nTm pcTm, .slice paSb nSb pcSb, .slice paKp nKp pcKp, .slice paLs nLs pcLs, .slice paMs nMs pcMs] 33)).alloc (.cells #[.int .u64 (pos : Int), .int .u64 (done : Int), .int .u64 (made : Int), .slice qaDe nDe qcDe, .slice qaIn nIn qcIn, .slice qaTk nTk qcTk, .slice qaJb nJb qcJb, .slice qaTm nTm qcTm, .slice qaSb nSb qcSb, .slice qaKp nKp qcKp, .slice qaLs nLs qcLs, .slice qaMs nMs qcMs] 33)).heap.size ((w.alloc (.cells #[.int .u64 (pos : Int), .int .u64 (done : Int), .int .u64 (made : Int), .slice paDe nDe pcDe, .slice paIn nIn pcIn, .slice paTk nTk pcTk, .slice paJb nJb pcJb, .slice paTm nTm pcTm, .slice paSb nSb pcSb, .slice paKp nKp pcKp, .slice paLs nLs pcLs, .slice paMs nMs pcMs] 33)).alloc (.cells #[.int .u64 (pos : Int), .int .u64 (done : Int), .int .u64 (made : Int), .slice qaDe nDe qcDe, .slice qaIn nIn qcIn, .slice qaTk nTk qcTk, .slice qaJb nJb qcJb, .slice qaTm nTm qcTm, .slice qaSb nSb qcSb, .slice qaKp nKp qcKp, .slice qaLs nLs qcLs, .slice qaMs nMs qcMs] 33)) W → (∀ (j : Nat) (u : Value), ([.int .u64 (pos : Int), .int .u64 (done : Int), .int .u64 (made : Int), .slice paDe nDe pcDe, .slice paIn nIn pcIn, .slice paTk nTk pcTk, .slice paJb nJb pcJb, .slice paTm nTm pcTm, .slice paSb nSb pcSb, .slice paKp nKp pcKp, .slice paLs nLs pcLs, .slice paMs nMs pcMs] : List Value)[j]? = some u → W.cell? ⟨w.heap.size, j, none⟩ = some u) ∧ (∀ (j : Nat) (u : Value), ([.int .u64 (pos : Int), .int .u64 (done : Int), .int .u64 (made : Int), .slice qaDe nDe qcDe, .slice qaIn nIn qcIn, .slice qaTk nTk qcTk, .slice qaJb nJb qcJb, .slice qaTm nTm qcTm, .slice qaSb nSb qcSb, .slice qaKp nKp qcKp, .slice qaLs nLs qcLs, .slice qaMs nMs qcMs] : List Value)[j]? = some u → W.cell? ⟨w.heap.size + 1, j, none⟩ = some u)) := by
    intro W hW
    have e9 : ((w.alloc (.cells #[.int .u64 (pos : Int), .int .u64 (done : Int), .int .u64 (made : Int), .slice paDe nDe pcDe, .slice paIn nIn pcIn, .slice paTk nTk pcTk, .slice paJb nJb pcJb, .slice paTm nTm pcTm, .slice paSb nSb pcSb, .slice paKp nKp pcKp, .slice paLs nLs pcLs, .slice paMs nMs pcMs] 33)).alloc (.cells #[.int .u64 (pos : Int), .int .u64 (done : Int), .int .u64 (made : Int), .slice qaDe nDe qcDe, .slice qaIn nIn qcIn, .slice qaTk nTk qcTk, .slice qaJb nJb qcJb, .slice qaTm nTm qcTm, .slice qaSb nSb qcSb, .slice qaKp nKp qcKp, .slice qaLs nLs qcLs, .slice qaMs nMs qcMs] 33)).heap.size = w.heap.size + 2 := by simp
    rw [e9] at hW
    refine ⟨fun j u hj => (hW.cell (p := ⟨w.heap.size, j, none⟩) (by simp only; omega)).trans ?_, fun j u hj => (hW.cell (p := ⟨w.heap.size + 1, j, none⟩) (by simp only; omega)).trans ?_⟩
    · refine (World.cell?_alloc_lt _ _ _ ?_).trans ((World.cell?_alloc_new _ _ _ _).trans ?_)
      · simp
      · simpa using hj
    · have := World.cell?_alloc_new (w.alloc (.cells #[.int .u64 (pos : Int), .int .u64 (done : Int), .int .u64 (made : Int), .slice paDe nDe pcDe, .slice paIn nIn pcIn, .slice paTk nTk pcTk, .slice paJb nJb pcJb, .slice paTm nTm pcTm, .slice paSb nSb pcSb, .slice paKp nKp pcKp, .slice paLs nLs pcLs, .slice paMs nMs pcMs] 33)) #[.int .u64 (pos : Int), .int .u64 (done : Int), .int .u64 (made : Int), .slice qaDe nDe qcDe, .slice qaIn nIn qcIn, .slice qaTk nTk qcTk, .slice qaJb nJb qcJb, .slice qaTm nTm qcTm, .slice qaSb nSb qcSb, .slice qaKp nKp qcKp, .slice qaLs nLs qcLs, .slice qaMs nMs qcMs] 33 j
      rw [World.size_alloc] at this
      exact this.trans (by simpa using hj)
  have HL : Hid (((w.alloc (.cells #[.int .u64 (pos : Int), .int .u64 (done : Int), .int .u64 (made : Int), .slice paDe nDe pcDe, .slice paIn nIn pcIn, .slice paTk nTk pcTk, .slice paJb nJb pcJb, .slice paTm nTm pcTm, .slice paSb nSb pcSb, .slice paKp nKp pcKp, .slice paLs nLs pcLs, .slice paMs nMs pcMs] 33)).alloc (.cells #[.int .u64 (pos : Int), .int .u64 (done : Int), .int .u64 (made : Int), .slice qaDe nDe qcDe, .slice qaIn nIn qcIn, .slice qaTk nTk qcTk, .slice qaJb nJb qcJb, .slice qaTm nTm qcTm, .slice qaSb nSb qcSb, .slice qaKp nKp qcKp, .slice qaLs nLs qcLs, .slice qaMs nMs qcMs] 33)).heap.size = w.heap.size + 2) := by show _ = _; simp
  clear hb0
  go_enter Tryz.func13, Tryz.ntmps13
  go_wp2
  generalize ((w.alloc (.cells #[.int .u64 (pos : Int), .int .u64 (done : Int), .int .u64 (made : Int), .slice paDe nDe pcDe, .slice paIn nIn pcIn, .slice paTk nTk pcTk, .slice paJb nJb pcJb, .slice paTm nTm pcTm, .slice paSb nSb pcSb, .slice paKp nKp pcKp, .slice paLs nLs pcLs, .slice paMs nMs pcMs] 33)).alloc (.cells #[.int .u64 (pos : Int), .int .u64 (done : Int), .int .u64 (made : Int), .slice qaDe nDe qcDe, .slice qaIn nIn qcIn, .slice qaTk nTk qcTk, .slice qaJb nJb qcJb, .slice qaTm nTm qcTm, .slice qaSb nSb qcSb, .slice qaKp nKp qcKp, .slice qaLs nLs qcLs, .slice qaMs nMs qcMs] 33)) = W1 at *
  have HW0 : Hid (Below W1.heap.size W1 W1) := Below.refl _ _
  go_loopw [5, 6] (fun v5 v6 wr => v5 = .bool true ∧ ∃ i : Nat, v6 = .int .i64 (i : Int) ∧ i ≤ nDe ∧ Hid (Below W1.heap.size W1 wr)) (fun _ v6 _ => nDe - (intOf v6).toNat)
  case atStart => exact ⟨rfl, 0, rfl, Nat.zero_le _, HW0.out⟩
  case round =>
    obtain ⟨rfl, i, rfl, hi, HW⟩ := hrel
    obtain ⟨mp, mq⟩ := HS.out wr HW.out
    have c1 := mp 3 _ rfl
    have c2 := mq 3 _ rfl
    clear mp mq
    by_cases hil : i < nDe
    · as_aux_lemma =>
        have hil' : (i : Int) < (nDe : Int) := by omega
        have hi0 : (0 : Int) ≤ (i : Int) := by omega
        obtain ⟨x, b, off, b', off', rfl, rfl, hc⟩ := EDe.out i hil
        obtain ⟨⟨m0, m1⟩, ⟨k0, k1⟩⟩ := hc wr (HB.out wr HW.out)
        simp only [Nat.add_zero] at m0 k0
        clear hc
        obtain ⟨x0, x1⟩ := x
        simp only at m0 k0 m1 k1
        go_wp2
        go_quiet (fail)
        go_wp2
        go_roundw
        case rel => exact ⟨rfl, i + 1, by simp, by omega, below_drewN HW.out _⟩
        case measure => simp [intOf]; omega
    · as_aux_lemma =>
        have hil' : ¬ (i : Int) < (nDe : Int) := by omega
        clear c2 hil hi EDe zDe
        have HW1 : Hid (Below W1.heap.size W1 wr) := HW.out
        clear HW
        generalize wr = wa0 at *
        go_wp2
        clear c1 hil'
        go_loopw [5, 7] (fun v5 v6 wr => v5 = .bool true ∧ ∃ i : Nat, v6 = .int .i64 (i : Int) ∧ i ≤ nIn ∧ Hid (Below W1.heap.size W1 wr)) (fun _ v6 _ => nIn - (intOf v6).toNat)
        case atStart => exact ⟨rfl, 0, rfl, Nat.zero_le _, HW1.out⟩
        case round =>
          obtain ⟨rfl, i, rfl, hi, HW⟩ := hrel
          obtain ⟨mp, mq⟩ := HS.out wr HW.out
          have c1 := mp 4 _ rfl
          have c2 := mq 4 _ rfl
          clear mp mq
          by_cases hil : i < nIn
          · as_aux_lemma =>
              have hil' : (i : Int) < (nIn : Int) := by omega
              have hi0 : (0 : Int) ≤ (i : Int) := by omega
              obtain ⟨x, pvv, qvv, b, off, b', off', rfl, rfl, hc, rp, rq, hvn⟩ := EIn.out i hil
              obtain ⟨⟨m0, m1, m2⟩, ⟨k0, k1, k2⟩⟩ := hc wr (HB.out wr HW.out)
              simp only [Nat.add_zero] at m0 k0
              have CS : ∀ n, Calls Tryz.prog 25 #[pvv, qvv] (wr.drewN n) fun e w' => e = .returned (.bool true) ∧ ∃ m, w' = (wr.drewN n).drewN m := fun n => (Same9_q (rp.up (below_drewN (HB.out wr HW.out) n)) (rq.up (below_drewN (HB.out wr HW.out) n)) (by omega) (by omega)).mono (fun _ _ h => ⟨h.1.trans (by simp), h.2⟩)
              obtain ⟨ap, cp, rfl, -⟩ := id rp
              obtain ⟨aq, cq, rfl, -⟩ := id rq
              clear hc rp rq
              obtain ⟨x0, x1, x2, x3⟩ := x
              simp only at m0 m1 k0 k1 CS m2 k2
              go_wp2
              go_quiet ((go_at_call 25; refine Calls.quiet_of (CS _)))
              go_wp2
              go_quiet (fail)
              go_wp2
              go_roundw
              case rel => exact ⟨rfl, i + 1, by simp, by omega, below_drewN HW.out _⟩
              case measure => simp [intOf]; omega
          · as_aux_lemma =>
              have hil' : ¬ (i : Int) < (nIn : Int) := by omega
              clear c2 hil hi EIn zIn
              have HW2 : Hid (Below W1.heap.size W1 wr) := HW.out
              clear HW
              generalize wr = wa1 at *
              go_wp2
              clear c1 hil'
              go_loopw [5, 9] (fun v5 v6 wr => v5 = .bool true ∧ ∃ i : Nat, v6 = .int .i64 (i : Int) ∧ i ≤ nTk ∧ Hid (Below W1.heap.size W1 wr)) (fun _ v6 _ => nTk - (intOf v6).toNat)
              case atStart => exact ⟨rfl, 0, rfl, Nat.zero_le _, HW2.out⟩
              case round =>
                obtain ⟨rfl, i, rfl, hi, HW⟩ := hrel
                obtain ⟨mp, mq⟩ := HS.out wr HW.out
                have c1 := mp 5 _ rfl
                have c2 := mq 5 _ rfl
                clear mp mq
                by_cases hil : i < nTk
                · as_aux_lemma =>
                    have hil' : (i : Int) < (nTk : Int) := by omega
                    have hi0 : (0 : Int) ≤ (i : Int) := by omega
                    obtain ⟨x, b, off, b', off', rfl, rfl, hc⟩ := ETk.out i hil
                    obtain ⟨⟨m0, m1, m2, m3, m4, m5⟩, ⟨k0, k1, k2, k3, k4, k5⟩⟩ := hc wr (HB.out wr HW.out)
                    simp only [Nat.add_zero] at m0 k0
                    clear hc
                    obtain ⟨x0, x1, x2, x3, x4, x5⟩ := x
                    simp only at m0 k0 m1 k1 m2 k2 m3 k3 m4 k4 m5 k5
                    go_wp2
                    go_quiet (fail)
                    go_wp2
                    go_roundw
                    case rel => exact ⟨rfl, i + 1, by simp, by omega, below_drewN HW.out _⟩
                    case measure => simp [intOf]; omega
                · as_aux_lemma =>
                    have hil' : ¬ (i : Int) < (nTk : Int) := by omega
                    clear c2 hil hi ETk zTk
                    have HW3 : Hid (Below W1.heap.size W1 wr) := HW.out
                    clear HW
                    generalize wr = wa2 at *
                    go_wp2
                    clear c1 hil'
                    go_loopw [5, 10] (fun v5 v6 wr => v5 = .bool true ∧ ∃ i : Nat, v6 = .int .i64 (i : Int) ∧ i ≤ nJb ∧ Hid (Below W1.heap.size W1 wr)) (fun _ v6 _ => nJb - (intOf v6).toNat)
                    case atStart => exact ⟨rfl, 0, rfl, Nat.zero_le _, HW3.out⟩
                    case round =>
                      obtain ⟨rfl, i, rfl, hi, HW⟩ := hrel
                      obtain ⟨mp, mq⟩ := HS.out wr HW.out
                      have c1 := mp 6 _ rfl
                      have c2 := mq 6 _ rfl
                      clear mp mq
                      by_cases hil : i < nJb
                      · as_aux_lemma =>
                          have hil' : (i : Int) < (nJb : Int) := by omega
                          have hi0 : (0 : Int) ≤ (i : Int) := by omega
                          obtain ⟨x, b, off, b', off', rfl, rfl, hc⟩ := EJb.out i hil
                          obtain ⟨⟨m0, m1, m2, m3, m4, m5⟩, ⟨k0, k1, k2, k3, k4, k5⟩⟩ := hc wr (HB.out wr HW.out)
                          simp only [Nat.add_zero] at m0 k0
                          clear hc
                          obtain ⟨x0, x1, x2, x3, x4, x5⟩ := x
                          simp only at m0 k0 m1 k1 m2 k2 m3 k3 m4 k4 m5 k5
                          go_wp2
                          go_quiet (fail)
                          go_wp2
                          go_roundw
                          case rel => exact ⟨rfl, i + 1, by simp, by omega, below_drewN HW.out _⟩
                          case measure => simp [intOf]; omega
                      · as_aux_lemma =>
                          have hil' : ¬ (i : Int) < (nJb : Int) := by omega
                          clear c2 hil hi EJb zJb
                          have HW4 : Hid (Below W1.heap.size W1 wr) := HW.out
                          clear HW
                          generalize wr = wa3 at *
                          go_wp2
                          clear c1 hil'
                          go_loopw [5, 11] (fun v5 v6 wr => v5 = .bool true ∧ ∃ i : Nat, v6 = .int .i64 (i : Int) ∧ i ≤ nTm ∧ Hid (Below W1.heap.size W1 wr)) (fun _ v6 _ => nTm - (intOf v6).toNat)
                          case atStart => exact ⟨rfl, 0, rfl, Nat.zero_le _, HW4.out⟩
                          case round =>
                            obtain ⟨rfl, i, rfl, hi, HW⟩ := hrel
                            obtain ⟨mp, mq⟩ := HS.out wr HW.out
                            have c1 := mp 7 _ rfl
                            have c2 := mq 7 _ rfl
                            clear mp mq
                            by_cases hil : i < nTm
                            · as_aux_lemma =>
                                have hil' : (i : Int) < (nTm : Int) := by omega
                                have hi0 : (0 : Int) ≤ (i : Int) := by omega
                                obtain ⟨x, b, off, b', off', rfl, rfl, hc⟩ := ETm.out i hil
                                obtain ⟨⟨m0, m1, m2⟩, ⟨k0, k1, k2⟩⟩ := hc wr (HB.out wr HW.out)
                                simp only [Nat.add_zero] at m0 k0
                                clear hc
                                obtain ⟨x0, x1, x2⟩ := x
                                simp only at m0 k0 m1 k1 m2 k2
                                go_wp2
                                go_quiet (fail)
                                go_wp2
                                go_roundw
                                case rel => exact ⟨rfl, i + 1, by simp, by omega, below_drewN HW.out _⟩
                                case measure => simp [intOf]; omega
                            · as_aux_lemma =>
                                have hil' : ¬ (i : Int) < (nTm : Int) := by omega
                                clear c2 hil hi ETm zTm
                                have HW5 : Hid (Below W1.heap.size W1 wr) := HW.out
                                clear HW
                                generalize wr = wa4 at *
                                go_wp2
                                clear c1 hil'
                                go_loopw [5, 12] (fun v5 v6 wr => v5 = .bool true ∧ ∃ i : Nat, v6 = .int .i64 (i : Int) ∧ i ≤ nSb ∧ Hid (Below W1.heap.size W1 wr)) (fun _ v6 _ => nSb - (intOf v6).toNat)
                                case atStart => exact ⟨rfl, 0, rfl, Nat.zero_le _, HW5.out⟩
                                case round =>
                                  obtain ⟨rfl, i, rfl, hi, HW⟩ := hrel
                                  obtain ⟨mp, mq⟩ := HS.out wr HW.out
                                  have c1 := mp 8 _ rfl
                                  have c2 := mq 8 _ rfl
                                  clear mp mq
                                  by_cases hil : i < nSb
                                  · as_aux_lemma =>
                                      have hil' : (i : Int) < (nSb : Int) := by omega
                                      have hi0 : (0 : Int) ≤ (i : Int) := by omega
                                      obtain ⟨x, b, off, b', off', rfl, rfl, hc⟩ := ESb.out i hil
                                      obtain ⟨⟨m0, m1, m2, m3, m4, m5⟩, ⟨k0, k1, k2, k3, k4, k5⟩⟩ := hc wr (HB.out wr HW.out)
                                      simp only [Nat.add_zero] at m0 k0
                                      clear hc
                                      obtain ⟨x0, x1, x2, x3, x4, x5⟩ := x
                                      simp only at m0 k0 m1 k1 m2 k2 m3 k3 m4 k4 m5 k5
                                      go_wp2
                                      go_quiet (fail)
                                      go_wp2
                                      go_roundw
                                      case rel => exact ⟨rfl, i + 1, by simp, by omega, below_drewN HW.out _⟩
                                      case measure => simp [intOf]; omega
                                  · as_aux_lemma =>
                                      have hil' : ¬ (i : Int) < (nSb : Int) := by omega
                                      clear c2 hil hi ESb zSb
                                      have HW6 : Hid (Below W1.heap.size W1 wr) := HW.out
                                      clear HW
                                      generalize wr = wa5 at *
                                      go_wp2
                                      clear c1 hil'
                                      go_loopw [5, 13] (fun v5 v6 wr => v5 = .bool true ∧ ∃ i : Nat, v6 = .int .i64 (i : Int) ∧ i ≤ nKp ∧ Hid (Below W1.heap.size W1 wr)) (fun _ v6 _ => nKp - (intOf v6).toNat)
                                      case atStart => exact ⟨rfl, 0, rfl, Nat.zero_le _, HW6.out⟩
                                      case round =>
                                        obtain ⟨rfl, i, rfl, hi, HW⟩ := hrel
                                        obtain ⟨mp, mq⟩ := HS.out wr HW.out
                                        have c1 := mp 9 _ rfl
                                        have c2 := mq 9 _ rfl
                                        clear mp mq
                                        by_cases hil : i < nKp
                                        · as_aux_lemma =>
                                            have hil' : (i : Int) < (nKp : Int) := by omega
                                            have hi0 : (0 : Int) ≤ (i : Int) := by omega
                                            obtain ⟨x, b, off, b', off', rfl, rfl, hc⟩ := EKp.out i hil
                                            obtain ⟨⟨m0, m1, m2⟩, ⟨k0, k1, k2⟩⟩ := hc wr (HB.out wr HW.out)
                                            simp only [Nat.add_zero] at m0 k0
                                            clear hc
                                            obtain ⟨x0, x1, x2⟩ := x
                                            simp only at m0 k0 m1 k1 m2 k2
                                            go_wp2
                                            go_quiet (fail)
                                            go_wp2
                                            go_roundw
                                            case rel => exact ⟨rfl, i + 1, by simp, by omega, below_drewN HW.out _⟩
                                            case measure => simp [intOf]; omega
                                        · as_aux_lemma =>
                                            have hil' : ¬ (i : Int) < (nKp : Int) := by omega
                                            clear c2 hil hi EKp zKp
                                            have HW7 : Hid (Below W1.heap.size W1 wr) := HW.out
                                            clear HW
                                            generalize wr = wa6 at *
                                            go_wp2
                                            clear c1 hil'
                                            go_loopw [5, 14] (fun v5 v6 wr => v5 = .bool true ∧ ∃ i : Nat, v6 = .int .i64 (i : Int) ∧ i ≤ nLs ∧ Hid (Below W1.heap.size W1 wr)) (fun _ v6 _ => nLs - (intOf v6).toNat)
                                            case atStart => exact ⟨rfl, 0, rfl, Nat.zero_le _, HW7.out⟩
                                            case round =>
                                              obtain ⟨rfl, i, rfl, hi, HW⟩ := hrel
                                              obtain ⟨mp, mq⟩ := HS.out wr HW.out
                                              have c1 := mp 10 _ rfl
                                              have c2 := mq 10 _ rfl
                                              clear mp mq
                                              by_cases hil : i < nLs
                                              · as_aux_lemma =>
                                                  have hil' : (i : Int) < (nLs : Int) := by omega
                                                  have hi0 : (0 : Int) ≤ (i : Int) := by omega
                                                  obtain ⟨x, pvv, qvv, b, off, b', off', rfl, rfl, hc, rp, rq, hvn⟩ := ELs.out i hil
                                                  obtain ⟨⟨m0, m1, m2, m3, m4, m5, m6⟩, ⟨k0, k1, k2, k3, k4, k5, k6⟩⟩ := hc wr (HB.out wr HW.out)
                                                  simp only [Nat.add_zero] at m0 k0
                                                  clear hc
                                                  generalize wr = wo at *
                                                  have lb := World.block_lt_of_cell? _ _ m0
                                                  have lb' := World.block_lt_of_cell? _ _ k0
                                                  have lw := World.block_lt_of_cell? _ _ c1
                                                  have lw' := World.block_lt_of_cell? _ _ c2
                                                  simp only at lb lb' lw lw'
                                                  obtain ⟨ap, cp, rfl, -⟩ := id rp
                                                  obtain ⟨aq, cq, rfl, -⟩ := id rq
                                                  obtain ⟨x0, x1, x2, x3, x4, x5, x6, x7⟩ := x
                                                  simp only at m0 k0 m1 k1 m2 k2 m3 k3 m4 k4 m5 k5 m6 k6 rp rq hvn
                                                  have hbq : Below wo.heap.size wo ((wo.alloc (.cells #[.int .u64 (x0 : Int), .int .u64 (x1 : Int), .int .i64 x2, .string (S x3), .string (S x4), .int .u64 (x5 : Int), .slice ap x7.length cp] 60)).alloc (.cells #[.int .u64 (x0 : Int), .int .u64 (x1 : Int), .int .i64 x2, .string (S x3), .string (S x4), .int .u64 (x5 : Int), .slice aq x7.length cq] 60)) := ((Below.refl _ wo).alloc (Nat.le_refl _) _).alloc (by simp) _
                                                  have hbW := HB.out wo HW.out
                                                  have CS : Calls Tryz.prog 25 #[.slice ap x7.length cp, .slice aq x7.length cq] ((wo.alloc (.cells #[.int .u64 (x0 : Int), .int .u64 (x1 : Int), .int .i64 x2, .string (S x3), .string (S x4), .int .u64 (x5 : Int), .slice ap x7.length cp] 60)).alloc (.cells #[.int .u64 (x0 : Int), .int .u64 (x1 : Int), .int .i64 x2, .string (S x3), .string (S x4), .int .u64 (x5 : Int), .slice aq x7.length cq] 60)) fun e w' => e = .returned (.bool true) ∧ Below ((wo.alloc (.cells #[.int .u64 (x0 : Int), .int .u64 (x1 : Int), .int .i64 x2, .string (S x3), .string (S x4), .int .u64 (x5 : Int), .slice ap x7.length cp] 60)).alloc (.cells #[.int .u64 (x0 : Int), .int .u64 (x1 : Int), .int .i64 x2, .string (S x3), .string (S x4), .int .u64 (x5 : Int), .slice aq x7.length cq] 60)).heap.size ((wo.alloc (.cells #[.int .u64 (x0 : Int), .int .u64 (x1 : Int), .int .i64 x2, .string (S x3), .string (S x4), .int .u64 (x5 : Int), .slice ap x7.length cp] 60)).alloc (.cells #[.int .u64 (x0 : Int), .int .u64 (x1 : Int), .int .i64 x2, .string (S x3), .string (S x4), .int .u64 (x5 : Int), .slice aq x7.length cq] 60)) w' := (Same9_any (rp.up (bel_of hbW hbq (Nat.le_refl _))) (rq.up (bel_of hbW hbq (Nat.le_refl _))) (by omega) (by omega)).mono (fun _ _ h => ⟨h.1.trans (by simp), h.2⟩)
                                                  have HS2 : Hid (∀ W, Below ((wo.alloc (.cells #[.int .u64 (x0 : Int), .int .u64 (x1 : Int), .int .i64 x2, .string (S x3), .string (S x4), .int .u64 (x5 : Int), .slice ap x7.length cp] 60)).alloc (.cells #[.int .u64 (x0 : Int), .int .u64 (x1 : Int), .int .i64 x2, .string (S x3), .string (S x4), .int .u64 (x5 : Int), .slice aq x7.length cq] 60)).heap.size ((wo.alloc (.cells #[.int .u64 (x0 : Int), .int .u64 (x1 : Int), .int .i64 x2, .string (S x3), .string (S x4), .int .u64 (x5 : Int), .slice ap x7.length cp] 60)).alloc (.cells #[.int .u64 (x0 : Int), .int .u64 (x1 : Int), .int .i64 x2, .string (S x3), .string (S x4), .int .u64 (x5 : Int), .slice aq x7.length cq] 60)) W → (W.cell? ⟨wo.heap.size, 0, none⟩ = some (.int .u64 (x0 : Int)) ∧ W.cell? ⟨wo.heap.size, 1, none⟩ = some (.int .u64 (x1 : Int)) ∧ W.cell? ⟨wo.heap.size, 2, none⟩ = some (.int .i64 x2) ∧ W.cell? ⟨wo.heap.size, 3, none⟩ = some (.string (S x3)) ∧ W.cell? ⟨wo.heap.size, 4, none⟩ = some (.string (S x4)) ∧ W.cell? ⟨wo.heap.size, 5, none⟩ = some (.int .u64 (x5 : Int)) ∧ W.cell? ⟨wo.heap.size, 6, none⟩ = some (.slice ap x7.length cp)) ∧ (W.cell? ⟨wo.heap.size + 1, 0, none⟩ = some (.int .u64 (x0 : Int)) ∧ W.cell? ⟨wo.heap.size + 1, 1, none⟩ = some (.int .u64 (x1 : Int)) ∧ W.cell? ⟨wo.heap.size + 1, 2, none⟩ = some (.int .i64 x2) ∧ W.cell? ⟨wo.heap.size + 1, 3, none⟩ = some (.string (S x3)) ∧ W.cell? ⟨wo.heap.size + 1, 4, none⟩ = some (.string (S x4)) ∧ W.cell? ⟨wo.heap.size + 1, 5, none⟩ = some (.int .u64 (x5 : Int)) ∧ W.cell? ⟨wo.heap.size + 1, 6, none⟩ = some (.slice aq x7.length cq)) ∧ Below W1.heap.size W1 W ∧ Below w.heap.size w W) := by
                                                    intro W hW
                                                    have e9 : ((wo.alloc (.cells #[.int .u64 (x0 : Int), .int .u64 (x1 : Int), .int .i64 x2, .string (S x3), .string (S x4), .int .u64 (x5 : Int), .slice ap x7.length cp] 60)).alloc (.cells #[.int .u64 (x0 : Int), .int .u64 (x1 : Int), .int .i64 x2, .string (S x3), .string (S x4), .int .u64 (x5 : Int), .slice aq x7.length cq] 60)).heap.size = wo.heap.size + 2 := by simp
                                                    have hW9 := hW
                                                    rw [e9] at hW
                                                    refine ⟨⟨?_, ?_, ?_, ?_, ?_, ?_, ?_⟩, ⟨?_, ?_, ?_, ?_, ?_, ?_, ?_⟩, bel_of HW.out (bel_of hbq hW9 (Nat.le_refl _)) (Nat.le_refl _), bel_of hbW (bel_of hbq hW9 (Nat.le_refl _)) (Nat.le_refl _)⟩
                                                    · exact (hW.cell (p := ⟨wo.heap.size, 0, none⟩) (by simp only; omega)).trans (by go_simp)
                                                    · exact (hW.cell (p := ⟨wo.heap.size, 1, none⟩) (by simp only; omega)).trans (by go_simp)
                                                    · exact (hW.cell (p := ⟨wo.heap.size, 2, none⟩) (by simp only; omega)).trans (by go_simp)
                                                    · exact (hW.cell (p := ⟨wo.heap.size, 3, none⟩) (by simp only; omega)).trans (by go_simp)
                                                    · exact (hW.cell (p := ⟨wo.heap.size, 4, none⟩) (by simp only; omega)).trans (by go_simp)
                                                    · exact (hW.cell (p := ⟨wo.heap.size, 5, none⟩) (by simp only; omega)).trans (by go_simp)
                                                    · exact (hW.cell (p := ⟨wo.heap.size, 6, none⟩) (by simp only; omega)).trans (by go_simp)
                                                    · exact (hW.cell (p := ⟨wo.heap.size + 1, 0, none⟩) (by simp only; omega)).trans (by go_simp)
                                                    · exact (hW.cell (p := ⟨wo.heap.size + 1, 1, none⟩) (by simp only; omega)).trans (by go_simp)
                                                    · exact (hW.cell (p := ⟨wo.heap.size + 1, 2, none⟩) (by simp only; omega)).trans (by go_simp)
                                                    · exact (hW.cell (p := ⟨wo.heap.size + 1, 3, none⟩) (by simp only; omega)).trans (by go_simp)
                                                    · exact (hW.cell (p := ⟨wo.heap.size + 1, 4, none⟩) (by simp only; omega)).trans (by go_simp)
                                                    · exact (hW.cell (p := ⟨wo.heap.size + 1, 5, none⟩) (by simp only; omega)).trans (by go_simp)
                                                    · exact (hW.cell (p := ⟨wo.heap.size + 1, 6, none⟩) (by simp only; omega)).trans (by go_simp)
                                                  clear hbq hbW rp rq
                                                  go_wp2_with (go_at_call 25; refine CS.mono ?_; rintro e w3 ⟨rfl, b3⟩; obtain ⟨⟨p0c, p1c, p2c, p3c, p4c, p5c, p6c⟩, ⟨q0c, q1c, q2c, q3c, q4c, q5c, q6c⟩, hb3, hb4⟩ := HS2.out w3 b3; (have HW3 : Hid (Below W1.heap.size W1 w3) := hb3); (have HW4 : Hid (Below w.heap.size w w3) := hb4); clear b3 hb3 hb4 CS)
                                                  go_roundw
                                                  case rel => exact ⟨rfl, i + 1, by simp, by omega, HW3.out⟩
                                                  case measure => simp [intOf]; omega
                                              · as_aux_lemma =>
                                                  have hil' : ¬ (i : Int) < (nLs : Int) := by omega
                                                  clear c2 hil hi ELs zLs
                                                  have HW8 : Hid (Below W1.heap.size W1 wr) := HW.out
                                                  clear HW
                                                  generalize wr = wa7 at *
                                                  go_wp2
                                                  clear c1 hil'
                                                  go_loopw [5, 18] (fun v5 v6 wr => v5 = .bool true ∧ ∃ i : Nat, v6 = .int .i64 (i : Int) ∧ i ≤ nMs ∧ Hid (Below W1.heap.size W1 wr)) (fun _ v6 _ => nMs - (intOf v6).toNat)
                                                  case atStart => exact ⟨rfl, 0, rfl, Nat.zero_le _, HW8.out⟩
                                                  case round =>
                                                    obtain ⟨rfl, i, rfl, hi, HW⟩ := hrel
                                                    obtain ⟨mp, mq⟩ := HS.out wr HW.out
                                                    have c1 := mp 11 _ rfl
                                                    have c2 := mq 11 _ rfl
                                                    clear mp mq
                                                    by_cases hil : i < nMs
                                                    · as_aux_lemma =>
                                                        have hil' : (i : Int) < (nMs : Int) := by omega
                                                        have hi0 : (0 : Int) ≤ (i : Int) := by omega
                                                        obtain ⟨x, pvv, qvv, piv, qiv, b, off, b', off', rfl, rfl, hc, rp, rq, hvn, ip, iq, hin⟩ := EMs.out i hil
                                                        obtain ⟨⟨m0, m1, m2, m3, m4, m5, m6⟩, ⟨k0, k1, k2, k3, k4, k5, k6⟩⟩ := hc wr (HB.out wr HW.out)
                                                        simp only [Nat.add_zero] at m0 k0
                                                        clear hc
                                                        generalize wr = wo at *
                                                        have lb := World.block_lt_of_cell? _ _ m0
                                                        have lb' := World.block_lt_of_cell? _ _ k0
                                                        have lw := World.block_lt_of_cell? _ _ c1
                                                        have lw' := World.block_lt_of_cell? _ _ c2
                                                        simp only at lb lb' lw lw'
                                                        obtain ⟨ap, cp, rfl, -⟩ := id rp
                                                        obtain ⟨aq, cq, rfl, -⟩ := id rq
                                                        obtain ⟨ai, ci, rfl, -⟩ := id ip
                                                        obtain ⟨aj, cj, rfl, -⟩ := id iq
                                                        have HIP : Hid (Rr 1 Un.c w (.slice ai x.its.length ci) x.its) := ip
                                                        have HIQ : Hid (Rr 1 Un.c w (.slice aj x.its.length cj) x.its) := iq
                                                        clear ip iq
                                                        obtain ⟨x0, x1, x2, x3, x4, x5, x6, x7, x8⟩ := x
                                                        simp only at m0 k0 m1 k1 m2 k2 m3 k3 m4 k4 m5 k5 m6 k6 rp rq hvn HIP HIQ hin
                                                        have hbq : Below wo.heap.size wo ((wo.alloc (.cells #[.int .u64 (x0 : Int), .string (S x1), .string (S x2), .string (S x3), .int .i64 x4, .slice ap x7.length cp, .slice ai x8.length ci] 63)).alloc (.cells #[.int .u64 (x0 : Int), .string (S x1), .string (S x2), .string (S x3), .int .i64 x4, .slice aq x7.length cq, .slice aj x8.length cj] 63)) := ((Below.refl _ wo).alloc (Nat.le_refl _) _).alloc (by simp) _
                                                        have hbW := HB.out wo HW.out
                                                        have CS : Calls Tryz.prog 25 #[.slice ap x7.length cp, .slice aq x7.length cq] ((wo.alloc (.cells #[.int .u64 (x0 : Int), .string (S x1), .string (S x2), .string (S x3), .int .i64 x4, .slice ap x7.length cp, .slice ai x8.length ci] 63)).alloc (.cells #[.int .u64 (x0 : Int), .string (S x1), .string (S x2), .string (S x3), .int .i64 x4, .slice aq x7.length cq, .slice aj x8.length cj] 63)) fun e w' => e = .returned (.bool true) ∧ Below ((wo.alloc (.cells #[.int .u64 (x0 : Int), .string (S x1), .string (S x2), .string (S x3), .int .i64 x4, .slice ap x7.length cp, .slice ai x8.length ci] 63)).alloc (.cells #[.int .u64 (x0 : Int), .string (S x1), .string (S x2), .string (S x3), .int .i64 x4, .slice aq x7.length cq, .slice aj x8.length cj] 63)).heap.size ((wo.alloc (.cells #[.int .u64 (x0 : Int), .string (S x1), .string (S x2), .string (S x3), .int .i64 x4, .slice ap x7.length cp, .slice ai x8.length ci] 63)).alloc (.cells #[.int .u64 (x0 : Int), .string (S x1), .string (S x2), .string (S x3), .int .i64 x4, .slice aq x7.length cq, .slice aj x8.length cj] 63)) w' := (Same9_any (rp.up (bel_of hbW hbq (Nat.le_refl _))) (rq.up (bel_of hbW hbq (Nat.le_refl _))) (by omega) (by omega)).mono (fun _ _ h => ⟨h.1.trans (by simp), h.2⟩)
                                                        have HS2 : Hid (∀ W, Below ((wo.alloc (.cells #[.int .u64 (x0 : Int), .string (S x1), .string (S x2), .string (S x3), .int .i64 x4, .slice ap x7.length cp, .slice ai x8.length ci] 63)).alloc (.cells #[.int .u64 (x0 : Int), .string (S x1), .string (S x2), .string (S x3), .int .i64 x4, .slice aq x7.length cq, .slice aj x8.length cj] 63)).heap.size ((wo.alloc (.cells #[.int .u64 (x0 : Int), .string (S x1), .string (S x2), .string (S x3), .int .i64 x4, .slice ap x7.length cp, .slice ai x8.length ci] 63)).alloc (.cells #[.int .u64 (x0 : Int), .string (S x1), .string (S x2), .string (S x3), .int .i64 x4, .slice aq x7.length cq, .slice aj x8.length cj] 63)) W → (W.cell? ⟨wo.heap.size, 0, none⟩ = some (.int .u64 (x0 : Int)) ∧ W.cell? ⟨wo.heap.size, 1, none⟩ = some (.string (S x1)) ∧ W.cell? ⟨wo.heap.size, 2, none⟩ = some (.string (S x2)) ∧ W.cell? ⟨wo.heap.size, 3, none⟩ = some (.string (S x3)) ∧ W.cell? ⟨wo.heap.size, 4, none⟩ = some (.int .i64 x4) ∧ W.cell? ⟨wo.heap.size, 5, none⟩ = some (.slice ap x7.length cp) ∧ W.cell? ⟨wo.heap.size, 6, none⟩ = some (.slice ai x8.length ci)) ∧ (W.cell? ⟨wo.heap.size + 1, 0, none⟩ = some (.int .u64 (x0 : Int)) ∧ W.cell? ⟨wo.heap.size + 1, 1, none⟩ = some (.string (S x1)) ∧ W.cell? ⟨wo.heap.size + 1, 2, none⟩ = some (.string (S x2)) ∧ W.cell? ⟨wo.heap.size + 1, 3, none⟩ = some (.string (S x3)) ∧ W.cell? ⟨wo.heap.size + 1, 4, none⟩ = some (.int .i64 x4) ∧ W.cell? ⟨wo.heap.size + 1, 5, none⟩ = some (.slice aq x7.length cq) ∧ W.cell? ⟨wo.heap.size + 1, 6, none⟩ = some (.slice aj x8.length cj)) ∧ Below W1.heap.size W1 W ∧ Below w.heap.size w W) := by
                                                          intro W hW
                                                          have e9 : ((wo.alloc (.cells #[.int .u64 (x0 : Int), .string (S x1), .string (S x2), .string (S x3), .int .i64 x4, .slice ap x7.length cp, .slice ai x8.length ci] 63)).alloc (.cells #[.int .u64 (x0 : Int), .string (S x1), .string (S x2), .string (S x3), .int .i64 x4, .slice aq x7.length cq, .slice aj x8.length cj] 63)).heap.size = wo.heap.size + 2 := by simp
                                                          have hW9 := hW
                                                          rw [e9] at hW
                                                          refine ⟨⟨?_, ?_, ?_, ?_, ?_, ?_, ?_⟩, ⟨?_, ?_, ?_, ?_, ?_, ?_, ?_⟩, bel_of HW.out (bel_of hbq hW9 (Nat.le_refl _)) (Nat.le_refl _), bel_of hbW (bel_of hbq hW9 (Nat.le_refl _)) (Nat.le_refl _)⟩
                                                          · exact (hW.cell (p := ⟨wo.heap.size, 0, none⟩) (by simp only; omega)).trans (by go_simp)
                                                          · exact (hW.cell (p := ⟨wo.heap.size, 1, none⟩) (by simp only; omega)).trans (by go_simp)
                                                          · exact (hW.cell (p := ⟨wo.heap.size, 2, none⟩) (by simp only; omega)).trans (by go_simp)
                                                          · exact (hW.cell (p := ⟨wo.heap.size, 3, none⟩) (by simp only; omega)).trans (by go_simp)
                                                          · exact (hW.cell (p := ⟨wo.heap.size, 4, none⟩) (by simp only; omega)).trans (by go_simp)
                                                          · exact (hW.cell (p := ⟨wo.heap.size, 5, none⟩) (by simp only; omega)).trans (by go_simp)
                                                          · exact (hW.cell (p := ⟨wo.heap.size, 6, none⟩) (by simp only; omega)).trans (by go_simp)
                                                          · exact (hW.cell (p := ⟨wo.heap.size + 1, 0, none⟩) (by simp only; omega)).trans (by go_simp)
                                                          · exact (hW.cell (p := ⟨wo.heap.size + 1, 1, none⟩) (by simp only; omega)).trans (by go_simp)
                                                          · exact (hW.cell (p := ⟨wo.heap.size + 1, 2, none⟩) (by simp only; omega)).trans (by go_simp)
                                                          · exact (hW.cell (p := ⟨wo.heap.size + 1, 3, none⟩) (by simp only; omega)).trans (by go_simp)
                                                          · exact (hW.cell (p := ⟨wo.heap.size + 1, 4, none⟩) (by simp only; omega)).trans (by go_simp)
                                                          · exact (hW.cell (p := ⟨wo.heap.size + 1, 5, none⟩) (by simp only; omega)).trans (by go_simp)
                                                          · exact (hW.cell (p := ⟨wo.heap.size + 1, 6, none⟩) (by simp only; omega)).trans (by go_simp)
                                                        clear hbq hbW rp rq
                                                        go_wp2_with (go_at_call 25; refine CS.mono ?_; rintro e w3 ⟨rfl, b3⟩; obtain ⟨⟨p0c, p1c, p2c, p3c, p4c, p5c, p6c⟩, ⟨q0c, q1c, q2c, q3c, q4c, q5c, q6c⟩, hb3, hb4⟩ := HS2.out w3 b3; (have HW3 : Hid (Below W1.heap.size W1 w3) := hb3); (have HW4 : Hid (Below w.heap.size w w3) := hb4); clear b3 hb3 hb4 CS)
                                                        have hnI : x8.length ≤ 4611686018427387904 := by omega
                                                        have HC3 : Hid (∀ W, Below w3.heap.size w3 W → W.cell? ⟨wo.heap.size, 6, none⟩ = some (.slice ai x8.length ci) ∧ W.cell? ⟨wo.heap.size + 1, 6, none⟩ = some (.slice aj x8.length cj)) := fun W hW => ⟨(hW.cell (p := ⟨wo.heap.size, 6, none⟩) (World.block_lt_of_cell? _ _ p6c)).trans p6c, (hW.cell (p := ⟨wo.heap.size + 1, 6, none⟩) (World.block_lt_of_cell? _ _ q6c)).trans q6c⟩
                                                        clear p0c q0c p1c q1c p2c q2c p3c q3c p4c q4c p5c q5c p6c q6c m0 k0 m1 k1 m2 k2 m3 k3 m4 k4 m5 k5 m6 k6 lb lb' lw lw' HS2
                                                        go_loopw [5, 22] (fun v5 v6 wr => v5 = .bool true ∧ ∃ j : Nat, v6 = .int .i64 (j : Int) ∧ j ≤ x8.length ∧ Hid (Below w3.heap.size w3 wr)) (fun _ v6 _ => x8.length - (intOf v6).toNat)
                                                        case atStart => exact ⟨rfl, 0, rfl, Nat.zero_le _, Below.refl _ _⟩
                                                        case round =>
                                                          obtain ⟨rfl, j, rfl, hj, HWj⟩ := hrel
                                                          obtain ⟨p6c, q6c⟩ := HC3.out wr HWj.out
                                                          by_cases hjl : j < x8.length
                                                          · have hjl' : (j : Int) < (x8.length : Int) := by omega
                                                            have hj0 : (0 : Int) ≤ (j : Int) := by omega
                                                            obtain ⟨d1, o1, f1, v1, -, -, h1⟩ := HIP.out.at hjl
                                                            obtain ⟨d2, o2, f2, v2, -, -, h2⟩ := HIQ.out.at hjl
                                                            injection v1 with v1 _ v1c
                                                            injection v2 with v2 _ v2c
                                                            subst v1 v2 v1c v2c
                                                            have hbj := bel_of HW4.out HWj.out (Nat.le_refl _)
                                                            have y1 := h1 wr hbj j hjl 0 _ rfl
                                                            have y2 := h2 wr hbj j hjl 0 _ rfl
                                                            simp only [Nat.add_zero, Nat.mul_one] at y1 y2
                                                            clear h1 h2 hbj
                                                            generalize x8[j] = z at *
                                                            go_wp2
                                                            go_quiet (fail)
                                                            go_wp2
                                                            go_roundw
                                                            case rel => exact ⟨rfl, j + 1, by simp, by omega, below_drewN HWj.out _⟩
                                                            case measure => simp [intOf]; omega
                                                          · have hjl' : ¬ (j : Int) < (x8.length : Int) := by omega
                                                            have HWk : Hid (Below W1.heap.size W1 wr) := bel_of HW3.out HWj.out (by first | exact Nat.le_refl _ | exact HW3.out.size)
                                                            go_wp2
                                                            go_roundw
                                                            case rel => exact ⟨rfl, i + 1, by simp, by omega, HWk.out⟩
                                                            case measure => simp [intOf]; omega
                                                    · as_aux_lemma =>
                                                        have hil' : ¬ (i : Int) < (nMs : Int) := by omega
                                                        clear c2 hil hi EMs zMs
                                                        have HW9 : Hid (Below W1.heap.size W1 wr) := HW.out
                                                        clear HW
                                                        generalize wr = wa8 at *
                                                        go_wp2
                                                        clear c1 hil'
                                                        go_ret
                                                        exact ⟨rfl, HB.out _ HW9.out⟩
end Go.Proofs.YtgklemopmiabcaaGreat.f13

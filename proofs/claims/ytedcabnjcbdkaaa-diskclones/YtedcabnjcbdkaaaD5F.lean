/-
  The document's disk: Crash.
-/
import Derived.Test.YtedcabnjcbdkaaaD5E
namespace Go.Proofs.Ytedcabnjcbdkaaa
open Go.RowKit Go.Shelf Go.Sort
open Go.Lib hiding intOf
variable {w : World} {B db : Nat} {fs : List Fil} {p : Int} {off : Bool} {sv : Value} {st : Ab}

/-- the first i files behind a crash -/
def crF (ks : List Int) (i : Nat) (fs : List Fil) : List Fil := fs.mapIdx fun j f => (f.1, if j < i then cr (kp ks j) f.2 else f.2)
theorem crF_len (ks : List Int) (i : Nat) (fs : List Fil) : (crF ks i fs).length = fs.length := by simp [crF]
theorem crF_get (ks : List Int) (i : Nat) (fs : List Fil) {j : Nat} (hj : j < fs.length) : (crF ks i fs)[j]'(by rw [crF_len]; exact hj) = (fs[j].1, if j < i then cr (kp ks j) fs[j].2 else fs[j].2) := by simp [crF]
theorem crF_zero (ks : List Int) (fs : List Fil) : crF ks 0 fs = fs := by
  apply List.ext_getElem (crF_len _ _ _)
  intro j h1 h2
  rw [crF_get ks 0 fs h2, if_neg (by omega)]
theorem crF_all (ks : List Int) (fs : List Fil) : crF ks fs.length fs = crAll ks fs := by
  apply List.ext_getElem (by simp [crF, crAll])
  intro j h1 h2
  have hj : j < fs.length := by rw [crF_len] at h1; exact h1
  rw [crF_get ks _ fs hj, if_pos hj]
  simp [crAll]
theorem crF_step {ks : List Int} {i : Nat} {fs : List Fil} (hi : i < fs.length) (u : Fil) (hu : u = (fs[i].1, cr (kp ks i) fs[i].2)) : (crF ks i fs).set i u = crF ks (i + 1) fs := by
  subst hu
  apply List.ext_getElem (by simp [crF])
  intro j h1 h2
  have hj : j < fs.length := by rw [crF_len] at h2; exact h2
  rw [crF_get ks (i + 1) fs hj, List.getElem_set]
  split
  · rename_i e; subst e; rw [if_pos (by omega)]
  · rw [crF_get ks i fs hj]
    by_cases hji : j < i
    · rw [if_pos hji, if_pos (by omega)]
    · rw [if_neg hji, if_neg (by omega)]
/-- what stands in the loop -/
def JC (w : World) (db B : Nat) (fs : List Fil) (p : Int) (off : Bool) (sv : Value) (ks : List Int) (i : Nat) (wr : World) : Prop :=
  Dk wr db B (crF ks i fs) p off sv ∧ Ch (fun x => x = db ∨ sv.ownBlock = some x) w wr
theorem ext_all (s : ByteArray) : s.extract 0 s.size = s := by
  apply key_ext
  rw [ba_take, List.take_of_length_le (by rw [ba_len]; exact Nat.le_refl _)]
theorem ext_zero (s r : ByteArray) : s ++ r.extract 0 0 = s := by
  apply key_ext
  rw [ba_app, ba_take, List.take_zero, List.append_nil]
theorem JCdrew {wr : World} {ks : List Int} {i : Nat} (h : JC w db B fs p off sv ks i wr) : JC w db B fs p off sv ks i wr.drew := ⟨⟨h.1.hd, h.1.row⟩, h.2.drew⟩
set_option maxRecDepth 100000 in
set_option maxHeartbeats 8000000 in
theorem dCrash (h : Dk w db B fs p off sv) (hw : Wf (fs, p, off)) {ka : Option Addr} {ks : List Int} {kc : Nat} (hk : Ks w ka ks) (hkf : ks ≠ [] → ∀ a, ka = some a → ¬ (a.block = db ∨ sv.ownBlock = some a.block)) :
    Calls Try.prog 33 #[.pointer (some ⟨db, 0, none⟩), .slice ka ks.length kc] w fun e w' => (∃ x, e = .returned x) ∧ DDid w B db sv w' (aCrash (fs, p, off) ks) := by
  have hfew : fs.length ≤ 256 := hw.few
  have HS : Hid (∀ e ∈ fs, e.2.1.size + e.2.2.size ≤ 1048576) := fun e he => (hw.small e he).2
  have H : Hid (Dk w db B fs p off sv ∧ Ks w ka ks ∧ (ks ≠ [] → ∀ a, ka = some a → ¬ (a.block = db ∨ sv.ownBlock = some a.block))) := ⟨h, hk, hkf⟩
  obtain ⟨sa0, sc, rfl, -⟩ := row_slice h.row
  clear h hk hkf hw
  go_enter Try.func33, Try.ntmps33
  go_wp2_with fail
  go_loopw [4] (fun vi wr => ∃ i : Nat, vi = .int .i64 i ∧ i ≤ fs.length ∧ JC w db B fs p off (.slice sa0 fs.length sc) ks i wr) (fun vi _ => fs.length - (intOf vi).toNat)
  case atStart => exact ⟨0, rfl, Nat.zero_le _, by rw [crF_zero]; exact H.out.1, Ch.refl _ w⟩
  case round =>
    obtain ⟨i, rfl, hi, hD, hC⟩ := hrel
    have c0 := hD.c0
    by_cases hl : i < fs.length
    · have hli : (i : Int) < (fs.length : Int) := by omega
      have hi1 : (0 : Int) ≤ (i : Int) := Int.natCast_nonneg _
      have hl' : i < (crF ks i fs).length := by rw [crF_len]; exact hl
      obtain ⟨g, c, hg⟩ := hD.slice hl'
      injection hg with hg _ _
      subst hg
      have hrow := hD.row
      rw [crF_len] at hrow
      have m1 := row_cell hrow (fcells_at (crF ks i fs) i hl').2.1
      have m2 := row_cell hrow (fcells_at (crF ks i fs) i hl').2.2
      have eg := crF_get ks i fs hl
      rw [if_neg (by omega : ¬ i < i)] at eg
      have hsz := HS.out fs[i] (List.getElem_mem hl)
      obtain ⟨sa, hsa⟩ : ∃ sa, fs[i].2.1 = sa := ⟨_, rfl⟩
      obtain ⟨re, hre⟩ : ∃ re, fs[i].2.2 = re := ⟨_, rfl⟩
      have hpr : fs[i].2 = (sa, re) := Prod.ext hsa hre
      rw [eg, hpr] at m1 m2
      simp only at m1 m2
      rw [hsa, hre] at hsz
      obtain ⟨n, hn⟩ : ∃ n : Nat, n = min (kp ks i).toNat re.size := ⟨_, rfl⟩
      have hcat := fun W : World => run_string_add_sum (P := Try.prog) (w := W) sa (re.extract 0 n) (by rw [ba_take_size]; omega)
      have fr := row_fro hrow (i * 3 + 1)
      have D3 := hD.safe hl' (sa ++ re.extract 0 n)
      have e0 := D3.c0
      have fr2 := row_fro D3.row (i * 3 + 2)
      have HZ : Hid (∀ w', w' = (wr.setCell ⟨g, i * 3 + 1, none⟩ (.string (sa ++ re.extract 0 n))).setCell ⟨g, i * 3 + 2, none⟩ (.string ⟨#[]⟩) → JC w db B fs p off (.slice (some ⟨g, 0, none⟩) fs.length sc) ks (i + 1) w') := by
        rintro w' rfl
        have D4 := D3.rest (i := i) (by simpa using hl') ⟨#[]⟩
        simp only [List.getElem_set_self, List.set_set] at D4
        rw [crF_step hl _ (by rw [eg, hpr]; unfold cr; rw [hn])] at D4
        exact ⟨D4, hC.trans (((Ch.refl (fun x => x = db ∨ some g = some x) wr).setCell ⟨g, i * 3 + 1, none⟩ _ (fun _ => .inr rfl)).setCell ⟨g, i * 3 + 2, none⟩ _ (fun _ => .inr rfl))⟩
      have hKr : Ks wr ka ks := by
        by_cases h0 : ks = []
        · intro j hj; rw [h0] at hj; cases hj
        · exact H.out.2.1.ch hC (fun a e hx => H.out.2.2 h0 a e hx)
      have hnl : n ≤ re.size := by omega
      have hnl' : (n : Int) ≤ (re.size : Int) := by omega
      clear D3 hD hC eg hsa hre hpr hrow
      by_cases hkl : i < ks.length
      · have hkl' : (i : Int) < (ks.length : Int) := by omega
        obtain ⟨kb, ko, rfl, hkc⟩ := hKr i hkl
        have hkp : kp ks i = ks[i] := by simp [kp, hkl]
        rw [hkp] at hn
        clear hkp hKr
        generalize ks[i] = kk at *
        by_cases hpos : 0 < kk
        · by_cases hbig : (re.size : Int) < kk
          · obtain rfl : n = re.size := by omega
            clear hn
            simp only [ext_all] at HZ hcat e0 fr2
            go_wp2_with fail
            go_region
            all_goals go_wp2
            all_goals
              go_roundw
              case rel => exact ⟨i + 1, by simp, by omega, JCdrew (HZ.out _ rfl)⟩
              case measure => simp [intOf]; omega
          · obtain rfl : kk = (n : Int) := by omega
            clear hn
            go_wp2_with fail
            go_region
            all_goals go_wp2
            all_goals
              go_roundw
              case rel => exact ⟨i + 1, by simp, by omega, JCdrew (HZ.out _ rfl)⟩
              case measure => simp [intOf]; omega
        · obtain rfl : n = 0 := by omega
          have hz0 : ¬ (re.size : Int) < 0 := by omega
          clear hn
          have hcat0 := fun W : World => run_string_add_sum (P := Try.prog) (w := W) sa ⟨#[]⟩ (by show sa.size + 0 ≤ _; omega)
          have hcat1 := fun W : World => run_string_add_sum (P := Try.prog) (w := W) sa ByteArray.empty (by show sa.size + 0 ≤ _; omega)
          have ex0 : sa ++ (⟨#[]⟩ : ByteArray) = sa := ByteArray.append_empty
          have ex1 : sa ++ ByteArray.empty = sa := ByteArray.append_empty
          rw [ex0] at hcat0
          rw [ex1] at hcat1
          simp only [ext_zero] at HZ e0 fr2
          go_wp2_with fail
          go_region
          all_goals go_wp2
          all_goals
            go_roundw
            case rel => exact ⟨i + 1, by simp, by omega, JCdrew (HZ.out _ rfl)⟩
            case measure => simp [intOf]; omega
      · have hkl' : ¬ (i : Int) < (ks.length : Int) := by omega
        have hkp : kp ks i = 0 := by simp [kp, Nat.le_of_not_lt hkl]
        rw [hkp] at hn
        obtain rfl : n = 0 := by omega
        have hz0 : ¬ (re.size : Int) < 0 := by omega
        clear hkp hKr hn
        have hcat0 := fun W : World => run_string_add_sum (P := Try.prog) (w := W) sa ⟨#[]⟩ (by show sa.size + 0 ≤ _; omega)
        have hcat1 := fun W : World => run_string_add_sum (P := Try.prog) (w := W) sa ByteArray.empty (by show sa.size + 0 ≤ _; omega)
        have ex0 : sa ++ (⟨#[]⟩ : ByteArray) = sa := ByteArray.append_empty
        have ex1 : sa ++ ByteArray.empty = sa := ByteArray.append_empty
        rw [ex0] at hcat0
        rw [ex1] at hcat1
        simp only [ext_zero] at HZ e0 fr2
        go_wp2_with fail
        go_region
        all_goals go_wp2
        all_goals
          go_roundw
          case rel => exact ⟨i + 1, by simp, by omega, JCdrew (HZ.out _ rfl)⟩
          case measure => simp [intOf]; omega
    · have hli : ¬ (i : Int) < (fs.length : Int) := by omega
      obtain rfl : i = fs.length := by omega
      rw [crF_all] at hD
      have c1 := hD.c1
      have c2 := hD.c2
      have f1 := hD.fro 1
      have f2 := hD.fro 2
      have DA := hD.set2 false
      have g1 := DA.fro 1
      have g2 := DA.c1
      have HZ : Hid (DDid w B db (.slice sa0 fs.length sc) ((wr.setCell ⟨db, 2, none⟩ (.bool false)).setCell ⟨db, 1, none⟩ (.int .i64 (-1))) (crAll ks fs, -1, false)) :=
        ⟨_, DA.set1 (-1), (hC.setCell ⟨db, 2, none⟩ _ (fun _ => .inl rfl)).setCell ⟨db, 1, none⟩ _ (fun _ => .inl rfl), fun _ hx => .inl hx⟩
      have c0' : wr.cell? ⟨db, 0, none⟩ = some (.slice sa0 fs.length sc) := c0
      clear hD hC DA
      go_wp2
      go_end0
      exact ⟨⟨_, rfl⟩, HZ.out⟩
end Go.Proofs.Ytedcabnjcbdkaaa

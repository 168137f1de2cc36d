/-
  The document's Less only reads.
-/
import Derived.Test.YtlhijbgdccejbaaRRef
namespace Go.Proofs.Ytlhijbgdccejbaa
open Go.RowKit Go.Shelf Go.Sort
open Go.Lib hiding intOf

set_option maxHeartbeats 1000000 in
theorem Less_quiet (a b : ByteArray) (ha : a.size < 4611686018427387904) (_hb : b.size < 4611686018427387904) (w : World) : Calls Try.prog 18 #[.string a, .string b] w fun e w' => e = .returned (.bool (lt a b)) ∧ ∃ m, w' = w.drewN m := by
  go_enter Try.func18, Try.ntmps18
  go_wp2
  go_loopw [5] (fun vi wr => ∃ i : Nat, vi = .int .i64 i ∧ i ≤ a.size ∧ i ≤ b.size ∧ a.data.toList.take i = b.data.toList.take i ∧ ∃ n, wr = w.drewN n) (fun vi _ => a.size - (intOf vi).toNat)
  case atStart => exact ⟨0, rfl, Nat.zero_le _, Nat.zero_le _, by simp, 0, (World.drewN_zero w).symm⟩
  case round =>
    obtain ⟨i, rfl, h1, h2, h3, n0, rfl⟩ := hrel
    have H3 : Hid (a.data.toList.take i = b.data.toList.take i) := h3
    clear h3
    have la : a.data.toList.length = a.size := by simp
    have lb : b.data.toList.length = b.size := by simp
    by_cases hia : i < a.size
    · have hii : (i : Int) < (a.size : Int) := by omega
      by_cases hib : i < b.size
      · have hij : (i : Int) < (b.size : Int) := by omega
        have hlf := less_from a.data.toList b.data.toList i (by simpa using hia) (by simpa using hib) H3.out
        rw [get_list a i hia, get_list b i hib] at hlf
        by_cases hab : a[i] = b[i]
        · have hne : ((a[i].toNat : Int) != (b[i].toNat : Int)) = false := by simp [hab]
          have R : Hid (a.data.toList.take (i + 1) = b.data.toList.take (i + 1)) := by
            show a.data.toList.take (i + 1) = b.data.toList.take (i + 1)
            rw [List.take_succ_eq_append_getElem (by simpa using hia), List.take_succ_eq_append_getElem (by simpa using hib), H3.out, get_list a i hia, get_list b i hib, hab]
          clear hlf hab la lb
          go_wp2_with fail
          go_quiet (fail)
          all_goals go_wp2_with fail
          go_roundw
          case rel => exact ⟨i + 1, by simp, by omega, by omega, R.out, by first | exact ⟨_, rfl⟩ | exact ⟨_, World.drewN_drewN _ _ _⟩ | exact ⟨_, by rw [World.drewN_drewN, World.drewN_drewN]⟩⟩
          case measure => simp [intOf]; omega
        · have hne : ((a[i].toNat : Int) != (b[i].toNat : Int)) = true := by
            simp only [bne_iff_ne, ne_eq]
            intro h
            exact hab (UInt8.toNat_inj.1 (by omega))
          have R : Hid (decide (a[i].toNat < b[i].toNat) = lt a b) := by
            show decide (a[i].toNat < b[i].toNat) = lt a b
            rw [Bool.eq_iff_iff, lt_iff, hlf, decide_eq_true_iff]
            constructor
            · intro h; exact .inl (UInt8.lt_iff_toNat_lt.2 h)
            · rintro (h | ⟨h, _⟩)
              · exact UInt8.lt_iff_toNat_lt.1 h
              · exact absurd h hab
          clear hlf hab la lb
          go_wp2_with fail
          go_quiet (fail)
          all_goals go_wp2_with fail
          go_quiet (fail)
          all_goals go_wp2_with fail
          all_goals go_ret
          all_goals exact ⟨by rw [← R.out]; rfl, by first | exact ⟨_, rfl⟩ | exact ⟨_, World.drewN_drewN _ _ _⟩ | exact ⟨_, by rw [World.drewN_drewN, World.drewN_drewN]⟩⟩
      · have R := less_done a b i h1 h2 H3.out (.inr (by omega))
        have R' : Hid (lt a b = decide (a.size < b.size)) := R
        clear R la lb
        have hij : ¬ (i : Int) < (b.size : Int) := by omega
        go_wp2
        all_goals go_ret
        all_goals exact ⟨by rw [R'.out]; rfl, n0, rfl⟩
    · have R := less_done a b i h1 h2 H3.out (.inl (by omega))
      have R' : Hid (lt a b = decide (a.size < b.size)) := R
      clear R la lb
      have hii : ¬ (i : Int) < (a.size : Int) := by omega
      go_wp2
      all_goals go_ret
      all_goals exact ⟨by rw [R'.out]; rfl, n0, rfl⟩

end Go.Proofs.Ytlhijbgdccejbaa

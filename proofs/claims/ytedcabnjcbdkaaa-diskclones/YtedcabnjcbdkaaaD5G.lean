/-
  The document's disk: Append.
-/
import Derived.Test.YtedcabnjcbdkaaaD5F
namespace Go.Proofs.Ytedcabnjcbdkaaa
open Go.RowKit Go.Shelf Go.Sort
open Go.Lib hiding intOf
variable {w : World} {B db : Nat} {fs : List Fil} {p : Int} {off : Bool} {sv : Value} {st : Ab}

set_option maxHeartbeats 2000000 in
theorem dapp_dead (h : Dk w db B fs p true sv) (k s : ByteArray) :
    Calls Try.prog 28 #[.pointer (some ⟨db, 0, none⟩), .string k, .string s] w fun e w' => e = .returned (.int .i64 7) ∧ w' = w := by
  have c2 := h.c2
  clear h
  go_enter Try.func28, Try.ntmps28
  go_wp2
  go_ret
  exact ⟨rfl, rfl⟩
set_option maxHeartbeats 2000000 in
theorem dapp_name (h : Dk w db B fs p false sv) (k s : ByteArray) (hk : k.size < 1 ∨ 32 < k.size) :
    Calls Try.prog 28 #[.pointer (some ⟨db, 0, none⟩), .string k, .string s] w fun e w' => e = .returned (.int .i64 1) ∧ w' = w := by
  have c2 := h.c2
  clear h
  by_cases h1 : k.size < 1
  · have h1' : (k.size : Int) < 1 := by omega
    clear hk
    go_enter Try.func28, Try.ntmps28
    go_wp2
    go_ret
    exact ⟨rfl, rfl⟩
  · have h1' : ¬ (k.size : Int) < 1 := by omega
    have h2' : (32 : Int) < (k.size : Int) := by omega
    clear hk
    go_enter Try.func28, Try.ntmps28
    go_wp2
    go_ret
    exact ⟨rfl, rfl⟩
set_option maxRecDepth 100000 in
set_option maxHeartbeats 8000000 in
/-- no room for a new one -/
theorem dapp_fullN (h : Dk w db B fs p false sv) (k s : ByteArray) (hk1 : 1 ≤ k.size) (hk2 : k.size ≤ 32) (hn : fs.length ≤ 256) (hx : fnum fs k = -1) (hfull : fs.length = 256 ∨ 1048576 < s.size) :
    Calls Try.prog 28 #[.pointer (some ⟨db, 0, none⟩), .string k, .string s] w fun e w' => e = .returned (.int .i64 4) ∧ Below w.heap.size w w' := by
  have c2 := h.c2
  have c0 := h.c0
  have hF := dfind_any h k (by omega)
  rw [hx] at hF
  obtain ⟨a, c, rfl, -⟩ := row_slice h.row
  have h1' : ¬ (k.size : Int) < 1 := by omega
  have h2' : ¬ (32 : Int) < (k.size : Int) := by omega
  clear h hx
  by_cases h3 : fs.length = 256
  · have h3' : ((fs.length : Int) == 256) = true := by simp; omega
    have h3i : (fs.length : Int) = 256 := by omega
    clear hfull
    go_enter Try.func28, Try.ntmps28
    go_wp2_with (go_at_call 41; refine hF.mono ?_; rintro e w1 ⟨rfl, rfl⟩)
    go_quiet (fail)
    go_wp2
    go_ret
    exact ⟨rfl, below_drewN (Below.refl _ _) _⟩
  · have h3' : ((fs.length : Int) == 256) = false := by simp; omega
    have h4 : (1048576 : Int) < (s.size : Int) := by omega
    clear hfull
    go_enter Try.func28, Try.ntmps28
    go_wp2_with (go_at_call 41; refine hF.mono ?_; rintro e w1 ⟨rfl, rfl⟩)
    go_quiet (fail)
    go_wp2
    go_ret
    exact ⟨rfl, below_drewN (Below.refl _ _) _⟩

set_option maxRecDepth 100000 in
set_option maxHeartbeats 8000000 in
/-- no room in the file -/
theorem dapp_fullO (h : Dk w db B fs p false sv) (k s : ByteArray) (hk1 : 1 ≤ k.size) (hk2 : k.size ≤ 32) (hn : fs.length ≤ 256) {i : Nat} (hi : i < fs.length) (hx : fnum fs k = (i : Int)) (hsz : fs[i].2.1.size + fs[i].2.2.size ≤ 1048576) (hs : s.size ≤ 9223372036853727231) (hfull : 1048576 < fs[i].2.1.size + fs[i].2.2.size + s.size) :
    Calls Try.prog 28 #[.pointer (some ⟨db, 0, none⟩), .string k, .string s] w fun e w' => e = .returned (.int .i64 4) ∧ Below w.heap.size w w' := by
  have c2 := h.c2
  have c0 := h.c0
  have hF := dfind_any h k (by omega)
  rw [hx] at hF
  obtain ⟨g, c, rfl⟩ := h.slice hi
  have m1 := row_cell h.row (fcells_at fs i hi).2.1
  have m2 := row_cell h.row (fcells_at fs i hi).2.2
  have h1' : ¬ (k.size : Int) < 1 := by omega
  have h2' : ¬ (32 : Int) < (k.size : Int) := by omega
  have hli : (i : Int) < (fs.length : Int) := by omega
  have hi0 : (0 : Int) ≤ (i : Int) := Int.natCast_nonneg _
  have hid : decide ((i : Int) < 0) = false := decide_eq_false (by omega)
  clear h hx
  generalize fs[i].2.1 = sa at *
  generalize fs[i].2.2 = re at *
  have h4 : (1048576 : Int) < (sa.size : Int) + (re.size : Int) + (s.size : Int) := by omega
  go_enter Try.func28, Try.ntmps28
  go_wp2_with (go_at_call 41; refine hF.mono ?_; rintro e w1 ⟨rfl, rfl⟩)
  go_quiet (fail)
  go_wp2
  go_ret
  exact ⟨rfl, below_drewN (Below.refl _ _) _⟩

set_option maxRecDepth 100000 in
set_option maxHeartbeats 8000000 in
/-- into a file that is there -/
theorem dapp_old (h : Dk w db B fs p false sv) (k s : ByteArray) (hk1 : 1 ≤ k.size) (hk2 : k.size ≤ 32) (hn : fs.length ≤ 256) (hp : -9223372036854775808 ≤ p ∧ p ≤ 9223372036854775807) {i : Nat} (hi : i < fs.length) (hx : fnum fs k = (i : Int)) (hroom : fs[i].2.1.size + fs[i].2.2.size + s.size ≤ 1048576) :
    Calls Try.prog 28 #[.pointer (some ⟨db, 0, none⟩), .string k, .string s] w fun e w' =>
      if powOk p then e = .returned (.int .i64 0) ∧ Dk w' db B (fs.set i (fs[i].1, fs[i].2.1, fs[i].2.2 ++ s)) (powOf p) false sv ∧ Ch (fun x => x = db ∨ sv.ownBlock = some x) w w'
      else e = .returned (.int .i64 7) ∧ Dk w' db B fs (powOf p) true sv ∧ Ch (fun x => x = db) w w' := by
  have c2 := h.c2
  have c0 := h.c0
  have hF := dfind_any h k (by omega)
  rw [hx] at hF
  obtain ⟨g, c, rfl⟩ := h.slice hi
  have m1 := row_cell h.row (fcells_at fs i hi).2.1
  have m2 := row_cell h.row (fcells_at fs i hi).2.2
  have h1' : ¬ (k.size : Int) < 1 := by omega
  have h2' : ¬ (32 : Int) < (k.size : Int) := by omega
  have hli : (i : Int) < (fs.length : Int) := by omega
  have hi0 : (0 : Int) ≤ (i : Int) := Int.natCast_nonneg _
  have hid : decide ((i : Int) < 0) = false := decide_eq_false (by omega)
  have hin : ¬ (i : Int) < 0 := by omega
  have hA : ∀ n, _ := fun n => dact_any (h.below (below_drewN (Below.refl _ w) n)) hp
  have hcat := fun W : World => run_string_add_sum (P := Try.prog) (w := W) fs[i].2.2 s (by omega)
  clear h hx
  obtain ⟨sa, hsa⟩ : ∃ sa, fs[i].2.1 = sa := ⟨_, rfl⟩
  obtain ⟨re, hre⟩ : ∃ re, fs[i].2.2 = re := ⟨_, rfl⟩
  rw [hsa] at m1 hroom
  rw [hre] at m2 hroom hcat
  have HE : Hid (fs[i].2.1 = sa ∧ fs[i].2.2 = re) := ⟨hsa, hre⟩
  rw [hsa, hre]
  clear hsa hre
  have h4 : decide ((1048576 : Int) < (sa.size : Int) + (re.size : Int) + (s.size : Int)) = false := decide_eq_false (by omega)
  cases hpo : powOk p with
  | true =>
    rw [hpo] at hA
    simp only [if_true]
    go_enter Try.func28, Try.ntmps28
    go_wp2_with (go_at_call 41; refine hF.mono ?_; rintro e w1 ⟨rfl, rfl⟩)
    go_quiet (fail)
    go_wp2_with (go_at_call 42; (refine (hA _).mono ?_; rintro e w2 ⟨rfl, D2, C2⟩; have d0 := D2.c0; have k2 := row_cell D2.row (fcells_at fs i hi).2.2; rw [HE.out.2] at k2; have fr := row_fro D2.row (i * 3 + 2); have HD : Hid _ := And.intro D2 C2; clear D2 C2))
    go_region
    all_goals go_wp2
    all_goals
      go_ret
      obtain ⟨D2, C2⟩ := HD.out
      have D4 := D2.rest hi (re ++ s)
      rw [HE.out.1] at D4
      refine ⟨rfl, ⟨D4.hd, D4.row⟩, ?_⟩
      have C3 : Ch (fun x => x = db ∨ some g = some x) w2 (w2.setCell ⟨g, i * 3 + 2, none⟩ (.string (re ++ s))) := (Ch.refl _ w2).setCell _ _ (fun _ => .inr rfl)
      have C4 := (C2.mono (Y := fun x => x = db ∨ some g = some x) (fun k _ e => .inl e)).trans C3
      exact ⟨C4.os, C4.tape, C4.output, C4.size, C4.block⟩
  | false =>
    rw [hpo] at hA
    simp only [Bool.false_eq_true, if_false]
    go_enter Try.func28, Try.ntmps28
    go_wp2_with (go_at_call 41; refine hF.mono ?_; rintro e w1 ⟨rfl, rfl⟩)
    go_quiet (fail)
    go_wp2_with (go_at_call 42; (refine (hA _).mono ?_; rintro e w2 ⟨rfl, D2, C2⟩; have HD : Hid _ := And.intro D2 C2; clear D2 C2))
    go_ret
    exact ⟨rfl, HD.out.1, ⟨HD.out.2.os, HD.out.2.tape, HD.out.2.output, HD.out.2.size, HD.out.2.block⟩⟩
end Go.Proofs.Ytedcabnjcbdkaaa

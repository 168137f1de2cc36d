/-
  The document's disk: Cut, whatever is asked; Names; Delete.
-/
import Derived.Test.YtedcabnjcbdkaaaD5B
namespace Go.Proofs.Ytedcabnjcbdkaaa
open Go.RowKit Go.Shelf Go.Sort
open Go.Lib hiding intOf
variable {w : World} {B db : Nat} {fs : List Fil} {p : Int} {off : Bool} {sv : Value} {st : Ab}

set_option maxHeartbeats 2000000 in
theorem dcut_no (h : Dk w db B fs p off sv) (k : ByteArray) (n : Int) (hn : fs.length < 4611686018427387904) (hb : askNo fs off k ≠ 0) :
    Calls Try.prog 30 #[.pointer (some ⟨db, 0, none⟩), .string k, .int .i64 n] w fun e w' => e = .returned (.int .i64 (askNo fs off k)) ∧ w' = w := by
  have hA := dasks_any h k hn
  rw [if_neg hb] at hA
  clear h
  generalize askNo fs off k = z at *
  have hz : (z == 0) = false := by simpa using hb
  go_enter Try.func30, Try.ntmps30
  go_wp2_with (go_at_call 40; refine hA.mono ?_; rintro e w1 ⟨rfl, rfl⟩)
  go_ret
  exact ⟨rfl, rfl⟩
set_option maxRecDepth 100000 in
set_option maxHeartbeats 4000000 in
theorem dcut_out (h : Dk w db B fs p false sv) (k : ByteArray) (n : Int) (hn : fs.length < 4611686018427387904) {i : Nat} (hi : i < fs.length) (hx : fnum fs k = (i : Int)) (hout : n < 0 ∨ ((fs[i].2.1.size + fs[i].2.2.size : Nat) : Int) < n) (hsz : fs[i].2.1.size + fs[i].2.2.size ≤ 1048576) :
    Calls Try.prog 30 #[.pointer (some ⟨db, 0, none⟩), .string k, .int .i64 n] w fun e w' => e = .returned (.int .i64 1) ∧ Below w.heap.size w w' := by
  have hA := dasks_any h k hn
  have ha : askNo fs false k = 0 := by simp [askNo, hx]
  rw [ha, if_pos rfl, hx] at hA
  obtain ⟨g, c, rfl⟩ := h.slice hi
  have hli : (i : Int) < (fs.length : Int) := by omega
  have hi0 : (0 : Int) ≤ (i : Int) := Int.natCast_nonneg _
  have c0 := h.c0
  have m0 := row_cell h.row (fcells_at fs i hi).1
  have m1 := row_cell h.row (fcells_at fs i hi).2.1
  have m2 := row_cell h.row (fcells_at fs i hi).2.2
  generalize fs[i].2.1 = sa at *
  generalize fs[i].2.2 = re at *
  generalize fs[i].1 = nm at *
  clear h ha hx
  rcases hout with h1 | h1
  · go_enter Try.func30, Try.ntmps30
    go_wp2_with (go_at_call 40; refine hA.mono ?_; rintro e w1 ⟨rfl, rfl⟩)
    go_ret
    exact ⟨rfl, (Below.refl _ _).alloc (Nat.le_refl _) _⟩
  · have h0 : ¬ n < 0 := by omega
    have h1' : (sa.size : Int) + (re.size : Int) < n := by omega
    go_enter Try.func30, Try.ntmps30
    go_wp2_with (go_at_call 40; refine hA.mono ?_; rintro e w1 ⟨rfl, rfl⟩)
    go_ret
    exact ⟨rfl, (Below.refl _ _).alloc (Nat.le_refl _) _⟩
set_option maxRecDepth 100000 in
set_option maxHeartbeats 4000000 in
theorem dcut_off (h : Dk w db B fs 0 false sv) (k : ByteArray) (hn : fs.length < 4611686018427387904) {i m : Nat} (hi : i < fs.length) (hx : fnum fs k = (i : Int)) (hm : m ≤ fs[i].2.1.size + fs[i].2.2.size) (hsz : fs[i].2.1.size + fs[i].2.2.size ≤ 1048576) :
    Calls Try.prog 30 #[.pointer (some ⟨db, 0, none⟩), .string k, .int .i64 m] w fun e w' => e = .returned (.int .i64 7) ∧ Dk w' db B fs 0 true sv ∧ Ch (fun x => x = db) w w' := by
  have hA := dasks_any h k hn
  have ha : askNo fs false k = 0 := by simp [askNo, hx]
  rw [ha, if_pos rfl, hx] at hA
  obtain ⟨g, c, rfl⟩ := h.slice hi
  have hli : (i : Int) < (fs.length : Int) := by omega
  have hi0 : (0 : Int) ≤ (i : Int) := Int.natCast_nonneg _
  have c0 := h.c0
  have m0 := row_cell h.row (fcells_at fs i hi).1
  have m1 := row_cell h.row (fcells_at fs i hi).2.1
  have m2 := row_cell h.row (fcells_at fs i hi).2.2
  generalize fs[i].2.1 = sa at *
  generalize fs[i].2.2 = re at *
  generalize fs[i].1 = nm at *
  have hb : Below w.heap.size w (w.alloc (.cells #[.string nm, .string sa, .string re] 47)) := (Below.refl _ w).alloc (Nat.le_refl _) _
  have hB := dact_any (h.below hb) (by decide)
  rw [show powOk 0 = false from rfl, show powOf 0 = 0 from rfl] at hB
  have h0 : ¬ (m : Int) < 0 := by omega
  have h1 : ¬ (sa.size : Int) + (re.size : Int) < (m : Int) := by omega
  have HB : Hid (Below w.heap.size w (w.alloc (.cells #[.string nm, .string sa, .string re] 47)) ∧ True) := ⟨hb, trivial⟩
  clear h hb ha hx
  go_enter Try.func30, Try.ntmps30
  go_wp2_with (first
    | (go_at_call 40; refine hA.mono ?_; rintro e w1 ⟨rfl, rfl⟩)
    | (go_at_call 42; refine hB.mono ?_; rintro e w2 ⟨rfl, D2, C2⟩; have HD : Hid _ := And.intro D2 C2; clear D2 C2))
  go_ret
  exact ⟨rfl, HD.out.1, (Ch.of_below HB.out.1).trans HD.out.2⟩
theorem dCut (h : Dk w db B fs p off sv) (hw : Wf (fs, p, off)) (k : ByteArray) (n : Int) :
    Calls Try.prog 30 #[.pointer (some ⟨db, 0, none⟩), .string k, .int .i64 n] w fun e w' => e = .returned (.int .i64 (aCut (fs, p, off) k n).1) ∧ DDid w B db sv w' (aCut (fs, p, off) k n).2 := by
  have hn : fs.length < 4611686018427387904 := by have := hw.few; simp at this; omega
  unfold aCut cutNo
  by_cases hno : noOf fs off k = 0
  · obtain ⟨rfl, hh⟩ := no_zero' hno
    obtain ⟨i, hi, e, hx⟩ := fnum_has (fs := fs) hw.rise hh
    have hs : fs[i].2.1.size + fs[i].2.2.size ≤ 1048576 := (hw.small _ (List.getElem_mem hi)).2
    have hg : gv fs k = fs[i].2 := by rw [hx]
    simp only [hno, ne_eq, not_true_eq_false, if_false]
    rw [hg]
    by_cases hout : n < 0 ∨ ((fs[i].2.1.size + fs[i].2.2.size : Nat) : Int) < n
    · rw [if_pos hout, stepA_no (by decide)]
      exact (dcut_out h k n hn hi e hout hs).mono fun e w' x => ⟨x.1, sv, h.below x.2, Ch.of_below x.2, fun _ hx => .inl hx⟩
    · rw [if_neg hout]
      obtain ⟨m, rfl⟩ : ∃ m : Nat, n = (m : Int) := ⟨n.toNat, by omega⟩
      rw [Int.toNat_natCast]
      cases hp : powOk p with
      | false =>
        obtain rfl := pow_zero hp
        rw [stepA_off]
        exact (dcut_off h k hn hi e (by omega) hs).mono fun e w' x => ⟨x.1, DDid.own x.2.1 x.2.2⟩
      | true =>
        rw [stepA_ok hp]
        refine (dcut_ok h k hn (by have := hw.pw; simp at this; omega) hi e hp (by omega) hs).mono fun e w' x => ⟨x.1, sv, ?_, x.2.2, fun _ hx => .inl hx⟩
        have h1 := x.2.1
        rw [show fs[i].1 = k by rw [hx], set_put (fs := fs) hw.rise hi hx] at h1
        exact h1
  · simp only [if_pos hno]
    rw [stepA_no hno]
    have := dcut_no h k n hn (by rw [ask_eq hw.rise]; exact hno)
    rw [ask_eq hw.rise] at this
    exact this.mono fun e w' x => ⟨x.1, by rw [x.2]; exact DDid.same h⟩
end Go.Proofs.Ytedcabnjcbdkaaa

/-
  The document's disk: Delete, whatever is asked.
-/
import Derived.Test.YtedcabnjcbdkaaaD5D
namespace Go.Proofs.Ytedcabnjcbdkaaa
open Go.RowKit Go.Shelf Go.Sort
open Go.Lib hiding intOf
variable {w : World} {B db : Nat} {fs : List Fil} {p : Int} {off : Bool} {sv : Value} {st : Ab}

set_option maxHeartbeats 2000000 in
theorem ddel_no (h : Dk w db B fs p off sv) (k : ByteArray) (hn : fs.length < 4611686018427387904) (hb : askNo fs off k ≠ 0) :
    Calls Try.prog 31 #[.pointer (some ⟨db, 0, none⟩), .string k] w fun e w' => e = .returned (.int .i64 (askNo fs off k)) ∧ w' = w := by
  have hA := dasks_any h k hn
  rw [if_neg hb] at hA
  clear h
  generalize askNo fs off k = z at *
  have hz : (z == 0) = false := by simpa using hb
  go_enter Try.func31, Try.ntmps31
  go_wp2_with (go_at_call 40; refine hA.mono ?_; rintro e w1 ⟨rfl, rfl⟩)
  go_ret
  exact ⟨rfl, rfl⟩
set_option maxHeartbeats 2000000 in
theorem ddel_off (h : Dk w db B fs 0 false sv) (k : ByteArray) (hn : fs.length < 4611686018427387904) (hb : askNo fs false k = 0) :
    Calls Try.prog 31 #[.pointer (some ⟨db, 0, none⟩), .string k] w fun e w' => e = .returned (.int .i64 7) ∧ Dk w' db B fs 0 true sv ∧ Ch (fun x => x = db) w w' := by
  have hA := dasks_any h k hn
  rw [hb, if_pos rfl] at hA
  have hB := dact_any h (by decide)
  rw [show powOk 0 = false from rfl, show powOf 0 = 0 from rfl] at hB
  clear h
  generalize fnum fs k = z at *
  go_enter Try.func31, Try.ntmps31
  go_wp2_with (first
    | (go_at_call 40; refine hA.mono ?_; rintro e w1 ⟨rfl, rfl⟩)
    | (go_at_call 42; refine hB.mono ?_; rintro e w2 ⟨rfl, D2, C2⟩; have HD : Hid _ := And.intro D2 C2; clear D2 C2))
  go_ret
  exact ⟨rfl, HD.out.1, HD.out.2⟩
theorem dDel (h : Dk w db B fs p off sv) (hw : Wf (fs, p, off)) (hB : B ≤ w.heap.size) (k : ByteArray) :
    Calls Try.prog 31 #[.pointer (some ⟨db, 0, none⟩), .string k] w fun e w' => e = .returned (.int .i64 (aDel (fs, p, off) k).1) ∧ DDid w B db sv w' (aDel (fs, p, off) k).2 := by
  have hf : fs.length ≤ 256 := hw.few
  have hn : fs.length < 4611686018427387904 := by omega
  unfold aDel
  by_cases hno : noOf fs off k = 0
  · obtain ⟨rfl, hh⟩ := no_zero' hno
    obtain ⟨i, hi, e, hx⟩ := fnum_has (fs := fs) hw.rise hh
    simp only [hno]
    cases hp : powOk p with
    | false =>
      obtain rfl := pow_zero hp
      rw [stepA_off]
      exact (ddel_off h k hn (by rw [ask_eq hw.rise]; exact hno)).mono fun e w' x => ⟨x.1, DDid.own x.2.1 x.2.2⟩
    | true =>
      rw [stepA_ok hp]
      have hd := del_at (es := fs) hw.rise hi
      rw [hx] at hd
      rw [hd]
      exact ddel_ok h k hf (by have := hw.pw; simp at this; omega) hi e hp hB
  · rw [stepA_no hno]
    have := ddel_no h k hn (by rw [ask_eq hw.rise]; exact hno)
    rw [ask_eq hw.rise] at this
    exact this.mono fun e w' x => ⟨x.1, by rw [x.2]; exact DDid.same h⟩
end Go.Proofs.Ytedcabnjcbdkaaa

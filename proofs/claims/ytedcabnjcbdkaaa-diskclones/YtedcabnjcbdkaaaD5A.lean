/-
  The document's disk: what each call comes to, by the same words as package disk's: Sync, Read.
-/
import Derived.Test.YtedcabnjcbdkaaaL4Shown
namespace Go.Proofs.Ytedcabnjcbdkaaa
open Go.RowKit Go.Shelf Go.Sort
open Go.Lib hiding intOf
variable {w : World} {B db : Nat} {fs : List Fil} {p : Int} {off : Bool} {sv : Value} {st : Ab}

/-- what a disk may have -/
structure Wf (st : Ab) : Prop where
  rise : Rise st.1
  few : st.1.length ≤ 256
  small : ∀ e ∈ st.1, e.1.size ≤ 32 ∧ e.2.1.size + e.2.2.size ≤ 1048576
  pw : -1 ≤ st.2.1 ∧ st.2.1 ≤ 9223372036854775807
theorem St.wf {d : Nat} (h : St w B d st) : Wf st := by
  obtain ⟨es, mo, h, e⟩ := h
  refine ⟨by rw [← e]; exact fil_rise h.rise, by rw [← e, fil_len]; exact h.few, fun x hx => ?_, h.pw⟩
  rw [← e] at hx
  obtain ⟨y, hy, rfl⟩ := List.mem_map.1 hx
  have := h.small y hy
  have e1 : y.2.safe.size + y.2.rest.size = y.2.all.size := (ByteArray.size_append).symm
  exact ⟨this.1, by show y.2.safe.size + y.2.rest.size ≤ _; omega⟩
/-- the document's disk is now so -/
def DDid (w : World) (B db : Nat) (sv : Value) (w' : World) (st : Ab) : Prop :=
  ∃ sv', Dk w' db B st.1 st.2.1 st.2.2 sv' ∧ Ch (fun x => x = db ∨ sv.ownBlock = some x) w w' ∧ ∀ x, sv'.ownBlock = some x → sv.ownBlock = some x ∨ w.heap.size ≤ x
theorem DDid.same (h : Dk w db B fs p off sv) : DDid w B db sv w (fs, p, off) := ⟨sv, h, Ch.refl _ w, fun _ hx => .inl hx⟩
theorem DDid.own {w' : World} {q : Int} {o : Bool} (h : Dk w' db B fs q o sv) (hc : Ch (fun x => x = db) w w') : DDid w B db sv w' (fs, q, o) := ⟨sv, h, hc.mono (fun _ _ e => .inl e), fun _ hx => .inl hx⟩
theorem fnum_has {k : ByteArray} (hr : Rise fs) (h : has fs k = true) : ∃ (i : Nat) (hi : i < fs.length), fnum fs k = (i : Int) ∧ fs[i] = (k, gv fs k) := by
  obtain ⟨hp, hk⟩ := has_lt h
  have hx : fs[pos fs k] = (k, gv fs k) := by
    have h1 := gv_mem hr (k := fs[pos fs k].1) (v := fs[pos fs k].2) (List.getElem_mem hp)
    rw [hk] at h1
    rw [h1]
    exact Prod.ext hk rfl
  refine ⟨pos fs k, hp, ?_, hx⟩
  unfold fnum
  rw [fidx_has hr k, h]
  rfl
theorem fnum_not {k : ByteArray} (hr : Rise fs) (h : has fs k = false) : fnum fs k = -1 := by
  unfold fnum
  rw [fidx_has hr k, h]
  rfl
theorem ask_eq (hr : Rise fs) (off : Bool) (k : ByteArray) : askNo fs off k = noOf fs off k := by
  unfold askNo noOf
  cases h : has fs k with
  | true =>
    obtain ⟨i, hi, e, _⟩ := fnum_has hr h
    rw [e, if_neg (by omega : ¬ ((i : Int) < 0))]
    rfl
  | false => rw [fnum_not hr h]; rfl
theorem set_put {k : ByteArray} (hr : Rise fs) {i : Nat} (hi : i < fs.length) {v : ByteArray × ByteArray} (h : fs[i] = (k, v)) (u : ByteArray × ByteArray) : fs.set i (k, u) = put fs k u := by
  have := put_at hr hi u
  rw [h] at this
  exact this.symm
theorem no_zero' {k : ByteArray} (h : noOf fs off k = 0) : off = false ∧ has fs k = true := by
  cases off with
  | true => simp [noOf] at h
  | false =>
    refine ⟨rfl, ?_⟩
    cases hh : has fs k with
    | false => simp [noOf, hh] at h
    | true => rfl
theorem dSync (h : Dk w db B fs p off sv) (hw : Wf (fs, p, off)) (k : ByteArray) :
    Calls Try.prog 29 #[.pointer (some ⟨db, 0, none⟩), .string k] w fun e w' => e = .returned (.int .i64 (aSync (fs, p, off) k).1) ∧ DDid w B db sv w' (aSync (fs, p, off) k).2 := by
  have hn : fs.length < 4611686018427387904 := by have := hw.few; simp at this; omega
  unfold aSync
  by_cases hno : noOf fs off k = 0
  · obtain ⟨rfl, hh⟩ := no_zero' hno
    obtain ⟨i, hi, e, hx⟩ := fnum_has (fs := fs) hw.rise hh
    simp only [hno]
    cases hp : powOk p with
    | false =>
      obtain rfl := pow_zero hp
      rw [stepA_off]
      exact (dsync_off h k hn (by rw [ask_eq hw.rise]; exact hno)).mono fun e w' x => ⟨x.1, DDid.own x.2.1 x.2.2⟩
    | true =>
      rw [stepA_ok hp]
      have hs : fs[i].2.1.size + fs[i].2.2.size ≤ 1048576 := (hw.small _ (List.getElem_mem hi)).2
      refine (dsync_ok h k hn (by have := hw.pw; simp at this; omega) hi e hp (by omega)).mono fun e w' x => ⟨x.1, sv, ?_, x.2.2, fun _ hx => .inl hx⟩
      have := x.2.1
      rw [hx] at this
      rw [set_put hw.rise hi hx] at this
      exact this
  · rw [stepA_no hno]
    have := dsync_no h k hn (by rw [ask_eq hw.rise]; exact hno)
    rw [ask_eq hw.rise] at this
    exact this.mono fun e w' x => ⟨x.1, by rw [x.2]; exact DDid.same h⟩
set_option maxHeartbeats 2000000 in
theorem dread_no (h : Dk w db B fs p off sv) (k : ByteArray) (hn : fs.length < 4611686018427387904) (hb : askNo fs off k ≠ 0) :
    Calls Try.prog 23 #[.pointer (some ⟨db, 0, none⟩), .string k] w fun e w' => e = .returned (.tuple #[.string ⟨#[]⟩, .int .i64 (askNo fs off k)]) ∧ w' = w := by
  have hA := dasks_any h k hn
  rw [if_neg hb] at hA
  clear h
  generalize askNo fs off k = z at *
  have hz : (z == 0) = false := by simpa using hb
  go_enter Try.func23, Try.ntmps23
  go_wp2_with (go_at_call 40; refine hA.mono ?_; rintro e w1 ⟨rfl, rfl⟩)
  go_ret2
  exact ⟨rfl, rfl⟩
theorem dRead (h : Dk w db B fs p off sv) (hw : Wf (fs, p, off)) (k : ByteArray) :
    Calls Try.prog 23 #[.pointer (some ⟨db, 0, none⟩), .string k] w fun e w' => e = .returned (.tuple #[.string (aRead (fs, p, off) k).1, .int .i64 (aRead (fs, p, off) k).2]) ∧ ∃ n, w' = w.drewN n := by
  have hn : fs.length < 4611686018427387904 := by have := hw.few; simp at this; omega
  unfold aRead
  by_cases hno : noOf fs off k = 0
  · obtain ⟨rfl, hh⟩ := no_zero' hno
    obtain ⟨i, hi, e, hx⟩ := fnum_has (fs := fs) hw.rise hh
    have hs : fs[i].2.1.size + fs[i].2.2.size ≤ 1048576 := (hw.small _ (List.getElem_mem hi)).2
    have := dread_ok h k hn hi e (by omega)
    rw [hx] at this
    simp only [hno]
    exact this
  · have := dread_no h k hn (by rw [ask_eq hw.rise]; exact hno)
    rw [ask_eq hw.rise] at this
    simp only [if_pos hno]
    exact this.mono fun e w' x => ⟨x.1, 0, x.2⟩
theorem dNew (B : Nat) (w : World) (hB : B ≤ w.heap.size) : Calls Try.prog 11 #[] w fun e w' => e = .returned (.pointer (some ⟨w.heap.size, 0, none⟩)) ∧ Dk w' w.heap.size B [] (-1) false (.slice none 0 0) ∧ Below w.heap.size w w' :=
  (dnew_any w).mono fun _ _ x => ⟨x.1, ⟨x.2.1.hd, row_low x.2.1.row hB⟩, x.2.2⟩
theorem dPower (h : Dk w db B fs p off sv) (a : Int) : Calls Try.prog 32 #[.pointer (some ⟨db, 0, none⟩), .int .i64 a] w fun e w' => (∃ v, e = .returned v) ∧ DDid w B db sv w' (aPow (fs, p, off) a) :=
  (dpower_any h a).mono fun _ _ x => ⟨x.1, DDid.own x.2.1 x.2.2⟩
end Go.Proofs.Ytedcabnjcbdkaaa

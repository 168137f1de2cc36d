/-
  The document's disk (wherryref04): where a name stands, power for an act, which file is asked for.
-/
import Derived.Test.YtedcabnjcbdkaaaRLess
namespace Go.Proofs.Ytedcabnjcbdkaaa
open Go.RowKit Go.Shelf Go.Sort
open Go.Lib hiding intOf

/-- a file: its name, its safe bytes, its rest -/
abbrev Fil := ByteArray × ByteArray × ByteArray
def fcells (l : List Fil) : List Value := l.flatMap (fun f => [Value.string f.1, Value.string f.2.1, Value.string f.2.2])
theorem fcells_len (l : List Fil) : (fcells l).length = l.length * 3 := by
  induction l with
  | nil => rfl
  | cons f r ih => simp only [fcells, List.flatMap_cons, List.length_append, List.length_cons, List.length_nil] at *; omega
theorem fcells_at : ∀ (l : List Fil) (j : Nat) (h : j < l.length), (fcells l)[j * 3]? = some (.string l[j].1) ∧ (fcells l)[j * 3 + 1]? = some (.string l[j].2.1) ∧ (fcells l)[j * 3 + 2]? = some (.string l[j].2.2)
  | f :: r, 0, _ => ⟨rfl, rfl, rfl⟩
  | f :: r, j + 1, h => by
    have := fcells_at r j (by simpa using h)
    rw [show (j + 1) * 3 = j * 3 + 1 + 1 + 1 by omega, show j * 3 + 1 + 1 + 1 + 1 = (j * 3 + 1) + 1 + 1 + 1 by omega, show j * 3 + 1 + 1 + 1 + 2 = (j * 3 + 2) + 1 + 1 + 1 by omega]
    simpa [fcells] using this
/-- the document's disk in block db -/
structure Dk (w : World) (db base : Nat) (fs : List Fil) (p : Int) (off : Bool) (sv : Value) : Prop where
  hd : w.heap[db]? = some (.cells #[sv, .int .i64 p, .bool off] 37 (0, 0))
  row : w.ownsRow base 47 3 sv fs.length (fcells fs)
theorem Dk.c0 {w : World} {db base : Nat} {fs : List Fil} {p : Int} {off : Bool} {sv : Value} (h : Dk w db base fs p off sv) : w.cell? ⟨db, 0, none⟩ = some sv := by simp [World.cell?, h.hd]
theorem Dk.c1 {w : World} {db base : Nat} {fs : List Fil} {p : Int} {off : Bool} {sv : Value} (h : Dk w db base fs p off sv) : w.cell? ⟨db, 1, none⟩ = some (.int .i64 p) := by simp [World.cell?, h.hd]
theorem Dk.c2 {w : World} {db base : Nat} {fs : List Fil} {p : Int} {off : Bool} {sv : Value} (h : Dk w db base fs p off sv) : w.cell? ⟨db, 2, none⟩ = some (.bool off) := by simp [World.cell?, h.hd]
theorem Dk.fro {w : World} {db base : Nat} {fs : List Fil} {p : Int} {off : Bool} {sv : Value} (h : Dk w db base fs p off sv) (j : Nat) : w.frozen? ⟨db, j, none⟩ = false := by simp [World.frozen?, h.hd]
theorem Dk.lt {w : World} {db base : Nat} {fs : List Fil} {p : Int} {off : Bool} {sv : Value} (h : Dk w db base fs p off sv) : db < w.heap.size := (Array.getElem?_eq_some_iff.1 h.hd).1
theorem Dk.below {w w' : World} {db base : Nat} {fs : List Fil} {p : Int} {off : Bool} {sv : Value} (h : Dk w db base fs p off sv) (hb : Below w.heap.size w w') : Dk w' db base fs p off sv :=
  ⟨(hb.block db h.lt).trans h.hd, (show Ch (fun _ => False) w w' from Ch.of_below hb).row h.row (fun _ _ => id)⟩
/-- a cell of the disk's own is set -/
theorem Dk.set1 {w : World} {db base : Nat} {fs : List Fil} {p : Int} {off : Bool} {sv : Value} (h : Dk w db base fs p off sv) (q : Int) : Dk (w.setCell ⟨db, 1, none⟩ (.int .i64 q)) db base fs q off sv :=
  ⟨heap_setCell_same w db 1 _ _ _ h.hd, ((Ch.refl (fun k => k = db) w).setCell ⟨db, 1, none⟩ _ (fun _ => rfl)).row h.row (fun k hk e => by
    subst e
    obtain ⟨_, cur, hx⟩ := row_obj h.row hk
    rw [h.hd] at hx; injection hx with x; injection x with _ x; cases x)⟩
theorem Dk.set2 {w : World} {db base : Nat} {fs : List Fil} {p : Int} {off : Bool} {sv : Value} (h : Dk w db base fs p off sv) (o : Bool) : Dk (w.setCell ⟨db, 2, none⟩ (.bool o)) db base fs p o sv :=
  ⟨heap_setCell_same w db 2 _ _ _ h.hd, ((Ch.refl (fun k => k = db) w).setCell ⟨db, 2, none⟩ _ (fun _ => rfl)).row h.row (fun k hk e => by
    subst e
    obtain ⟨_, cur, hx⟩ := row_obj h.row hk
    rw [h.hd] at hx; injection hx with x; injection x with _ x; cases x)⟩
/-- the place of a name, as far as n; below 0: none -/
def fidx (fs : List Fil) (k : ByteArray) : Option Nat := fs.findIdx? (fun f => f.1.toList == k.toList)
def fnum (fs : List Fil) (k : ByteArray) : Int := match fidx fs k with
  | some i => (i : Int)
  | none => -1

theorem fnum_at {fs : List Fil} {k : ByteArray} {i : Nat} (hi : i < fs.length) (hno : ∀ j (hj : j < fs.length), j < i → (fs[j].1.toList == k.toList) = false) (h : (fs[i].1.toList == k.toList) = true) : fnum fs k = (i : Int) := by
  have : fidx fs k = some i := by
    unfold fidx
    rw [List.findIdx?_eq_some_iff_getElem]
    exact ⟨hi, h, fun j hj => by simpa using hno j (by omega) hj⟩
  unfold fnum
  rw [this]
theorem fnum_none {fs : List Fil} {k : ByteArray} (hno : ∀ j (hj : j < fs.length), (fs[j].1.toList == k.toList) = false) : fnum fs k = -1 := by
  have : fidx fs k = none := by
    unfold fidx
    rw [List.findIdx?_eq_none_iff]
    intro f hf
    obtain ⟨j, hj, rfl⟩ := List.mem_iff_getElem.1 hf
    exact hno j hj
  unfold fnum
  rw [this]
theorem fnum_cases (fs : List Fil) (k : ByteArray) : fnum fs k = -1 ∨ ∃ i, fidx fs k = some i ∧ fnum fs k = (i : Int) ∧ i < fs.length := by
  cases h : fidx fs k with
  | none => left; unfold fnum; rw [h]
  | some i =>
    right
    refine ⟨i, rfl, by unfold fnum; rw [h], ?_⟩
    unfold fidx at h
    rw [List.findIdx?_eq_some_iff_getElem] at h
    exact h.1

set_option maxHeartbeats 2000000 in
theorem dfind_any {w : World} {db base : Nat} {fs : List Fil} {p : Int} {off : Bool} {sv : Value} (h : Dk w db base fs p off sv) (k : ByteArray) (hn : fs.length < 4611686018427387904) :
    Calls Try.prog 41 #[.pointer (some ⟨db, 0, none⟩), .string k] w fun e w' => e = .returned (.int .i64 (fnum fs k)) ∧ w' = w := by
  have H : Hid (Dk w db base fs p off sv) := h
  have c0 := h.c0
  obtain ⟨a, c, rfl, -⟩ := row_slice h.row
  clear h
  go_enter Try.func41, Try.ntmps41
  go_wp2_with fail
  go_loopw [5] (fun vi wr => ∃ i : Nat, vi = .int .i64 i ∧ i ≤ fs.length ∧ (∀ j (hj : j < fs.length), j < i → (fs[j].1.toList == k.toList) = false) ∧ wr = w) (fun vi _ => fs.length - (intOf vi).toNat)
  case atStart => exact ⟨0, rfl, Nat.zero_le _, fun _ _ h => by omega, rfl⟩
  case round =>
    obtain ⟨i, rfl, hi, hno, hww⟩ := hrel
    subst hww
    have HNO : Hid (∀ j (hj : j < fs.length), j < i → (fs[j].1.toList == k.toList) = false) := hno
    clear hno
    by_cases hl : i < fs.length
    · have hli : (i : Int) < (fs.length : Int) := by omega
      obtain ⟨g, hg⟩ : ∃ g, a = some ⟨g, 0, none⟩ := by
        rcases H.out.row.2 with ⟨e, h0⟩ | ⟨g, cap', cur, e, -⟩
        · omega
        · cases e; exact ⟨g, rfl⟩
      subst hg
      have m0 := row_cell H.out.row (fcells_at fs i hl).1
      cases hq : (fs[i].1.toList == k.toList) with
      | true =>
        have HR : Hid _ := fnum_at hl HNO.out hq
        generalize fs[i].1 = nm at *
        go_wp2_with fail
        go_ret
        exact ⟨by rw [HR.out]; rfl, rfl⟩
      | false =>
        have HR : Hid (∀ j (hj : j < fs.length), j < i + 1 → (fs[j].1.toList == k.toList) = false) := fun j hj hji => by
          by_cases e : j = i
          · subst e; exact hq
          · exact HNO.out j hj (by omega)
        generalize fs[i].1 = nm at *
        go_wp2_with fail
        go_roundw
        case rel => exact ⟨i + 1, by simp, by omega, HR.out, trivial⟩
        case measure => simp [intOf]; omega
    · have hli : ¬ (i : Int) < (fs.length : Int) := by omega
      have HR : Hid _ := fnum_none (fun j hj => HNO.out j hj (by omega))
      go_wp2_with fail
      go_ret
      exact ⟨by rw [HR.out]; rfl, rfl⟩

/-- is there power for an act, what there is then, and is it off then -/
def powOk (p : Int) : Bool := !(p == 0)
def powOf (p : Int) : Int := if 0 < p then p - 1 else p
set_option maxHeartbeats 2000000 in
theorem dact_any {w : World} {db base : Nat} {fs : List Fil} {p : Int} {off : Bool} {sv : Value} (h : Dk w db base fs p off sv) (hp : -9223372036854775808 ≤ p ∧ p ≤ 9223372036854775807) :
    Calls Try.prog 42 #[.pointer (some ⟨db, 0, none⟩)] w fun e w' => e = .returned (.bool (powOk p)) ∧ Dk w' db base fs (powOf p) (off || !powOk p) sv ∧ Ch (fun k => k = db) w w' := by
  have c1 := h.c1
  have f1 := h.fro 1
  have f2 := h.fro 2
  have c2 := h.c2
  have H : Hid (Dk w db base fs p off sv) := h
  clear h
  by_cases h0 : p = 0
  · subst h0
    go_enter Try.func42, Try.ntmps42
    go_wp2
    go_ret
    refine ⟨rfl, ?_, (Ch.refl _ w).setCell _ _ (fun _ => rfl)⟩
    have := H.out.set2 true
    simpa [powOf, powOk] using this
  · have hb0 : (p == 0) = false := by simpa using h0
    by_cases h1 : 0 < p
    · have hw1 : IntKind.i64.wrap (p - 1) = p - 1 := by rw [IntKind.wrap_i64]; omega
      go_enter Try.func42, Try.ntmps42
      go_wp2
      go_ret
      refine ⟨by simp [powOk, hb0], ?_, (Ch.refl _ w).setCell _ _ (fun _ => rfl)⟩
      have := H.out.set1 (p - 1)
      simpa [powOf, powOk, hb0, h1] using this
    · go_enter Try.func42, Try.ntmps42
      go_wp2
      go_ret
      refine ⟨by simp [powOk, hb0], ?_, Ch.refl _ w⟩
      have e1 : powOf p = p := if_neg (by omega)
      have e2 : (off || !powOk p) = off := by simp [powOk, hb0]
      rw [e1, e2]
      exact H.out

/-- which file, or why not -/
def askNo (fs : List Fil) (off : Bool) (k : ByteArray) : Int := if off then 7 else if fnum fs k < 0 then 5 else 0
set_option maxHeartbeats 2000000 in
theorem dasks_any {w : World} {db base : Nat} {fs : List Fil} {p : Int} {off : Bool} {sv : Value} (h : Dk w db base fs p off sv) (k : ByteArray) (hn : fs.length < 4611686018427387904) :
    Calls Try.prog 40 #[.pointer (some ⟨db, 0, none⟩), .string k] w fun e w' => e = .returned (.tuple #[.int .i64 (if askNo fs off k = 0 then fnum fs k else 0), .int .i64 (askNo fs off k)]) ∧ w' = w := by
  have c2 := h.c2
  have hF := dfind_any h k hn
  clear h
  cases off with
  | true =>
    have ha : askNo fs true k = 7 := rfl
    rw [ha, if_neg (by decide)]
    clear ha
    go_enter Try.func40, Try.ntmps40
    go_wp2
    go_ret2
    exact ⟨rfl, rfl⟩
  | false =>
    generalize hx : fnum fs k = x at *
    by_cases h1 : x < 0
    · have ha : askNo fs false k = 5 := by simp [askNo, hx, h1]
      rw [ha, if_neg (by decide)]
      clear ha hx
      go_enter Try.func40, Try.ntmps40
      go_wp2_with (go_at_call 41; refine hF.mono ?_; rintro e w1 ⟨rfl, rfl⟩)
      go_ret2
      exact ⟨rfl, rfl⟩
    · have ha : askNo fs false k = 0 := by simp [askNo, hx, h1]
      rw [ha, if_pos rfl]
      clear ha hx
      go_enter Try.func40, Try.ntmps40
      go_wp2_with (go_at_call 41; refine hF.mono ?_; rintro e w1 ⟨rfl, rfl⟩)
      go_ret2
      exact ⟨rfl, rfl⟩
end Go.Proofs.Ytedcabnjcbdkaaa

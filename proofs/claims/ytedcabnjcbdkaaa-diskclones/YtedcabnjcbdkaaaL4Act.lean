/-
  Package disk: what the calls come to, on lists; New, find, act, Off, Power.
-/
import Derived.Test.YtedcabnjcbdkaaaL4Base
namespace Go.Proofs.Ytedcabnjcbdkaaa
open Go.RowKit Go.Shelf Go.Sort
open Go.Lib hiding intOf

/-- the files, the power (below 0: any), off -/
abbrev Ab := List Fil × Int × Bool
/-- why a file can't be asked for -/
def noOf {V : Type} (fs : List (ByteArray × V)) (off : Bool) (k : ByteArray) : Int := if off then 7 else if has fs k then 0 else 5
/-- a file's bytes: the safe ones, the rest -/
def gv (fs : List Fil) (k : ByteArray) : ByteArray × ByteArray := (fs[pos fs k]?.map (·.2)).getD (⟨#[]⟩, ⟨#[]⟩)
/-- an act, if there is power -/
def stepA (no : Int) (fs' : List Fil) (st : Ab) : Int × Ab := if no ≠ 0 then (no, st) else if powOk st.2.1 then (0, fs', powOf st.2.1, st.2.2) else (7, st.1, st.2.1, true)
def appNo (st : Ab) (k s : ByteArray) : Int :=
  if st.2.2 then 7 else if k.size < 1 ∨ 32 < k.size then 1
  else if has st.1 k then (if 1048576 < (gv st.1 k).1.size + (gv st.1 k).2.size + s.size then 4 else 0)
  else if st.1.length = 256 ∨ 1048576 < s.size then 4 else 0
def getv (fs : List Fil) (k : ByteArray) : ByteArray × ByteArray := if has fs k then gv fs k else (⟨#[]⟩, ⟨#[]⟩)
def aApp (st : Ab) (k s : ByteArray) : Int × Ab := stepA (appNo st k s) (put st.1 k ((getv st.1 k).1, (getv st.1 k).2 ++ s)) st
def aSync (st : Ab) (k : ByteArray) : Int × Ab := stepA (noOf st.1 st.2.2 k) (put st.1 k ((gv st.1 k).1 ++ (gv st.1 k).2, ⟨#[]⟩)) st
def cutNo (st : Ab) (k : ByteArray) (n : Int) : Int :=
  if noOf st.1 st.2.2 k ≠ 0 then noOf st.1 st.2.2 k else if n < 0 ∨ (((gv st.1 k).1.size + (gv st.1 k).2.size : Nat) : Int) < n then 1 else 0
def cutv (v : ByteArray × ByteArray) (n : Nat) : ByteArray × ByteArray := if n ≤ v.1.size then (v.1.extract 0 n, ⟨#[]⟩) else (v.1, v.2.extract 0 (n - v.1.size))
def aCut (st : Ab) (k : ByteArray) (n : Int) : Int × Ab := stepA (cutNo st k n) (put st.1 k (cutv (gv st.1 k) n.toNat)) st
def aDel (st : Ab) (k : ByteArray) : Int × Ab := stepA (noOf st.1 st.2.2 k) (del st.1 k) st
def aRead (st : Ab) (k : ByteArray) : ByteArray × Int := if noOf st.1 st.2.2 k ≠ 0 then (⟨#[]⟩, noOf st.1 st.2.2 k) else ((gv st.1 k).1 ++ (gv st.1 k).2, 0)
def aPow (st : Ab) (a : Int) : Ab := (st.1, powSet a, st.2.2)
def kp (keep : List Int) (i : Nat) : Int := keep.getD i 0
/-- a file behind a crash -/
def cr (n : Int) (v : ByteArray × ByteArray) : ByteArray × ByteArray := (v.1 ++ v.2.extract 0 (min n.toNat v.2.size), ⟨#[]⟩)
def crAll (keep : List Int) (fs : List Fil) : List Fil := fs.mapIdx fun i f => (f.1, cr (kp keep i) f.2)
def aCrash (st : Ab) (keep : List Int) : Ab := (crAll keep st.1, -1, false)

theorem gv_mem {fs : List Fil} (hs : Rise fs) {k : ByteArray} {v : ByteArray × ByteArray} (h : (k, v) ∈ fs) : gv fs k = v := by
  obtain ⟨hp, hk⟩ := has_lt (mem_has hs h)
  have h1 : fs[pos fs k] = (k, v) := rise_inj hs (List.getElem_mem hp) h hk
  simp only [gv, List.getElem?_eq_getElem hp, Option.map_some, Option.getD_some, h1]
theorem fil_mem {es : List Le} {k : ByteArray} {v : Lv} (h : (k, v) ∈ es) : (k, sr v) ∈ fil es := List.mem_map.2 ⟨_, h, rfl⟩
theorem fil_rise {es : List Le} (h : Rise es) : Rise (fil es) := (vals_rise sr es).2 h
theorem fil_has (es : List Le) (k : ByteArray) : has (fil es) k = has es k := (vals_has sr es k).1
theorem fil_len (es : List Le) : (fil es).length = es.length := vals_len sr es
theorem fil_no (es : List Le) (off : Bool) (k : ByteArray) : noOf (fil es) off k = noOf es off k := by unfold noOf; rw [fil_has]
theorem fil_gv {es : List Le} (hs : Rise es) {k : ByteArray} {v : Lv} (h : (k, v) ∈ es) : gv (fil es) k = (v.safe, v.rest) := gv_mem (fil_rise hs) (fil_mem h)
theorem powOf_pw {p : Int} (h : -1 ≤ p ∧ p ≤ 9223372036854775807) : -1 ≤ powOf p ∧ powOf p ≤ 9223372036854775807 := by unfold powOf; split <;> omega

/-- the disk is now so, and nothing but its own memory was changed -/
def Did (w : World) (B d : Nat) (es : List Le) (mo : Option Nat) (w' : World) (st : Ab) : Prop :=
  ∃ es' mo', Ld w' B d es' st.2.1 st.2.2 mo' ∧ fil es' = st.1 ∧ Ch (foot d mo es) w w' ∧ ∀ x, foot d mo' es' x → foot d mo es x ∨ w.heap.size ≤ x

variable {w : World} {B d : Nat} {es : List Le} {p : Int} {off : Bool} {mo : Option Nat}
theorem Did.same (h : Ld w B d es p off mo) : Did w B d es mo w (fil es, p, off) := ⟨es, mo, h, rfl, Ch.refl _ w, fun _ hx => .inl hx⟩

set_option maxHeartbeats 1000000 in
theorem New_any (B : Nat) (w : World) (hB : B ≤ w.heap.size) : Calls Try.prog 10 #[] w fun e w' => e = .returned (.pointer (some ⟨w.heap.size, 0, none⟩)) ∧ Ld w' B w.heap.size [] (-1) false none ∧ Below w.heap.size w w' := by
  go_enter Try.func10, Try.ntmps10
  go_wp2
  go_ret
  refine ⟨rfl, ⟨heap_alloc_new w _, fun _ h => (by cases h), fun _ => rfl, fun _ h => (by cases h), fun _ h => (by cases h), List.Pairwise.nil, ⟨hB, fun _ h => by cases h⟩, by simp, fun _ h => (by cases h), by decide⟩, (Below.refl _ w).alloc (Nat.le_refl _) _⟩

set_option maxHeartbeats 2000000 in
theorem find_ok (h : Ld w B d es p false mo) {k : ByteArray} {v : Lv} (hk : (k, v) ∈ es) :
    Calls Try.prog 38 #[.pointer (some ⟨d, 0, none⟩), .string k] w fun e w' => e = .returned (.tuple #[.pointer (some ⟨v.g, 0, none⟩), .int .i64 0]) ∧ w' = w := by
  have c0 := h.c0
  have c3 := h.c3
  have hl := h.look hk
  clear h
  go_enter Try.func38, Try.ntmps38
  go_wp2
  go_ret2
  exact ⟨rfl, rfl⟩
set_option maxHeartbeats 2000000 in
theorem find_no (h : Ld w B d es p off mo) {k : ByteArray} (hz : k.size ≤ 9223372036854775807) (hk : noOf es off k ≠ 0) :
    Calls Try.prog 38 #[.pointer (some ⟨d, 0, none⟩), .string k] w fun e w' => e = .returned (.tuple #[.pointer none, .int .i64 (noOf es off k)]) ∧ w' = w := by
  have c0 := h.c0
  have c3 := h.c3
  cases off with
  | true =>
    have e : noOf es true k = 7 := rfl
    rw [e]
    clear h hk e
    go_enter Try.func38, Try.ntmps38
    go_wp2
    go_ret2
    exact ⟨rfl, rfl⟩
  | false =>
    have hh : has es k = false := by
      cases hh : has es k with
      | false => rfl
      | true => simp [noOf, hh] at hk
    have e : noOf es false k = 5 := by simp [noOf, hh]
    have hl := h.look_no hz hh
    rw [e]
    clear h hk e hh
    go_enter Try.func38, Try.ntmps38
    go_wp2
    go_ret2
    exact ⟨rfl, rfl⟩
set_option maxHeartbeats 2000000 in
theorem find_nil (k : ByteArray) (w : World) :
    Calls Try.prog 38 #[.pointer none, .string k] w fun e w' => e = .returned (.tuple #[.pointer none, .int .i64 1]) ∧ w' = w := by
  go_enter Try.func38, Try.ntmps38
  go_wp2
  go_ret2
  exact ⟨rfl, rfl⟩

set_option maxHeartbeats 2000000 in
theorem act_any (h : Ld w B d es p off mo) :
    Calls Try.prog 36 #[.pointer (some ⟨d, 0, none⟩)] w fun e w' => e = .returned (.bool (powOk p)) ∧ Ld w' B d es (powOf p) (off || !powOk p) mo ∧ Ch (fun x => x = d) w w' := by
  have c1 := h.c1
  have c2 := h.c2
  have c3 := h.c3
  have f2 := h.fro 2
  have f3 := h.fro 3
  have hp := h.pw
  have H : Hid (Ld w B d es p off mo) := h
  clear h
  rcases Int.lt_trichotomy p 0 with h0 | h0 | h0
  · have e1 : decide (0 ≤ p) = false := by simpa using h0
    have e2 : powOk p = true := by simp [powOk]; omega
    have e3 : powOf p = p := if_neg (by omega)
    rw [e1] at c1
    rw [e2, e3]
    clear c2 e1 e2 e3 hp
    go_enter Try.func36, Try.ntmps36
    go_wp2
    go_ret
    refine ⟨rfl, ?_, Ch.refl _ w⟩
    simpa using H.out
  · subst h0
    have e4 : (max (0 : Int) 0) = 0 := by decide
    rw [show decide ((0 : Int) ≤ 0) = true from rfl] at c1
    rw [e4] at c2
    clear hp
    go_enter Try.func36, Try.ntmps36
    go_wp2
    go_ret
    refine ⟨rfl, ?_, (Ch.refl _ w).setCell _ _ (fun _ => rfl)⟩
    have hc : Ch (fun x => x = d) w (w.setCell ⟨d, 3, none⟩ (.bool true)) := (Ch.refl _ w).setCell _ _ (fun _ => rfl)
    have := H.out.cells 0 true (by decide) hc (heap_setCell_same w d 3 _ _ (.bool true) H.out.hd)
    simpa [powOf, powOk] using this
  · have e1 : decide (0 ≤ p) = true := by simp; omega
    have e2 : powOk p = true := by simp [powOk]; omega
    have e3 : powOf p = p - 1 := if_pos h0
    have e4 : max p 0 = p := by omega
    have hb0 : (p == 0) = false := by simp; omega
    have hw1 : IntKind.i64.wrap (p - 1) = p - 1 := by rw [IntKind.wrap_i64]; omega
    rw [e1] at c1
    rw [e4] at c2
    rw [e2, e3]
    clear e1 e2 e3
    go_enter Try.func36, Try.ntmps36
    go_wp2
    go_ret
    refine ⟨rfl, ?_, (Ch.refl _ w).setCell _ _ (fun _ => rfl)⟩
    have hc : Ch (fun x => x = d) w (w.setCell ⟨d, 2, none⟩ (.int .i64 (p - 1))) := (Ch.refl _ w).setCell _ _ (fun _ => rfl)
    have hh := heap_setCell_same w d 2 _ _ (.int .i64 (p - 1)) H.out.hd
    have := H.out.cells (p - 1) off (by omega) hc (by
      rw [hh]
      have a1 : decide (0 ≤ p - 1) = decide (0 ≤ p) := by
        have : (0 ≤ p - 1) = (0 ≤ p) := by simp only [eq_iff_iff]; omega
        simp only [this]
      have a2 : max (p - 1) 0 = p - 1 := by omega
      rw [a1, a2]
      rfl)
    simpa using this
set_option maxHeartbeats 2000000 in
theorem Off_any (h : Ld w B d es p off mo) : Calls Try.prog 18 #[.pointer (some ⟨d, 0, none⟩)] w fun e w' => e = .returned (.bool off) ∧ w' = w := by
  have c3 := h.c3
  clear h
  go_enter Try.func18, Try.ntmps18
  go_wp2
  go_ret
  exact ⟨rfl, rfl⟩
set_option maxHeartbeats 2000000 in
theorem Off_nil (w : World) : Calls Try.prog 18 #[.pointer none] w fun e w' => e = .returned (.bool false) ∧ w' = w := by
  go_enter Try.func18, Try.ntmps18
  go_wp2
  go_ret
  exact ⟨rfl, rfl⟩
set_option maxHeartbeats 2000000 in
theorem Power_any (h : Ld w B d es p off mo) (a : Int) (ha : a ≤ 9223372036854775807) : Calls Try.prog 26 #[.pointer (some ⟨d, 0, none⟩), .int .i64 a] w fun e w' => (∃ v, e = .returned v) ∧ Ld w' B d es (powSet a) off mo ∧ Ch (fun x => x = d) w w' := by
  have f1 := h.fro 1
  have f2 := h.fro 2
  have c1 := h.c1
  have c2 := h.c2
  have hh := heap_setCell_same _ d 2 _ _ (.int .i64 (max a 0)) (heap_setCell_same w d 1 _ _ (.bool (decide (0 ≤ a))) h.hd)
  have hc : Ch (fun x => x = d) w ((w.setCell ⟨d, 1, none⟩ (.bool (decide (0 ≤ a)))).setCell ⟨d, 2, none⟩ (.int .i64 (max a 0))) := ((Ch.refl (fun x => x = d) w).setCell ⟨d, 1, none⟩ _ (fun _ => rfl)).setCell ⟨d, 2, none⟩ _ (fun _ => rfl)
  have HR : Hid (Ld ((w.setCell ⟨d, 1, none⟩ (.bool (decide (0 ≤ a)))).setCell ⟨d, 2, none⟩ (.int .i64 (max a 0))) B d es (powSet a) off mo ∧ Ch (fun x => x = d) w ((w.setCell ⟨d, 1, none⟩ (.bool (decide (0 ≤ a)))).setCell ⟨d, 2, none⟩ (.int .i64 (max a 0)))) := by
    refine ⟨h.cells (powSet a) off (by unfold powSet; split <;> omega) hc ?_, hc⟩
    rw [hh]
    have a1 : decide (0 ≤ powSet a) = decide (0 ≤ a) := by
      have : (0 ≤ powSet a) = (0 ≤ a) := by simp only [eq_iff_iff]; unfold powSet; split <;> omega
      simp only [this]
    have a2 : max (powSet a) 0 = max a 0 := by unfold powSet; split <;> omega
    rw [a1, a2]
    rfl
  clear h hh hc
  go_enter Try.func26, Try.ntmps26
  go_wp2
  go_end0
  exact ⟨⟨_, rfl⟩, HR.out.1, HR.out.2⟩
end Go.Proofs.Ytedcabnjcbdkaaa

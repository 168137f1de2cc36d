/-
  Package model: the bytes of a process.
-/
import Derived.Test.YtlmdoiagjepmbaaGreatDoorM11Mem
import Derived.Test.YtlmdoiagjepmbaaGreatDoorM11Lay
import Derived.Test.YtlmdoiagjepmbaaGreatDoorGWire
import Derived.Deep.RegionHeld3
import Derived.OwnWalk
namespace Go.Proofs.YtlmdoiagjepmbaaGreatDoor.m11
open Go.Proofs.YtlmdoiagjepmbaaGreatDoor.x10
open Go.RowKit Go.Shelf Go.Sort
open Go.Lib hiding intOf

def iB (v : Int) : List UInt8 := Lib.uvarint (Lib.zigzag v)
def nPs (x : Nd) : List (List UInt8) := [iB x.kind, iB x.parent, iB x.host, txt x.name, txt x.typ, txt x.key, iB x.n]
def fPs (x : Fl) : List (List UInt8) := [iB x.src, iB x.dst, txt x.cond]
def nBs (x : Nd) : List UInt8 := (nPs x).flatten
def fBs (x : Fl) : List UInt8 := (fPs x).flatten
/-- the bytes of nodes, of flows, of a process -/
def nsB (l : List Nd) : List UInt8 := (Lib.uvarint l.length :: l.map nBs).flatten
def fsB (l : List Fl) : List UInt8 := (Lib.uvarint l.length :: l.map fBs).flatten
def pBs (P : Pc) : List UInt8 := [txt P.id, nsB P.nodes, fsB P.flows].flatten
theorem joinX : Builder.Extra Tryz.prog joinLay_ren := {
  sizeBuilder := by kernel_rfl
  liesBuilder := by kernel_rfl
  t5 := Tryz.underlying5
  a5 := Tryz.isAgg5
  z5 := Tryz.sizeOf5
  v5 := Tryz.zeroValue5
  infoByte := by kernel_rfl
  cellsByte := by kernel_rfl
  sizeByte := by kernel_rfl
  neB5 := by decide }
theorem join_flat (xs : List (List UInt8)) : Lib.join xs [] = xs.flatten := by
  unfold Lib.join
  simp [List.intercalate]
  induction xs with
  | nil => rfl
  | cons a t ih =>
    cases t with
    | nil => rfl
    | cons b r => simpa [List.intersperse] using ih
theorem mapS (ls : List (List UInt8)) : (ls.map S).map (·.data.toList) = ls := by
  rw [List.map_map]
  have : ∀ x ∈ ls, ((fun (b : ByteArray) => b.data.toList) ∘ S) x = id x := fun x _ => by simp [S]
  rw [List.map_congr_left this, List.map_id]

set_option maxHeartbeats 400000 in
theorem together_any {w : World} {b o c : Nat} {ls : List (List UInt8)} (hc : ∀ (j : Nat) (h : j < ls.length), w.cell? ⟨b, o + j, none⟩ = some (.string (S ls[j]))) (hb : b < w.heap.size) (hn : ls.length ≤ 140737488355328) (hcap : ls.length ≤ c) (hl : ls.flatten.length ≤ 140737488355328) :
    Calls Tryz.prog 25 #[.slice (some ⟨b, o, none⟩) ls.length c] w fun e w' => e = .returned (.string (S ls.flatten)) ∧ Below w.heap.size w w' := by
  have hJ := Any.strings_Join joinLay joinX b o c (ls.map S) ⟨#[]⟩ w (fun j x hx => by
    rw [List.getElem?_map] at hx
    obtain ⟨y, hy, rfl⟩ := Option.map_eq_some_iff.1 hx
    obtain ⟨hj, rfl⟩ := List.getElem?_eq_some_iff.1 hy
    exact hc j hj) hb (by simpa using hn) (by simpa using hcap) (by
      have : (ls.map S).map (·.data.toList) = ls := mapS ls
      rw [this]
      show (Lib.join ls []).length ≤ _
      rw [join_flat]; exact hl)
  change Calls Tryz.prog 51 _ _ _ at hJ
  have h1 : (ls.map S).map (·.data.toList) = ls := mapS ls
  rw [h1, List.length_map] at hJ
  have h2 : (⟨(Lib.join ls (ByteArray.mk #[]).data.toList).toArray⟩ : ByteArray) = S ls.flatten := by
    show (⟨(Lib.join ls []).toArray⟩ : ByteArray) = _
    rw [join_flat]; rfl
  rw [h2] at hJ
  clear hc hl h1 h2
  generalize S ls.flatten = r at *
  go_enter Tryz.func25, Tryz.ntmps25
  go_wp2_with (go_at_call 51; refine hJ.mono ?_; rintro e w1 ⟨rfl, hb1⟩; (have B1 : Hid (Below w.heap.size w w1) := hb1); clear hb1 hJ)
  go_ret
  exact ⟨rfl, B1.out⟩
/-- pieces that were just laid -/
theorem together_lit (w : World) (ls : List (List UInt8)) (hn : ls.length ≤ 100) (hl : ls.flatten.length ≤ 140737488355328) (t : TypeId) : Calls Tryz.prog 25 #[.slice (some ⟨w.heap.size, 0, none⟩) ls.length ls.length] (w.alloc (.cells (ls.map fun x => Value.string (S x)).toArray t)) fun e w' => e = .returned (.string (S ls.flatten)) ∧ Below w.heap.size w w' := by
  refine (together_any (b := w.heap.size) (o := 0) (c := ls.length) (ls := ls) (fun j h => ?_) (by simp) (by omega) (Nat.le_refl _) hl).mono ?_
  · rw [Nat.zero_add, World.cell?_alloc_new]
    simp [h]
  · rintro e w' ⟨he, hb⟩
    exact ⟨he, ((Below.refl _ w).alloc (Nat.le_refl _) _).trans (hb.mono (by simp))⟩

set_option maxHeartbeats 400000 in
theorem number_any (v : Int) (h1 : -9223372036854775808 ≤ v) (h2 : v ≤ 9223372036854775807) (w : World) : Calls Tryz.prog 54 #[.int .i64 v] w fun e w' => e = .returned (.string (S (iB v))) ∧ Below w.heap.size w w' := by
  have CI := Int_any v h1 h2 w
  change Calls _ _ _ _ (fun e w' => e = .returned (.string (S (iB v))) ∧ Below w.heap.size w w') at CI
  clear h1 h2
  generalize S (iB v) = r at *
  go_enter Tryz.func54, Tryz.ntmps54
  go_wp2_with (go_at_call 55; refine CI.mono ?_; rintro e w1 ⟨rfl, hb1⟩; (have B1 : Hid (Below w.heap.size w w1) := hb1); clear hb1 CI)
  go_ret
  exact ⟨rfl, B1.out⟩
theorem txt_len (s : List UInt8) : s.length < (txt s).length + 1 := by
  unfold txt
  simp
  omega
/-- the pieces of a flattened list are no longer than it -/
theorem piece_le {ls : List (List UInt8)} {x : List UInt8} (h : x ∈ ls) : x.length ≤ ls.flatten.length := (List.sublist_flatten_of_mem h).length_le

set_option maxRecDepth 100000 in
set_option maxHeartbeats 2000000 in
theorem nodeBytes_any (x : Nd) (hz : Nz x) (hl : (nBs x).length ≤ 140737488355000) (w : World) : Calls Tryz.prog 28 #[nA x] w fun e w' => e = .returned (.string (S (nBs x))) ∧ Below w.heap.size w w' := by
  obtain ⟨k, p, h, nm, ty, ke, n⟩ := x
  obtain ⟨z1, z2, z3, z4, z5, z6, z7⟩ := hz
  simp only at z1 z2 z3 z4 z5 z6 z7
  have l3 : 10 + nm.length ≤ 140737488355328 := by
    have := piece_le (ls := nPs ⟨k, p, h, nm, ty, ke, n⟩) (x := txt nm) (by simp [nPs])
    have := txt_len nm
    unfold nBs at hl
    omega
  have l4 : 10 + ty.length ≤ 140737488355328 := by
    have := piece_le (ls := nPs ⟨k, p, h, nm, ty, ke, n⟩) (x := txt ty) (by simp [nPs])
    have := txt_len ty
    unfold nBs at hl
    omega
  have l5 : 10 + ke.length ≤ 140737488355328 := by
    have := piece_le (ls := nPs ⟨k, p, h, nm, ty, ke, n⟩) (x := txt ke) (by simp [nPs])
    have := txt_len ke
    unfold nBs at hl
    omega
  have hbs : w.heap.size < (w.alloc (.cells #[.int .i64 k, .int .i64 p, .int .i64 h, .string (S nm), .string (S ty), .string (S ke), .int .i64 n] 32)).heap.size := by simp
  have HS : Hid (∀ W, Below (w.alloc (.cells #[.int .i64 k, .int .i64 p, .int .i64 h, .string (S nm), .string (S ty), .string (S ke), .int .i64 n] 32)).heap.size (w.alloc (.cells #[.int .i64 k, .int .i64 p, .int .i64 h, .string (S nm), .string (S ty), .string (S ke), .int .i64 n] 32)) W → W.cell? ⟨w.heap.size, 0, none⟩ = some (.int .i64 k) ∧ W.cell? ⟨w.heap.size, 1, none⟩ = some (.int .i64 p) ∧ W.cell? ⟨w.heap.size, 2, none⟩ = some (.int .i64 h) ∧ W.cell? ⟨w.heap.size, 3, none⟩ = some (.string (S nm)) ∧ W.cell? ⟨w.heap.size, 4, none⟩ = some (.string (S ty)) ∧ W.cell? ⟨w.heap.size, 5, none⟩ = some (.string (S ke)) ∧ W.cell? ⟨w.heap.size, 6, none⟩ = some (.int .i64 n)) := fun W hW => ⟨(hW.cell (p := ⟨w.heap.size, 0, none⟩) hbs).trans (World.cell?_alloc_new _ _ _ _), (hW.cell (p := ⟨w.heap.size, 1, none⟩) hbs).trans (World.cell?_alloc_new _ _ _ _), (hW.cell (p := ⟨w.heap.size, 2, none⟩) hbs).trans (World.cell?_alloc_new _ _ _ _), (hW.cell (p := ⟨w.heap.size, 3, none⟩) hbs).trans (World.cell?_alloc_new _ _ _ _), (hW.cell (p := ⟨w.heap.size, 4, none⟩) hbs).trans (World.cell?_alloc_new _ _ _ _), (hW.cell (p := ⟨w.heap.size, 5, none⟩) hbs).trans (World.cell?_alloc_new _ _ _ _), (hW.cell (p := ⟨w.heap.size, 6, none⟩) hbs).trans (World.cell?_alloc_new _ _ _ _)⟩
  have B1 : Hid (Below w.heap.size w (w.alloc (.cells #[.int .i64 k, .int .i64 p, .int .i64 h, .string (S nm), .string (S ty), .string (S ke), .int .i64 n] 32))) := (Below.refl _ w).alloc (Nat.le_refl _) _
  have C0 : ∀ W, Below (w.alloc (.cells #[.int .i64 k, .int .i64 p, .int .i64 h, .string (S nm), .string (S ty), .string (S ke), .int .i64 n] 32)).heap.size (w.alloc (.cells #[.int .i64 k, .int .i64 p, .int .i64 h, .string (S nm), .string (S ty), .string (S ke), .int .i64 n] 32)) W → Calls Tryz.prog 54 #[.int .i64 k] W fun e w' => e = .returned (.string (S (iB k))) ∧ Below (w.alloc (.cells #[.int .i64 k, .int .i64 p, .int .i64 h, .string (S nm), .string (S ty), .string (S ke), .int .i64 n] 32)).heap.size (w.alloc (.cells #[.int .i64 k, .int .i64 p, .int .i64 h, .string (S nm), .string (S ty), .string (S ke), .int .i64 n] 32)) w' := fun W hW => (number_any k z4.1 z4.2 W).mono fun e w' hh => ⟨hh.1, bel_of hW hh.2 (Nat.le_refl _)⟩
  have C1 : ∀ W, Below (w.alloc (.cells #[.int .i64 k, .int .i64 p, .int .i64 h, .string (S nm), .string (S ty), .string (S ke), .int .i64 n] 32)).heap.size (w.alloc (.cells #[.int .i64 k, .int .i64 p, .int .i64 h, .string (S nm), .string (S ty), .string (S ke), .int .i64 n] 32)) W → Calls Tryz.prog 54 #[.int .i64 p] W fun e w' => e = .returned (.string (S (iB p))) ∧ Below (w.alloc (.cells #[.int .i64 k, .int .i64 p, .int .i64 h, .string (S nm), .string (S ty), .string (S ke), .int .i64 n] 32)).heap.size (w.alloc (.cells #[.int .i64 k, .int .i64 p, .int .i64 h, .string (S nm), .string (S ty), .string (S ke), .int .i64 n] 32)) w' := fun W hW => (number_any p z5.1 z5.2 W).mono fun e w' hh => ⟨hh.1, bel_of hW hh.2 (Nat.le_refl _)⟩
  have C2 : ∀ W, Below (w.alloc (.cells #[.int .i64 k, .int .i64 p, .int .i64 h, .string (S nm), .string (S ty), .string (S ke), .int .i64 n] 32)).heap.size (w.alloc (.cells #[.int .i64 k, .int .i64 p, .int .i64 h, .string (S nm), .string (S ty), .string (S ke), .int .i64 n] 32)) W → Calls Tryz.prog 54 #[.int .i64 h] W fun e w' => e = .returned (.string (S (iB h))) ∧ Below (w.alloc (.cells #[.int .i64 k, .int .i64 p, .int .i64 h, .string (S nm), .string (S ty), .string (S ke), .int .i64 n] 32)).heap.size (w.alloc (.cells #[.int .i64 k, .int .i64 p, .int .i64 h, .string (S nm), .string (S ty), .string (S ke), .int .i64 n] 32)) w' := fun W hW => (number_any h z6.1 z6.2 W).mono fun e w' hh => ⟨hh.1, bel_of hW hh.2 (Nat.le_refl _)⟩
  have C3 : ∀ W, Below (w.alloc (.cells #[.int .i64 k, .int .i64 p, .int .i64 h, .string (S nm), .string (S ty), .string (S ke), .int .i64 n] 32)).heap.size (w.alloc (.cells #[.int .i64 k, .int .i64 p, .int .i64 h, .string (S nm), .string (S ty), .string (S ke), .int .i64 n] 32)) W → Calls Tryz.prog 26 #[.string (S nm)] W fun e w' => e = .returned (.string (S (txt nm))) ∧ Below (w.alloc (.cells #[.int .i64 k, .int .i64 p, .int .i64 h, .string (S nm), .string (S ty), .string (S ke), .int .i64 n] 32)).heap.size (w.alloc (.cells #[.int .i64 k, .int .i64 p, .int .i64 h, .string (S nm), .string (S ty), .string (S ke), .int .i64 n] 32)) w' := fun W hW => (Text_any nm l3 W).mono fun e w' hh => ⟨hh.1, bel_of hW hh.2 (Nat.le_refl _)⟩
  have C4 : ∀ W, Below (w.alloc (.cells #[.int .i64 k, .int .i64 p, .int .i64 h, .string (S nm), .string (S ty), .string (S ke), .int .i64 n] 32)).heap.size (w.alloc (.cells #[.int .i64 k, .int .i64 p, .int .i64 h, .string (S nm), .string (S ty), .string (S ke), .int .i64 n] 32)) W → Calls Tryz.prog 26 #[.string (S ty)] W fun e w' => e = .returned (.string (S (txt ty))) ∧ Below (w.alloc (.cells #[.int .i64 k, .int .i64 p, .int .i64 h, .string (S nm), .string (S ty), .string (S ke), .int .i64 n] 32)).heap.size (w.alloc (.cells #[.int .i64 k, .int .i64 p, .int .i64 h, .string (S nm), .string (S ty), .string (S ke), .int .i64 n] 32)) w' := fun W hW => (Text_any ty l4 W).mono fun e w' hh => ⟨hh.1, bel_of hW hh.2 (Nat.le_refl _)⟩
  have C5 : ∀ W, Below (w.alloc (.cells #[.int .i64 k, .int .i64 p, .int .i64 h, .string (S nm), .string (S ty), .string (S ke), .int .i64 n] 32)).heap.size (w.alloc (.cells #[.int .i64 k, .int .i64 p, .int .i64 h, .string (S nm), .string (S ty), .string (S ke), .int .i64 n] 32)) W → Calls Tryz.prog 26 #[.string (S ke)] W fun e w' => e = .returned (.string (S (txt ke))) ∧ Below (w.alloc (.cells #[.int .i64 k, .int .i64 p, .int .i64 h, .string (S nm), .string (S ty), .string (S ke), .int .i64 n] 32)).heap.size (w.alloc (.cells #[.int .i64 k, .int .i64 p, .int .i64 h, .string (S nm), .string (S ty), .string (S ke), .int .i64 n] 32)) w' := fun W hW => (Text_any ke l5 W).mono fun e w' hh => ⟨hh.1, bel_of hW hh.2 (Nat.le_refl _)⟩
  have C6 : ∀ W, Below (w.alloc (.cells #[.int .i64 k, .int .i64 p, .int .i64 h, .string (S nm), .string (S ty), .string (S ke), .int .i64 n] 32)).heap.size (w.alloc (.cells #[.int .i64 k, .int .i64 p, .int .i64 h, .string (S nm), .string (S ty), .string (S ke), .int .i64 n] 32)) W → Calls Tryz.prog 55 #[.int .i64 n] W fun e w' => e = .returned (.string (S (iB n))) ∧ Below (w.alloc (.cells #[.int .i64 k, .int .i64 p, .int .i64 h, .string (S nm), .string (S ty), .string (S ke), .int .i64 n] 32)).heap.size (w.alloc (.cells #[.int .i64 k, .int .i64 p, .int .i64 h, .string (S nm), .string (S ty), .string (S ke), .int .i64 n] 32)) w' := fun W hW => (Int_any n z7.1 z7.2 W).mono fun e w' hh => ⟨hh.1, bel_of hW hh.2 (Nat.le_refl _)⟩
  have CT : ∀ W, Below (w.alloc (.cells #[.int .i64 k, .int .i64 p, .int .i64 h, .string (S nm), .string (S ty), .string (S ke), .int .i64 n] 32)).heap.size (w.alloc (.cells #[.int .i64 k, .int .i64 p, .int .i64 h, .string (S nm), .string (S ty), .string (S ke), .int .i64 n] 32)) W → Calls Tryz.prog 25 #[.slice (some ⟨W.heap.size, 0, none⟩) 7 7] (W.alloc (.cells #[.string (S (iB k)), .string (S (iB p)), .string (S (iB h)), .string (S (txt nm)), .string (S (txt ty)), .string (S (txt ke)), .string (S (iB n))] 9)) fun e w' => e = .returned (.string (S (nBs ⟨k, p, h, nm, ty, ke, n⟩))) ∧ Below (w.alloc (.cells #[.int .i64 k, .int .i64 p, .int .i64 h, .string (S nm), .string (S ty), .string (S ke), .int .i64 n] 32)).heap.size (w.alloc (.cells #[.int .i64 k, .int .i64 p, .int .i64 h, .string (S nm), .string (S ty), .string (S ke), .int .i64 n] 32)) w' := fun W hW => (together_lit W (nPs ⟨k, p, h, nm, ty, ke, n⟩) (by show 7 ≤ 100; omega) (by unfold nBs at hl; omega) 9).mono fun e w' hh => ⟨hh.1, bel_of hW hh.2 (Nat.le_refl _)⟩
  unfold nA
  simp only
  clear hl z1 z2 z3 z4 z5 z6 z7 l3 l4 l5
  generalize nBs ⟨k, p, h, nm, ty, ke, n⟩ = r at *
  generalize S (iB k) = r0 at *
  generalize S (iB p) = r1 at *
  generalize S (iB h) = r2 at *
  generalize S (txt nm) = r3 at *
  generalize S (txt ty) = r4 at *
  generalize S (txt ke) = r5 at *
  generalize S (iB n) = r6 at *
  obtain ⟨c0, c1, c2, c3, c4, c5, c6⟩ := HS.out _ (Below.refl _ _)
  go_enter Tryz.func28, Tryz.ntmps28
  go_wp2
  generalize (w.alloc (.cells #[.int .i64 k, .int .i64 p, .int .i64 h, .string (S nm), .string (S ty), .string (S ke), .int .i64 n] 32)) = W1 at *
  go_region_held3 (fun W => W.cell? ⟨w.heap.size, 0, none⟩ = some (.int .i64 k) ∧ W.cell? ⟨w.heap.size, 1, none⟩ = some (.int .i64 p) ∧ W.cell? ⟨w.heap.size, 2, none⟩ = some (.int .i64 h) ∧ W.cell? ⟨w.heap.size, 3, none⟩ = some (.string (S nm)) ∧ W.cell? ⟨w.heap.size, 4, none⟩ = some (.string (S ty)) ∧ W.cell? ⟨w.heap.size, 5, none⟩ = some (.string (S ke)) ∧ W.cell? ⟨w.heap.size, 6, none⟩ = some (.int .i64 n))
    (first | go_keep | exact HS.out _ (Below.refl _ _) | exact HS.out _ (Below.refl _ _).drew | exact HS.out _ hX)
    (first
      | (go_at_call_of 54 (Value.int .i64 k); refine (C0 _ (by first | exact Below.refl _ _ | exact (Below.refl _ _).drew | exact hX)).mono ?_; rintro e u1 ⟨rfl, hX⟩; clear C0)
      | (go_at_call_of 54 (Value.int .i64 p); refine (C1 _ (by first | exact Below.refl _ _ | exact (Below.refl _ _).drew | exact hX)).mono ?_; rintro e u1 ⟨rfl, hX⟩; clear C1)
      | (go_at_call_of 54 (Value.int .i64 h); refine (C2 _ (by first | exact Below.refl _ _ | exact (Below.refl _ _).drew | exact hX)).mono ?_; rintro e u1 ⟨rfl, hX⟩; clear C2)
      | (go_at_call_of 26 (Value.string (S nm)); refine (C3 _ (by first | exact Below.refl _ _ | exact (Below.refl _ _).drew | exact hX)).mono ?_; rintro e u1 ⟨rfl, hX⟩; clear C3)
      | (go_at_call_of 26 (Value.string (S ty)); refine (C4 _ (by first | exact Below.refl _ _ | exact (Below.refl _ _).drew | exact hX)).mono ?_; rintro e u1 ⟨rfl, hX⟩; clear C4)
      | (go_at_call_of 26 (Value.string (S ke)); refine (C5 _ (by first | exact Below.refl _ _ | exact (Below.refl _ _).drew | exact hX)).mono ?_; rintro e u1 ⟨rfl, hX⟩; clear C5)
      | (go_at_call 55; refine (C6 _ (by first | exact Below.refl _ _ | exact (Below.refl _ _).drew | exact hX)).mono ?_; rintro e u1 ⟨rfl, hX⟩; clear C6)
      | (go_at_call 25; refine (CT _ (by first | exact Below.refl _ _ | exact (Below.refl _ _).drew | exact hX)).mono ?_; rintro e u1 ⟨rfl, hX⟩; (have B2 : Hid (Below w.heap.size w u1) := bel_of B1.out hX (Nat.le_refl _)); clear CT))
  all_goals
    go_wp2
    go_ret
    exact ⟨rfl, B2.out⟩

set_option maxRecDepth 100000 in
set_option maxHeartbeats 2000000 in
theorem flowBytes_any (x : Fl) (hz : Fz x) (hl : (fBs x).length ≤ 140737488355000) (w : World) : Calls Tryz.prog 30 #[fA x] w fun e w' => e = .returned (.string (S (fBs x))) ∧ Below w.heap.size w w' := by
  obtain ⟨a, z, cd⟩ := x
  obtain ⟨z1, z2, z3⟩ := hz
  simp only at z1 z2 z3
  have l3 : 10 + cd.length ≤ 140737488355328 := by
    have := piece_le (ls := fPs ⟨a, z, cd⟩) (x := txt cd) (by simp [fPs])
    have := txt_len cd
    unfold fBs at hl
    omega
  have hbs : w.heap.size < (w.alloc (.cells #[.int .i64 a, .int .i64 z, .string (S cd)] 37)).heap.size := by simp
  have HS : Hid (∀ W, Below (w.alloc (.cells #[.int .i64 a, .int .i64 z, .string (S cd)] 37)).heap.size (w.alloc (.cells #[.int .i64 a, .int .i64 z, .string (S cd)] 37)) W → W.cell? ⟨w.heap.size, 0, none⟩ = some (.int .i64 a) ∧ W.cell? ⟨w.heap.size, 1, none⟩ = some (.int .i64 z) ∧ W.cell? ⟨w.heap.size, 2, none⟩ = some (.string (S cd))) := fun W hW => ⟨(hW.cell (p := ⟨w.heap.size, 0, none⟩) hbs).trans (World.cell?_alloc_new _ _ _ _), (hW.cell (p := ⟨w.heap.size, 1, none⟩) hbs).trans (World.cell?_alloc_new _ _ _ _), (hW.cell (p := ⟨w.heap.size, 2, none⟩) hbs).trans (World.cell?_alloc_new _ _ _ _)⟩
  have B1 : Hid (Below w.heap.size w (w.alloc (.cells #[.int .i64 a, .int .i64 z, .string (S cd)] 37))) := (Below.refl _ w).alloc (Nat.le_refl _) _
  have C0 : ∀ W, Below (w.alloc (.cells #[.int .i64 a, .int .i64 z, .string (S cd)] 37)).heap.size (w.alloc (.cells #[.int .i64 a, .int .i64 z, .string (S cd)] 37)) W → Calls Tryz.prog 54 #[.int .i64 a] W fun e w' => e = .returned (.string (S (iB a))) ∧ Below (w.alloc (.cells #[.int .i64 a, .int .i64 z, .string (S cd)] 37)).heap.size (w.alloc (.cells #[.int .i64 a, .int .i64 z, .string (S cd)] 37)) w' := fun W hW => (number_any a z2.1 z2.2 W).mono fun e w' hh => ⟨hh.1, bel_of hW hh.2 (Nat.le_refl _)⟩
  have C1 : ∀ W, Below (w.alloc (.cells #[.int .i64 a, .int .i64 z, .string (S cd)] 37)).heap.size (w.alloc (.cells #[.int .i64 a, .int .i64 z, .string (S cd)] 37)) W → Calls Tryz.prog 54 #[.int .i64 z] W fun e w' => e = .returned (.string (S (iB z))) ∧ Below (w.alloc (.cells #[.int .i64 a, .int .i64 z, .string (S cd)] 37)).heap.size (w.alloc (.cells #[.int .i64 a, .int .i64 z, .string (S cd)] 37)) w' := fun W hW => (number_any z z3.1 z3.2 W).mono fun e w' hh => ⟨hh.1, bel_of hW hh.2 (Nat.le_refl _)⟩
  have C3 : ∀ W, Below (w.alloc (.cells #[.int .i64 a, .int .i64 z, .string (S cd)] 37)).heap.size (w.alloc (.cells #[.int .i64 a, .int .i64 z, .string (S cd)] 37)) W → Calls Tryz.prog 26 #[.string (S cd)] W fun e w' => e = .returned (.string (S (txt cd))) ∧ Below (w.alloc (.cells #[.int .i64 a, .int .i64 z, .string (S cd)] 37)).heap.size (w.alloc (.cells #[.int .i64 a, .int .i64 z, .string (S cd)] 37)) w' := fun W hW => (Text_any cd l3 W).mono fun e w' hh => ⟨hh.1, bel_of hW hh.2 (Nat.le_refl _)⟩
  have CT : ∀ W, Below (w.alloc (.cells #[.int .i64 a, .int .i64 z, .string (S cd)] 37)).heap.size (w.alloc (.cells #[.int .i64 a, .int .i64 z, .string (S cd)] 37)) W → Calls Tryz.prog 25 #[.slice (some ⟨W.heap.size, 0, none⟩) 3 3] (W.alloc (.cells #[.string (S (iB a)), .string (S (iB z)), .string (S (txt cd))] 9)) fun e w' => e = .returned (.string (S (fBs ⟨a, z, cd⟩))) ∧ Below (w.alloc (.cells #[.int .i64 a, .int .i64 z, .string (S cd)] 37)).heap.size (w.alloc (.cells #[.int .i64 a, .int .i64 z, .string (S cd)] 37)) w' := fun W hW => (together_lit W (fPs ⟨a, z, cd⟩) (by show 3 ≤ 100; omega) (by unfold fBs at hl; omega) 9).mono fun e w' hh => ⟨hh.1, bel_of hW hh.2 (Nat.le_refl _)⟩
  unfold fA
  simp only
  clear hl z1 z2 z3 l3
  generalize fBs ⟨a, z, cd⟩ = r at *
  generalize S (iB a) = r0 at *
  generalize S (iB z) = r1 at *
  generalize S (txt cd) = r3 at *
  obtain ⟨c0, c1, c2⟩ := HS.out _ (Below.refl _ _)
  go_enter Tryz.func30, Tryz.ntmps30
  go_wp2
  generalize (w.alloc (.cells #[.int .i64 a, .int .i64 z, .string (S cd)] 37)) = W1 at *
  go_region_held3 (fun W => W.cell? ⟨w.heap.size, 0, none⟩ = some (.int .i64 a) ∧ W.cell? ⟨w.heap.size, 1, none⟩ = some (.int .i64 z) ∧ W.cell? ⟨w.heap.size, 2, none⟩ = some (.string (S cd)))
    (first | go_keep | exact HS.out _ (Below.refl _ _) | exact HS.out _ (Below.refl _ _).drew | exact HS.out _ hX)
    (first
      | (go_at_call_of 54 (Value.int .i64 a); refine (C0 _ (by first | exact Below.refl _ _ | exact (Below.refl _ _).drew | exact hX)).mono ?_; rintro e u1 ⟨rfl, hX⟩; clear C0)
      | (go_at_call_of 54 (Value.int .i64 z); refine (C1 _ (by first | exact Below.refl _ _ | exact (Below.refl _ _).drew | exact hX)).mono ?_; rintro e u1 ⟨rfl, hX⟩; clear C1)
      | (go_at_call_of 26 (Value.string (S cd)); refine (C3 _ (by first | exact Below.refl _ _ | exact (Below.refl _ _).drew | exact hX)).mono ?_; rintro e u1 ⟨rfl, hX⟩; clear C3)
      | (go_at_call 25; refine (CT _ (by first | exact Below.refl _ _ | exact (Below.refl _ _).drew | exact hX)).mono ?_; rintro e u1 ⟨rfl, hX⟩; (have B2 : Hid (Below w.heap.size w u1) := bel_of B1.out hX (Nat.le_refl _)); clear CT))
  all_goals
    go_wp2
    go_ret
    exact ⟨rfl, B2.out⟩
end Go.Proofs.YtlmdoiagjepmbaaGreatDoor.m11

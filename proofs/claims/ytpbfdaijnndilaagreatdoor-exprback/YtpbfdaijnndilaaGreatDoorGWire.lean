/-
  Package wire: what is written, and read again.
-/
import Derived.Test.YtpbfdaijnndilaaGreatDoorProg
import Derived.WalkKit
import Derived.WalkSpells
import Derived.Lib.VarintMem
import Derived.Lib.Walk
import Derived.Lib.Zigzag
import Derived.Lib.AppendStr
import Derived.Lib.VarintBits
import Derived.Lib.VarintDec
import Derived.Shelf.Pu.Clone
namespace Go.Proofs.YtpbfdaijnndilaaGreatDoor
open Go.RowKit

theorem infoByte : (Tryz.prog.info? 5).map (fun i => (i.zero, i.size, i.bytes)) = some (some (.int .u8 0), 1, 1) := by kernel_rfl

/-- the string of a list of bytes -/
def S (l : List UInt8) : ByteArray := ⟨l.toArray⟩
theorem S_size (l : List UInt8) : (S l).size = l.length := by simp [S, ByteArray.size]
theorem S_list (l : List UInt8) : (S l).data.toList = l := by simp [S]
theorem S_toList (l : List UInt8) : (S l).toList = l := by simp [S]
theorem S_of (s : ByteArray) : S s.data.toList = s := by cases s; simp [S]

/-- string(b), b a row of the call's own -/
theorem conv_own {B n : Nat} {sv : Value} {l : List UInt8} {w : World} (hown : w.ownsRow B 5 1 sv n (Lib.byteCells l)) :
    (convert 141 9 sv).run Tryz.prog w = .ok (.string (S l)) w := by
  have hl := hown.1
  rw [Lib.byteCells_length, Nat.mul_one] at hl
  subst hl
  rcases hown.2 with ⟨rfl, h0⟩ | ⟨g, cap, cur, rfl, _, _, _, _, _, _⟩
  · have : l = [] := List.length_eq_zero_iff.1 h0
    subst this
    rw [run_convert_bytes_string w 141 9 5 none 0 0 Tryz.underlying141 Tryz.underlying5 Tryz.underlying9]
    simp [Conv.bytesToString, S]
    rfl
  · exact run_convert_bytes_back w 141 9 5 ⟨g, 0, none⟩ cap l Tryz.underlying141 Tryz.underlying5 Tryz.underlying9
      (fun j hj => hown.cells rfl j _ (by simp [Lib.byteCells, hj]))

/-- a text's bytes -/
def txt (l : List UInt8) : List UInt8 := Lib.uvarint l.length ++ l

theorem txt_length (l : List UInt8) : (txt l).length = (Lib.uvarint l.length).length + l.length := by simp [txt]

end Go.Proofs.YtpbfdaijnndilaaGreatDoor
namespace Go.Proofs.YtpbfdaijnndilaaGreatDoor
open Go.RowKit

/-- the reader that lies in block b has l left, and its error is e -/
structure Rd (w : World) (b : Nat) (l : List UInt8) (e : Nat) : Prop where
  rest : w.cell? ⟨b, 0, none⟩ = some (.string (S l))
  err : w.cell? ⟨b, 1, none⟩ = some (.int .i64 (e : Int))
  fr : w.frozen? ⟨b, 0, none⟩ = false
  fe : w.frozen? ⟨b, 1, none⟩ = false
  lt : b < w.heap.size

/-- but for block b all that was there is as it was -/
structure But (b : Nat) (w w' : World) : Prop where
  os : w'.os = w.os
  tape : w'.tape = w.tape
  output : w'.output = w.output
  size : w.heap.size ≤ w'.heap.size
  block : ∀ k, k < w.heap.size → k ≠ b → w'.heap[k]? = w.heap[k]?

theorem But.refl (b : Nat) (w : World) : But b w w := ⟨rfl, rfl, rfl, Nat.le_refl _, fun _ _ _ => rfl⟩
theorem But.trans {b : Nat} {u v w : World} (h : But b u v) (k : But b v w) : But b u w :=
  ⟨k.os.trans h.os, k.tape.trans h.tape, k.output.trans h.output, Nat.le_trans h.size k.size, fun i hi hb => (k.block i (Nat.lt_of_lt_of_le hi h.size) hb).trans (h.block i hi hb)⟩
theorem But.setCell {b : Nat} {u w : World} (h : But b u w) (o : Nat) (v : Value) : But b u (w.setCell ⟨b, o, none⟩ v) :=
  h.trans ⟨rfl, rfl, rfl, by simp [World.setCell], fun k _ hb => Below.heap_setCell _ _ _ _ hb⟩
theorem But.alloc {b : Nat} {u w : World} (h : But b u w) (o : Obj) : But b u (w.alloc o) :=
  h.trans ⟨rfl, rfl, rfl, by simp, fun k hk _ => Below.heap_alloc _ _ _ hk⟩
theorem But.drew {b : Nat} {u w : World} (h : But b u w) : But b u w.drew := ⟨h.os, h.tape, h.output, h.size, h.block⟩
theorem But.of_below {b : Nat} {w w' : World} (h : Below w.heap.size w w') : But b w w' := ⟨h.os, h.tape, h.output, h.size, fun k hk _ => h.block k hk⟩
theorem But.below {b B : Nat} {w w' : World} (h : But b w w') (hb : B ≤ b) (hw : B ≤ w.heap.size) : Below B w w' := ⟨h.os, h.tape, h.output, h.size, fun k hk => h.block k (by omega) (by omega)⟩
theorem But.cell {b : Nat} {w w' : World} (h : But b w w') {p : Addr} (hp : p.block < w.heap.size) (hb : p.block ≠ b) : w'.cell? p = w.cell? p := World.cell?_of_block (w := w) (h.block p.block hp hb)
theorem But.frozen {b : Nat} {w w' : World} (h : But b w w') {p : Addr} (hp : p.block < w.heap.size) (hb : p.block ≠ b) : w'.frozen? p = w.frozen? p := World.frozen?_of_block (w := w) (h.block p.block hp hb)
theorem Rd.below {B b e : Nat} {l : List UInt8} {w w' : World} (h : Rd w b l e) (hb : Below B w w') (hB : b < B) : Rd w' b l e :=
  ⟨(hb.cell (p := ⟨b, 0, none⟩) hB).trans h.rest, (hb.cell (p := ⟨b, 1, none⟩) hB).trans h.err, (hb.frozen (p := ⟨b, 0, none⟩) hB).trans h.fr, (hb.frozen (p := ⟨b, 1, none⟩) hB).trans h.fe, Nat.lt_of_lt_of_le h.lt hb.size⟩
theorem Rd.but {b c e : Nat} {l : List UInt8} {w w' : World} (h : Rd w b l e) (hb : But c w w') (hB : b ≠ c) : Rd w' b l e :=
  ⟨(hb.cell (p := ⟨b, 0, none⟩) h.lt hB).trans h.rest, (hb.cell (p := ⟨b, 1, none⟩) h.lt hB).trans h.err, (hb.frozen (p := ⟨b, 0, none⟩) h.lt hB).trans h.fr, (hb.frozen (p := ⟨b, 1, none⟩) h.lt hB).trans h.fe, Nat.lt_of_lt_of_le h.lt hb.size⟩

/-- a store into the reader's first field -/
theorem Rd.set0 {b e : Nat} {l : List UInt8} {w : World} (h : Rd w b l e) (l' : List UInt8) : Rd (w.setCell ⟨b, 0, none⟩ (.string (S l'))) b l' e := by
  have h0 := h.rest; have h1 := h.err; have f0 := h.fr; have f1 := h.fe; have hl := h.lt
  exact ⟨by go_simp, by go_simp, by go_simp, by go_simp, by simpa [World.setCell] using hl⟩
theorem Rd.set1 {b e : Nat} {l : List UInt8} {w : World} (h : Rd w b l e) (e' : Nat) : Rd (w.setCell ⟨b, 1, none⟩ (.int .i64 (e' : Int))) b l e' := by
  have h0 := h.rest; have h1 := h.err; have f0 := h.fr; have f1 := h.fe; have hl := h.lt
  exact ⟨by go_simp, by go_simp, by go_simp, by go_simp, by simpa [World.setCell] using hl⟩

theorem S_extract (c : UInt8) (t : List UInt8) : (S (c :: t)).extract 1 (S (c :: t)).size = S t := by
  apply ByteArray.ext
  rw [ByteArray.data_extract, S_size]
  simp [S]

/-- may a number end with byte c, i bytes ahead of it? -/
def mayEnd (i c : Nat) : Bool := if i = 9 then c == 1 else (i == 0 || decide (0 < c))

theorem ret_bool {a b : Bool} (h : a = b) : Ending.returned (.bool a) = .returned (.bool b) := by rw [h]
theorem beq_cast (a b : Nat) : ((a : Int) == (b : Int)) = (a == b) := by rw [Bool.eq_iff_iff]; simp; omega

/-- THE NUMBER that begins bytes (i bytes, which spell acc, are taken already): the number, what is left, why not (0: it is one). -/
def numb : Nat → Nat → List UInt8 → Nat × List UInt8 × Nat
  | i, _, [] => (0, [], if i = 10 then 3 else 2)
  | i, acc, c :: t =>
    if i = 10 then (0, c :: t, 3)
    else if 128 ≤ c.toNat then numb (i + 1) (acc + c.toNat % 128 * 2 ^ (i * 7)) t
    else if mayEnd i c.toNat then (acc + c.toNat % 128 * 2 ^ (i * 7), t, 0)
    else (0, t, 3)

/-- from the tenth byte on what was gathered does not count -/
theorem numb_ten (a a' : Nat) (l : List UInt8) : numb 10 a l = numb 10 a' l := by cases l <;> simp [numb]

/-- one byte's seven bits more -/
theorem or_step {k acc c : Nat} (hk : k ≤ 9) (hacc : acc < 2 ^ (k * 7)) (h9 : k = 9 → c % 128 ≤ 1) :
    bits .or .u64 (acc : Int) (IntKind.u64.wrap ((c : Int) % 128 * 2 ^ (k * 7))) = ((acc + c % 128 * 2 ^ (k * 7) : Nat) : Int) := by
  have hlt : c % 128 * 2 ^ (k * 7) < 18446744073709551616 := by
    have hs : k = 0 ∨ k = 1 ∨ k = 2 ∨ k = 3 ∨ k = 4 ∨ k = 5 ∨ k = 6 ∨ k = 7 ∨ k = 8 ∨ k = 9 := by omega
    rcases hs with rfl | rfl | rfl | rfl | rfl | rfl | rfl | rfl | rfl | rfl <;> simp <;> omega
  have hp : 2 ^ (k * 7) ≤ 2 ^ 63 := Nat.pow_le_pow_right (by decide) (by omega)
  have hacc2 : acc < 9223372036854775808 := Nat.lt_of_lt_of_le hacc hp
  have ecast : ((c : Int) % 128 * 2 ^ (k * 7)) = ((c % 128 * 2 ^ (k * 7) : Nat) : Int) := by simp
  rw [ecast, IntWalk.u64_in _ (by omega)]
  rw [bits_join_low .u64 64 (by decide) wraps_u64 (k * 7) _ _ (by omega) (by exact_mod_cast hacc) (by omega) (by omega) (by
    rw [show ((2 : Int) ^ (k * 7)) = ((2 ^ (k * 7) : Nat) : Int) by simp, ← Int.natCast_emod]
    simp) (by omega)]
  omega

theorem acc_step {k acc c : Nat} (hacc : acc < 2 ^ (k * 7)) : acc + c % 128 * 2 ^ (k * 7) < 2 ^ ((k + 1) * 7) := by
  have h1 : 2 ^ ((k + 1) * 7) = 128 * 2 ^ (k * 7) := by rw [Nat.add_mul, Nat.pow_add, Nat.mul_comm]
  have h2 : c % 128 * 2 ^ (k * 7) ≤ 127 * 2 ^ (k * 7) := Nat.mul_le_mul_right _ (by omega)
  omega

theorem or_nonneg (a b : Int) : 0 ≤ bits .or .u64 a b := by
  show 0 ≤ IntKind.u64.wrap _
  rw [IntKind.wrap_u64]
  omega

/-- a byte that goes on -/
theorem or_next {k acc c : Nat} (hk : k ≤ 9) (hacc : acc < 2 ^ (k * 7)) (t : List UInt8) :
    ∃ acc' : Nat, bits .or .u64 (acc : Int) (IntKind.u64.wrap ((c : Int) % 128 * 2 ^ (k * 7))) = (acc' : Int) ∧ (k + 1 < 10 → acc' < 2 ^ ((k + 1) * 7)) ∧
      numb (k + 1) (acc + c % 128 * 2 ^ (k * 7)) t = numb (k + 1) acc' t := by
  by_cases h9 : k = 9
  · subst h9
    obtain ⟨n, hn⟩ := Int.eq_ofNat_of_zero_le (or_nonneg (acc : Int) (IntKind.u64.wrap ((c : Int) % 128 * 2 ^ (9 * 7))))
    exact ⟨n, hn, fun h => by omega, numb_ten _ _ _⟩
  · exact ⟨_, or_step hk hacc (fun h => absurd h h9), fun _ => acc_step hacc, rfl⟩

end Go.Proofs.YtpbfdaijnndilaaGreatDoor
namespace Go.Proofs.YtpbfdaijnndilaaGreatDoor
open Go.RowKit

def endOf (l : List UInt8) (e : Nat) : Nat := if e = 0 then (if l = [] then 0 else 3) else e

/-- a number that is read fits -/
theorem numb_lt : ∀ (l : List UInt8) (i acc : Nat), i ≤ 10 → (i < 10 → acc < 2 ^ (i * 7)) → (numb i acc l).1 < 18446744073709551616
  | [], _, _, _, _ => by simp [numb]
  | c :: t, i, acc, hi, ha => by
    rw [numb]
    split
    · simp
    · rename_i h10
      have hacc := ha (by omega)
      split
      · obtain ⟨acc', _, h1, h2⟩ := or_next (c := c.toNat) (show i ≤ 9 by omega) hacc t
        rw [h2]
        exact numb_lt t (i + 1) acc' (by omega) h1
      · split
        · rename_i hm
          show acc + c.toNat % 128 * 2 ^ (i * 7) < 18446744073709551616
          by_cases h9 : i = 9
          · subst h9
            have h1 : c.toNat = 1 := by simpa [mayEnd] using hm
            rw [h1]
            have : acc < 9223372036854775808 := hacc
            omega
          · have h1 := acc_step (c := c.toNat) hacc
            have hp : 2 ^ ((i + 1) * 7) ≤ 2 ^ 63 := Nat.pow_le_pow_right (by decide) (by omega)
            have : acc + c.toNat % 128 * 2 ^ (i * 7) < 9223372036854775808 := Nat.lt_of_lt_of_le h1 hp
            omega
        · simp

theorem numb_lt0 {l rest : List UInt8} {v er : Nat} (h : Hid (numb 0 0 l = (v, rest, er))) : v < 18446744073709551616 := by
  have := numb_lt l 0 0 (by omega) (by simp)
  rw [h.out] at this
  exact this

end Go.Proofs.YtpbfdaijnndilaaGreatDoor
namespace Go.Proofs.YtpbfdaijnndilaaGreatDoor
open Go.RowKit

/-- A COUNT of at most 'most': the number, what is left, why not -/
def cnt (most : Int) (l : List UInt8) : Nat × List UInt8 × Nat :=
  if (numb 0 0 l).2.2 ≠ 0 then (0, (numb 0 0 l).2.1, (numb 0 0 l).2.2)
  else if most < ((numb 0 0 l).1 : Int) then (0, (numb 0 0 l).2.1, 13)
  else ((numb 0 0 l).1, (numb 0 0 l).2.1, 0)

/-- where the library's numbers of stringslite.Clone and its types lie in this program -/
def cloneRen : Shelf.Ren := ⟨fun _ => 166, fun
  | 0 => 0
  | 3 => 3
  | 4 => 4
  | 5 => 5
  | 9 => 9
  | 37 => 141
  | _ => 160, fun x => x⟩

theorem cloneLays : LaysPu.n25 Tryz.prog cloneRen where
  mixed := by kernel_rfl
  f25 := Tryz.func166.trans (by kernel_rfl)
  t0 := Tryz.underlying0
  a0 := Tryz.isAgg0
  z0 := Tryz.sizeOf0
  v0 := Tryz.zeroValue0
  i0 := by kernel_rfl
  t3 := Tryz.underlying3
  a3 := Tryz.isAgg3
  z3 := Tryz.sizeOf3
  v3 := Tryz.zeroValue3
  i3 := by kernel_rfl
  t4 := Tryz.underlying4
  a4 := Tryz.isAgg4
  z4 := Tryz.sizeOf4
  v4 := Tryz.zeroValue4
  i4 := by kernel_rfl
  t5 := Tryz.underlying5
  a5 := Tryz.isAgg5
  z5 := Tryz.sizeOf5
  v5 := Tryz.zeroValue5
  i5 := by kernel_rfl
  t9 := Tryz.underlying9
  a9 := Tryz.isAgg9
  z9 := Tryz.sizeOf9
  v9 := Tryz.zeroValue9
  i9 := by kernel_rfl
  t37 := Tryz.underlying141
  a37 := Tryz.isAgg141
  z37 := Tryz.sizeOf141
  v37 := Tryz.zeroValue141
  i37 := by kernel_rfl
  t47 := Tryz.underlying160
  a47 := Tryz.isAgg160
  z47 := Tryz.sizeOf160
  v47 := Tryz.zeroValue160
  i47 := by kernel_rfl

/-- stringslite.Clone, by the library's contract: the same bytes; of what was there nothing is changed -/
theorem cloneLite (s : ByteArray) (w : World) (hlim : s.size ≤ 281474976710656) :
    Calls Tryz.prog 166 #[.string s] w fun e w' => e = .returned (.string s) ∧ Below w.heap.size w w' := AnyPu.stringslite_Clone cloneLays s w hlim

/-- A TEXT of at most 'most' bytes: the text, what is left, why not -/
def tex (most : Int) (l : List UInt8) : List UInt8 × List UInt8 × Nat :=
  if (cnt most l).2.2 ≠ 0 then ([], (cnt most l).2.1, (cnt most l).2.2)
  else if (cnt most l).2.1.length < (cnt most l).1 then ([], (cnt most l).2.1, 2)
  else ((cnt most l).2.1.take (cnt most l).1, (cnt most l).2.1.drop (cnt most l).1, 0)

theorem S_take (l : List UInt8) (n : Nat) : (S l).extract 0 n = S (l.take n) := by
  apply ByteArray.ext
  rw [ByteArray.data_extract]
  simp [S]
theorem S_drop (l : List UInt8) (n : Nat) : (S l).extract n l.length = S (l.drop n) := by
  apply ByteArray.ext
  rw [ByteArray.data_extract]
  simp only [S, List.extract_toArray, List.extract_eq_take_drop]
  rw [List.take_of_length_le (by simp)]

theorem numb_le : ∀ (l : List UInt8) (i acc : Nat), (numb i acc l).2.1.length ≤ l.length
  | [], _, _ => by simp [numb]
  | c :: t, i, acc => by
    have ih := numb_le t (i + 1) (acc + c.toNat % 128 * 2 ^ (i * 7))
    rw [numb]
    split
    · simp
    · split
      · simp; omega
      · split <;> simp
theorem cnt_le (most : Int) (l : List UInt8) : (cnt most l).2.1.length ≤ l.length := by
  have := numb_le l 0 0
  unfold cnt
  split
  · exact this
  · split <;> exact this
theorem tex_le (most : Int) (l : List UInt8) : (tex most l).2.1.length ≤ l.length := by
  have := cnt_le most l
  unfold tex
  split
  · exact this
  · split
    · exact this
    · simp; omega

theorem cnt_most (most : Int) (l : List UInt8) : (cnt most l).1 = 0 ∨ ((cnt most l).1 : Int) ≤ most := by
  unfold cnt
  split
  · exact .inl rfl
  · split
    · exact .inl rfl
    · exact .inr (by simp only; omega)

end Go.Proofs.YtpbfdaijnndilaaGreatDoor
namespace Go.Proofs.YtpbfdaijnndilaaGreatDoor
open Go.RowKit

theorem Rd.alloc {b e : Nat} {l : List UInt8} {w : World} (h : Rd w b l e) (o : Obj) : Rd (w.alloc o) b l e :=
  h.below ((Below.refl w.heap.size w).alloc (Nat.le_refl _) o) h.lt

end Go.Proofs.YtpbfdaijnndilaaGreatDoor
namespace Go.Proofs.YtpbfdaijnndilaaGreatDoor
open Go.RowKit

/-- v is a slice of the strings ls -/
def Strs (w : World) (v : Value) (ls : List (List UInt8)) : Prop :=
  ∃ a cap, v = .slice a ls.length cap ∧ (ls = [] ∨ ∃ b off, a = some ⟨b, off, none⟩ ∧ b < w.heap.size ∧ ∀ j, j < ls.length → w.cell? ⟨b, off + j, none⟩ = some (.string (S (ls.getD j []))))

theorem Strs.below {B : Nat} {w w' : World} {v : Value} {ls : List (List UInt8)} (h : Strs w v ls) (hb : Below B w w') (hB : w.heap.size ≤ B) : Strs w' v ls := by
  obtain ⟨a, cap, rfl, h⟩ := h
  refine ⟨a, cap, rfl, ?_⟩
  rcases h with h | ⟨b, off, rfl, hlt, hc⟩
  · exact .inl h
  · exact .inr ⟨b, off, rfl, Nat.lt_of_lt_of_le hlt hb.size, fun j hj => (hb.cell (p := ⟨b, off + j, none⟩) (Nat.lt_of_lt_of_le hlt hB)).trans (hc j hj)⟩

/-- texts one behind the other -/
def cat (ls : List (List UInt8)) : List UInt8 := (ls.map txt).flatten
/-- a list's bytes -/
def lst (ls : List (List UInt8)) : List UInt8 := Lib.uvarint ls.length ++ cat ls

theorem cat_snoc (ls : List (List UInt8)) (k : Nat) (hk : k < ls.length) : cat (ls.take (k + 1)) = cat (ls.take k) ++ txt (ls.getD k []) := by
  have hg : ls.getD k [] = ls[k] := by simp [List.getD, hk]
  unfold cat
  rw [hg, List.take_succ_eq_append_getElem hk, List.map_append, List.flatten_append]
  simp only [List.map_cons, List.map_nil, List.flatten_cons, List.flatten_nil, List.append_nil]
theorem cat_take_le (ls : List (List UInt8)) (k : Nat) : (cat (ls.take k)).length ≤ (cat ls).length := by
  have h : cat ls = cat (ls.take k) ++ cat (ls.drop k) := by
    unfold cat
    rw [← List.flatten_append, ← List.map_append, List.take_append_drop]
  rw [h]
  simp
theorem txt_ge (l : List UInt8) : l.length + 1 ≤ (txt l).length := by
  have := Lib.uvarint_pos l.length
  rw [txt_length]
  omega
theorem cat_len (ls : List (List UInt8)) : ls.length ≤ (cat ls).length := by
  induction ls with
  | nil => simp
  | cons s t ih =>
    have := txt_ge s
    simp only [cat, List.map_cons, List.flatten_cons, List.length_append, List.length_cons] at ih ⊢
    omega

end Go.Proofs.YtpbfdaijnndilaaGreatDoor
namespace Go.Proofs.YtpbfdaijnndilaaGreatDoor
open Go.RowKit

theorem infoStr : (Tryz.prog.info? 9).map (fun i => (i.zero, i.size, i.bytes)) = some (some (.string ⟨#[]⟩), 1, 16) := by kernel_rfl

/-- strings as cells -/
def strCs (ss : List (List UInt8)) : List Value := ss.map fun s => .string (S s)
theorem strCs_snoc (ss : List (List UInt8)) (s : List UInt8) : strCs (ss ++ [s]) = strCs ss ++ [.string (S s)] := by simp [strCs]
theorem strCs_length (ss : List (List UInt8)) : (strCs ss).length = ss.length := by simp [strCs]

theorem ownsRow_but {w w' : World} {base b : Nat} {t : TypeId} {size : Nat} {v : Value} {n : Nat} {xs : List Value} (h : w.ownsRow base t size v n xs) (hb : But b w w') (hlt : b < base) : w'.ownsRow base t size v n xs := by
  obtain ⟨h1, h2⟩ := h
  refine ⟨h1, ?_⟩
  rcases h2 with h2 | ⟨g, cap, cur, hv, hg, hh, r⟩
  · exact .inl h2
  · have hgs : g < w.heap.size := by
      rcases Nat.lt_or_ge g w.heap.size with h | h
      · exact h
      · rw [Array.getElem?_eq_none h] at hh; cases hh
    exact .inr ⟨g, cap, cur, hv, hg, by rw [hb.block g hgs (by omega)]; exact hh, r⟩

theorem But.grown {b : Nat} {w0 w w' : World} {row : Option Nat} (h : But b w0 w) (hg : w.grownBy w' row) (hr : ∀ k, row = some k → w0.heap.size ≤ k) : But b w0 w' :=
  ⟨hg.os.trans h.os, hg.tape.trans h.tape, hg.output.trans h.output, Nat.le_trans h.size hg.size, fun k hk hb => (hg.block k (Nat.lt_of_lt_of_le hk h.size) (fun e => by have := hr k e.symm; omega)).trans (h.block k hk hb)⟩
theorem Rd.of_block {b e : Nat} {l : List UInt8} {w w' : World} (h : Rd w b l e) (hb : w'.heap[b]? = w.heap[b]?) (hs : w.heap.size ≤ w'.heap.size) : Rd w' b l e :=
  ⟨(World.cell?_of_block (w := w) (a := ⟨b, 0, none⟩) hb).trans h.rest, (World.cell?_of_block (w := w) (a := ⟨b, 1, none⟩) hb).trans h.err, (World.frozen?_of_block (w := w) (a := ⟨b, 0, none⟩) hb).trans h.fr, (World.frozen?_of_block (w := w) (a := ⟨b, 1, none⟩) hb).trans h.fe, Nat.lt_of_lt_of_le h.lt hs⟩

/-- TEXTS, n of them, behind those that are taken: the texts, what is left, why not -/
def texs (most : Int) : Nat → List (List UInt8) → List UInt8 → List (List UInt8) × List UInt8 × Nat
  | 0, acc, l => (acc, l, 0)
  | n + 1, acc, l => if (tex most l).2.2 ≠ 0 then ([], (tex most l).2.1, (tex most l).2.2) else texs most n (acc ++ [(tex most l).1]) (tex most l).2.1
/-- A LIST of at most 'many' texts of at most 'most' bytes -/
def lis (many most : Int) (l : List UInt8) : List (List UInt8) × List UInt8 × Nat :=
  if (cnt many l).2.2 ≠ 0 then ([], (cnt many l).2.1, (cnt many l).2.2) else texs most (cnt many l).1 [] (cnt many l).2.1

theorem numb_less : ∀ (l : List UInt8) (i acc : Nat), (numb i acc l).2.2 = 0 → (numb i acc l).2.1.length + 1 ≤ l.length
  | [], i, _ => by simp only [numb]; intro h; split at h <;> simp at h
  | c :: t, i, acc => by
    have ih := numb_less t (i + 1) (acc + c.toNat % 128 * 2 ^ (i * 7))
    rw [numb]
    split
    · simp
    · split
      · intro h; have := ih h; simp; omega
      · split <;> simp
theorem cnt_less {most : Int} {l : List UInt8} (h : (cnt most l).2.2 = 0) : (cnt most l).2.1.length + 1 ≤ l.length := by
  have := numb_less l 0 0
  unfold cnt at h ⊢
  split at h
  · rename_i h1; exact absurd h h1
  · split at h
    · simp at h
    · rename_i h1 h2
      rw [if_neg h1, if_neg h2]
      exact this (by simpa using h1)
theorem tex_less {most : Int} {l : List UInt8} (h : (tex most l).2.2 = 0) : (tex most l).2.1.length + 1 ≤ l.length := by
  unfold tex at h ⊢
  split at h
  · rename_i h1; exact absurd h h1
  · split at h
    · simp at h
    · rename_i h1 h2
      rw [if_neg h1, if_neg h2]
      have := cnt_less (most := most) (l := l) (by simpa using h1)
      simp; omega

theorem Strs.of_own {w : World} {base : Nat} {v : Value} {ss : List (List UInt8)} (h : w.ownsRow base 9 1 v ss.length (strCs ss)) : Strs w v ss := by
  have hcs := fun g => h.cells (g := g)
  have hlt := h.lt
  rcases h.2 with ⟨rfl, h0⟩ | ⟨g, cap, cur, rfl, _⟩
  · have : ss = [] := List.length_eq_zero_iff.1 h0
    subst this
    exact ⟨none, 0, rfl, .inl rfl⟩
  · refine ⟨some ⟨g, 0, none⟩, cap, rfl, .inr ⟨g, 0, rfl, (hlt g rfl).2, fun j hj => ?_⟩⟩
    have := hcs g rfl j (.string (S (ss.getD j []))) (by simp [strCs, List.getD, hj])
    rw [Addr.add_lit] at this
    exact this

/-- three new blocks: what they hold -/
theorem three (w : World) (x y z : Value) (p q r : TypeId) :
    (((w.alloc (.cells #[x] p)).alloc (.cells #[y] q)).alloc (.cells #[z] r)).cell? ⟨w.heap.size, 0, none⟩ = some x ∧
    (((w.alloc (.cells #[x] p)).alloc (.cells #[y] q)).alloc (.cells #[z] r)).cell? ⟨w.heap.size + 1, 0, none⟩ = some y ∧
    (((w.alloc (.cells #[x] p)).alloc (.cells #[y] q)).alloc (.cells #[z] r)).cell? ⟨w.heap.size + 1 + 1, 0, none⟩ = some z := by
  refine ⟨?_, ?_, ?_⟩
  · rw [World.cell?_alloc_past _ _ _ (by simp; omega), World.cell?_alloc_past _ _ _ (by simp)]
    simp
  · rw [World.cell?_alloc_past _ _ _ (by simp), World.cell?_alloc_at _ _ _ _ (by simp)]
    rfl
  · rw [World.cell?_alloc_at _ _ _ _ (by simp)]
    rfl

end Go.Proofs.YtpbfdaijnndilaaGreatDoor
namespace Go.Proofs.YtpbfdaijnndilaaGreatDoor
open Go.RowKit

theorem pow_step (i : Nat) : 2 ^ ((i + 1) * 7) = 128 * 2 ^ (i * 7) := by rw [Nat.add_mul, Nat.pow_add, Nat.mul_comm]

theorem byte_big (y : Nat) : ((y % 128 + 128).toUInt8).toNat = y % 128 + 128 := Lib.toUInt8_toNat (by omega)
theorem byte_small {y : Nat} (h : y < 128) : (y.toUInt8).toNat = y := Lib.toUInt8_toNat (by omega)

/-- what was written is read, whatever follows -/
theorem numb_back : ∀ (f y i acc : Nat) (more : List UInt8), y < 128 ^ (f + 1) → y * 2 ^ (i * 7) < 18446744073709551616 → i ≤ 9 → (i = 0 ∨ 0 < y) →
    numb i acc (Lib.uvarint y ++ more) = (acc + y * 2 ^ (i * 7), more, 0)
  | f, y, i, acc, more, hf, hy, hi, h0 => by
    by_cases h128 : y < 128
    · rw [Lib.uvarint_small h128, List.singleton_append, numb, if_neg (by omega), byte_small h128, if_neg (by omega)]
      have hm : mayEnd i y = true := by
        unfold mayEnd
        split
        · rename_i h9
          subst h9
          have : y < 2 := by
            rcases Nat.lt_or_ge y 2 with h | h
            · exact h
            · have : 2 * 2 ^ (9 * 7) ≤ y * 2 ^ (9 * 7) := Nat.mul_le_mul_right _ h
              have e : 2 * 2 ^ (9 * 7) = 18446744073709551616 := by decide
              omega
          simp; omega
        · rcases h0 with h | h
          · simp [h]
          · simp [h]
      rw [if_pos hm, Nat.mod_eq_of_lt h128]
    · match f, hf with
      | 0, hf => simp at hf; omega
      | f + 1, hf =>
        have hp := pow_step i
        have hdm : y = 128 * (y / 128) + y % 128 := (Nat.div_add_mod y 128).symm
        have hmul : y * 2 ^ (i * 7) = (y / 128) * (128 * 2 ^ (i * 7)) + y % 128 * 2 ^ (i * 7) := by
          rw [← Nat.mul_assoc, ← Nat.add_mul, Nat.mul_comm (y / 128) 128, ← hdm]
        have hi9 : i + 1 ≤ 9 := by
          rcases Nat.lt_or_ge i 9 with h | h
          · omega
          · have e : i = 9 := by omega
            subst e
            have h1 : 128 * 2 ^ (9 * 7) ≤ y * 2 ^ (9 * 7) := Nat.mul_le_mul_right _ (by omega)
            have e2 : 128 * 2 ^ (9 * 7) = 1180591620717411303424 := by decide
            omega
        rw [Lib.uvarint_big (by omega), List.cons_append, numb, if_neg (by omega), byte_big, if_pos (by omega)]
        rw [numb_back f (y / 128) (i + 1) _ more (by rw [Nat.pow_succ] at hf; exact Nat.div_lt_of_lt_mul (by rw [Nat.mul_comm]; exact hf)) (by rw [hp]; omega) hi9 (.inr (by omega))]
        rw [hp]
        have e : (y % 128 + 128) % 128 = y % 128 := by omega
        rw [e, hmul]
        simp only [Prod.mk.injEq, and_true]
        omega

theorem numb_back0 {v : Nat} (hv : v < 18446744073709551616) (more : List UInt8) : numb 0 0 (Lib.uvarint v ++ more) = (v, more, 0) := by
  have h := numb_back 9 v 0 0 more (Nat.lt_of_lt_of_le hv (by decide)) (by simpa using hv) (by omega) (.inl rfl)
  simpa using h

/-- no beginning of a number is one -/
theorem numb_cut : ∀ (f y i acc k : Nat), y < 128 ^ (f + 1) → i + f ≤ 9 → k < (Lib.uvarint y).length → numb i acc ((Lib.uvarint y).take k) = (0, [], 2)
  | f, y, i, acc, 0, _, hi, _ => by rw [List.take_zero, numb, if_neg (by omega)]
  | f, y, i, acc, k + 1, hf, hi, hk => by
    by_cases h128 : y < 128
    · rw [Lib.uvarint_small h128] at hk; simp at hk
    · match f, hf with
      | 0, hf => simp at hf; omega
      | f + 1, hf =>
        rw [Lib.uvarint_big (by omega)] at hk ⊢
        rw [List.take_succ_cons, numb, if_neg (by omega), byte_big, if_pos (by omega)]
        exact numb_cut f (y / 128) (i + 1) _ k (by rw [Nat.pow_succ] at hf; exact Nat.div_lt_of_lt_mul (by rw [Nat.mul_comm]; exact hf)) (by omega) (by simpa using hk)

theorem numb_cut0 {v k : Nat} (hv : v < 18446744073709551616) (hk : k < (Lib.uvarint v).length) : numb 0 0 ((Lib.uvarint v).take k) = (0, [], 2) :=
  numb_cut 9 v 0 0 k (Nat.lt_of_lt_of_le hv (by decide)) (by omega) hk

/-- there is one form -/
theorem numb_one : ∀ (l : List UInt8) (i acc v : Nat) (rest : List UInt8), numb i acc l = (v, rest, 0) → ∃ y, l = Lib.uvarint y ++ rest ∧ v = acc + y * 2 ^ (i * 7) ∧ (i = 0 ∨ 0 < y)
  | [], i, acc, v, rest, h => by
    rw [numb] at h
    simp only [Prod.mk.injEq] at h
    have := h.2.2
    split at this <;> omega
  | c :: t, i, acc, v, rest, h => by
    have hc := c.toNat_lt
    rw [numb] at h
    split at h
    · simp at h
    · split at h
      · rename_i h128
        obtain ⟨y, ht, hv, hy⟩ := numb_one t (i + 1) _ v rest h
        have hy0 : 0 < y := by rcases hy with h | h <;> omega
        refine ⟨c.toNat % 128 + 128 * y, ?_, ?_, .inr (by omega)⟩
        · rw [Lib.uvarint_big (by omega), show (c.toNat % 128 + 128 * y) / 128 = y from by omega, ht, List.cons_append]
          congr 1
          apply UInt8.toNat_inj.1
          rw [byte_big]
          omega
        · rw [hv, pow_step, Nat.add_mul, Nat.mul_comm 128 y, Nat.mul_assoc]
          omega
      · rename_i h128
        split at h
        · rename_i hm
          simp only [Prod.mk.injEq, and_true] at h
          obtain ⟨rfl, rfl⟩ := h
          refine ⟨c.toNat, ?_, by rw [Nat.mod_eq_of_lt (by omega)], ?_⟩
          · rw [Lib.uvarint_small (by omega), List.singleton_append]
            congr 1
            apply UInt8.toNat_inj.1
            rw [byte_small (by omega)]
          · unfold mayEnd at hm
            split at hm
            · right; have : c.toNat = 1 := by simpa using hm
              omega
            · simpa using hm
        · simp at h

theorem numb_one0 {l rest : List UInt8} {v : Nat} (h : numb 0 0 l = (v, rest, 0)) : l = Lib.uvarint v ++ rest := by
  obtain ⟨y, h1, h2, _⟩ := numb_one l 0 0 v rest h
  simp at h2
  rw [h1, h2]

theorem cnt_back {n : Nat} {many : Int} (hn : n < 18446744073709551616) (hm : (n : Int) ≤ many) (more : List UInt8) : cnt many (Lib.uvarint n ++ more) = (n, more, 0) := by
  unfold cnt
  rw [numb_back0 hn]
  simp
  omega
theorem tex_back {s : List UInt8} {most : Int} (hs : s.length < 18446744073709551616) (hm : (s.length : Int) ≤ most) (more : List UInt8) : tex most (txt s ++ more) = (s, more, 0) := by
  unfold tex txt
  rw [List.append_assoc, cnt_back hs hm]
  simp
theorem cat_cons (s : List UInt8) (ls : List (List UInt8)) : cat (s :: ls) = txt s ++ cat ls := by simp [cat]
theorem texs_back {most : Int} : ∀ (ls acc : List (List UInt8)) (more : List UInt8), (∀ s ∈ ls, s.length < 18446744073709551616 ∧ (s.length : Int) ≤ most) → texs most ls.length acc (cat ls ++ more) = (acc ++ ls, more, 0)
  | [], acc, more, _ => by simp [texs, cat]
  | s :: ls, acc, more, h => by
    have hs := h s (by simp)
    rw [List.length_cons, texs, cat_cons, List.append_assoc, tex_back hs.1 hs.2]
    rw [if_neg (by simp)]
    rw [texs_back ls (acc ++ [s]) more (fun t ht => h t (by simp [ht]))]
    simp
theorem lis_back {ls : List (List UInt8)} {many most : Int} (hn : ls.length < 18446744073709551616) (hmany : (ls.length : Int) ≤ many) (h : ∀ s ∈ ls, s.length < 18446744073709551616 ∧ (s.length : Int) ≤ most) (more : List UInt8) : lis many most (lst ls ++ more) = (ls, more, 0) := by
  unfold lis lst
  rw [List.append_assoc, cnt_back hn hmany]
  rw [if_neg (by simp), texs_back ls [] more h]
  simp

theorem take_over {a b : List UInt8} {k : Nat} (h : a.length ≤ k) : (a ++ b).take k = a ++ b.take (k - a.length) := by
  rw [List.take_append, List.take_of_length_le h]
theorem take_under {a b : List UInt8} {k : Nat} (h : k < a.length) : (a ++ b).take k = a.take k := by
  rw [List.take_append, show k - a.length = 0 from by omega, List.take_zero, List.append_nil]

theorem cnt_cut {n k : Nat} {many : Int} (hn : n < 18446744073709551616) (hk : k < (Lib.uvarint n).length) : (cnt many ((Lib.uvarint n).take k)).2.2 = 2 := by
  unfold cnt
  rw [numb_cut0 hn hk]
  simp
theorem tex_cut {s : List UInt8} {k : Nat} {most : Int} (hs : s.length < 18446744073709551616) (hm : (s.length : Int) ≤ most) (hk : k < (txt s).length) : (tex most ((txt s).take k)).2.2 = 2 := by
  have hl := txt_length s
  unfold txt
  by_cases h : k < (Lib.uvarint s.length).length
  · rw [take_under h]
    unfold tex
    rw [if_pos (by rw [cnt_cut hs h]; decide)]
    exact cnt_cut hs h
  · rw [take_over (by omega)]
    unfold tex
    rw [cnt_back hs hm]
    rw [if_neg (by simp), if_pos (by simp only [List.length_take]; omega)]
theorem texs_cut {most : Int} : ∀ (ls acc : List (List UInt8)) (k : Nat), (∀ s ∈ ls, s.length < 18446744073709551616 ∧ (s.length : Int) ≤ most) → k < (cat ls).length → (texs most ls.length acc ((cat ls).take k)).2.2 = 2
  | [], acc, k, _, hk => by simp [cat] at hk
  | s :: ls, acc, k, h, hk => by
    have hs := h s (by simp)
    rw [List.length_cons, texs, cat_cons]
    rw [cat_cons, List.length_append] at hk
    by_cases hc : k < (txt s).length
    · rw [take_under hc, if_pos (by rw [tex_cut hs.1 hs.2 hc]; decide)]
      exact tex_cut hs.1 hs.2 hc
    · rw [take_over (by omega), tex_back hs.1 hs.2, if_neg (by simp)]
      exact texs_cut ls _ _ (fun t ht => h t (by simp [ht])) (by omega)
theorem lis_cut {ls : List (List UInt8)} {k : Nat} {many most : Int} (hn : ls.length < 18446744073709551616) (hmany : (ls.length : Int) ≤ many) (h : ∀ s ∈ ls, s.length < 18446744073709551616 ∧ (s.length : Int) ≤ most) (hk : k < (lst ls).length) : (lis many most ((lst ls).take k)).2.2 = 2 := by
  unfold lst at hk ⊢
  rw [List.length_append] at hk
  by_cases hc : k < (Lib.uvarint ls.length).length
  · rw [take_under hc]
    unfold lis
    rw [if_pos (by rw [cnt_cut hn hc]; decide)]
    exact cnt_cut hn hc
  · rw [take_over (by omega)]
    unfold lis
    rw [cnt_back hn hmany, if_neg (by simp)]
    exact texs_cut ls [] _ h (by omega)

theorem unzig (v : Int) : Lib.unzigzag (Lib.zigzag v) = v := by
  unfold Lib.zigzag
  split
  · unfold Lib.unzigzag
    rw [if_pos (by omega)]
    omega
  · unfold Lib.unzigzag
    rw [if_neg (by omega)]
    omega

end Go.Proofs.YtpbfdaijnndilaaGreatDoor
namespace Go.Proofs.YtpbfdaijnndilaaGreatDoor
open Go.RowKit

theorem ownsRow_mono {w : World} {base base' : Nat} {t : TypeId} {size : Nat} {v : Value} {n : Nat} {xs : List Value} (h : w.ownsRow base t size v n xs) (hb : base' ≤ base) : w.ownsRow base' t size v n xs := by
  obtain ⟨h1, h2⟩ := h
  refine ⟨h1, ?_⟩
  rcases h2 with h2 | ⟨g, cap, cur, hv, hg, r⟩
  · exact .inl h2
  · exact .inr ⟨g, cap, cur, hv, Nat.le_trans hb hg, r⟩

end Go.Proofs.YtpbfdaijnndilaaGreatDoor
namespace Go.Proofs.YtpbfdaijnndilaaGreatDoor
open Go.RowKit

theorem S_get {l t : List UInt8} {c : UInt8} {k : Nat} (h : l.drop k = c :: t) (hk : k < (S l).size) : (S l)[k]'hk = c := by
  have hk2 : k < l.length := by rw [S_size] at hk; exact hk
  have h1 : l[k] = c := by
    have := List.getElem_drop (xs := l) (i := k) (j := 0) (h := by rw [h]; simp)
    simp [h] at this
    exact this.symm
  rw [← h1]
  rfl

theorem drop_step {l t : List UInt8} {c : UInt8} {k : Nat} (h : l.drop k = c :: t) : k < l.length ∧ l.drop (k + 1) = t ∧ t.length + (k + 1) = l.length := by
  have h1 : k < l.length := by
    rcases Nat.lt_or_ge k l.length with h2 | h2
    · exact h2
    · rw [List.drop_eq_nil_of_le h2] at h; cases h
  have h3 : l.drop (k + 1) = t := by
    rw [List.drop_eq_getElem_cons h1] at h
    exact (List.cons.inj h).2
  refine ⟨h1, h3, ?_⟩
  rw [← h3, List.length_drop]
  omega

/-- A NUMBER, of a reader with l left and error e: the number, what is left then, its error then -/
def rdU (l : List UInt8) (e : Nat) : Nat × List UInt8 × Nat :=
  if e = 0 then (if (numb 0 0 l).2.2 = 0 then ((numb 0 0 l).1, (numb 0 0 l).2.1, 0) else (0, l, (numb 0 0 l).2.2)) else (0, l, e)

theorem drop_rest {l rest : List UInt8} {v : Nat} (h : numb 0 0 l = (v, rest, 0)) : (S l).extract (l.length - rest.length) l.length = S rest ∧ rest.length ≤ l.length := by
  have h1 := numb_one0 h
  have h2 : l.length = (Lib.uvarint v).length + rest.length := by rw [h1, List.length_append]
  refine ⟨?_, by omega⟩
  rw [S_drop, show l.length - rest.length = (Lib.uvarint v).length from by omega]
  conv => lhs; rw [h1]
  rw [List.drop_left]

theorem rdU_lt {l l2 : List UInt8} {e v e2 : Nat} (h : Hid (rdU l e = (v, l2, e2))) : v < 18446744073709551616 := by
  have hr := h.out
  unfold rdU at hr
  have hn := numb_lt l 0 0 (by omega) (by simp)
  split at hr
  · split at hr
    · simp only [Prod.mk.injEq] at hr; omega
    · simp only [Prod.mk.injEq] at hr; omega
  · simp only [Prod.mk.injEq] at hr; omega

end Go.Proofs.YtpbfdaijnndilaaGreatDoor
namespace Go.Proofs.YtpbfdaijnndilaaGreatDoor
open Go.RowKit

theorem unzig0 : Lib.unzigzag 0 = 0 := rfl

/-- A BYTE -/
def rdB (l : List UInt8) (e : Nat) : Nat × List UInt8 × Nat :=
  if e = 0 then (match l with
    | [] => (0, [], 2)
    | c :: t => (c.toNat, t, 0)) else (0, l, e)

/-- A TEXT -/
def rdT (most : Int) (l : List UInt8) (e : Nat) : List UInt8 × List UInt8 × Nat :=
  if e = 0 then (if (tex most l).2.2 = 0 then ((tex most l).1, (tex most l).2.1, 0) else ([], l, (tex most l).2.2)) else ([], l, e)

/-- what rdU says where rdT goes on from it -/
theorem rdU_of {l rest : List UInt8} {v f : Nat} (h : numb 0 0 l = (v, rest, f)) : rdU l 0 = if f = 0 then (v, rest, 0) else (0, l, f) := by
  unfold rdU
  rw [h, if_pos rfl]

end Go.Proofs.YtpbfdaijnndilaaGreatDoor

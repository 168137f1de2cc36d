/-
  Contracts of package wire's reader (takeByte, mayEnd, takeUint ..): what is taken, what is left, and why not, told by functions on lists of bytes; but for the reader's own block nothing that was there before the call is changed.
-/
import Derived.Test.YtaahmnkfjkbliabDoorWrites
import Derived.Lib.VarintBits
import Derived.Lib.VarintDec
namespace Go.Proofs.YtaahmnkfjkbliabDoor
open Go.RowKit

/-- the reader that lies in block b has l left, and its error is e -/
structure Rd (w : World) (b : Nat) (l : List UInt8) (e : Nat) : Prop where
  rest : w.cell? ⟨b, 0, none⟩ = some (.string (S l))
  err : w.cell? ⟨b, 1, none⟩ = some (.int .i64 (e : Int))
  fr : w.frozen? ⟨b, 0, none⟩ = false
  fe : w.frozen? ⟨b, 1, none⟩ = false
  lt : b < w.heap.size

/-- but for block b all that was there is as it was -/
structure But (b : Nat) (w w' : World) : Prop where
  os : w'.os = w.os
  tape : w'.tape = w.tape
  output : w'.output = w.output
  size : w.heap.size ≤ w'.heap.size
  block : ∀ k, k < w.heap.size → k ≠ b → w'.heap[k]? = w.heap[k]?

theorem But.refl (b : Nat) (w : World) : But b w w := ⟨rfl, rfl, rfl, Nat.le_refl _, fun _ _ _ => rfl⟩
theorem But.trans {b : Nat} {u v w : World} (h : But b u v) (k : But b v w) : But b u w :=
  ⟨k.os.trans h.os, k.tape.trans h.tape, k.output.trans h.output, Nat.le_trans h.size k.size, fun i hi hb => (k.block i (Nat.lt_of_lt_of_le hi h.size) hb).trans (h.block i hi hb)⟩
theorem But.setCell {b : Nat} {u w : World} (h : But b u w) (o : Nat) (v : Value) : But b u (w.setCell ⟨b, o, none⟩ v) :=
  h.trans ⟨rfl, rfl, rfl, by simp [World.setCell], fun k _ hb => Below.heap_setCell _ _ _ _ hb⟩
theorem But.alloc {b : Nat} {u w : World} (h : But b u w) (o : Obj) : But b u (w.alloc o) :=
  h.trans ⟨rfl, rfl, rfl, by simp, fun k hk _ => Below.heap_alloc _ _ _ hk⟩
theorem But.drew {b : Nat} {u w : World} (h : But b u w) : But b u w.drew := ⟨h.os, h.tape, h.output, h.size, h.block⟩
theorem But.of_below {b : Nat} {w w' : World} (h : Below w.heap.size w w') : But b w w' := ⟨h.os, h.tape, h.output, h.size, fun k hk _ => h.block k hk⟩
theorem But.below {b B : Nat} {w w' : World} (h : But b w w') (hb : B ≤ b) (hw : B ≤ w.heap.size) : Below B w w' := ⟨h.os, h.tape, h.output, h.size, fun k hk => h.block k (by omega) (by omega)⟩
theorem But.cell {b : Nat} {w w' : World} (h : But b w w') {p : Addr} (hp : p.block < w.heap.size) (hb : p.block ≠ b) : w'.cell? p = w.cell? p := World.cell?_of_block (w := w) (h.block p.block hp hb)
theorem But.frozen {b : Nat} {w w' : World} (h : But b w w') {p : Addr} (hp : p.block < w.heap.size) (hb : p.block ≠ b) : w'.frozen? p = w.frozen? p := World.frozen?_of_block (w := w) (h.block p.block hp hb)
theorem Rd.below {B b e : Nat} {l : List UInt8} {w w' : World} (h : Rd w b l e) (hb : Below B w w') (hB : b < B) : Rd w' b l e :=
  ⟨(hb.cell (p := ⟨b, 0, none⟩) hB).trans h.rest, (hb.cell (p := ⟨b, 1, none⟩) hB).trans h.err, (hb.frozen (p := ⟨b, 0, none⟩) hB).trans h.fr, (hb.frozen (p := ⟨b, 1, none⟩) hB).trans h.fe, Nat.lt_of_lt_of_le h.lt hb.size⟩
theorem Rd.but {b c e : Nat} {l : List UInt8} {w w' : World} (h : Rd w b l e) (hb : But c w w') (hB : b ≠ c) : Rd w' b l e :=
  ⟨(hb.cell (p := ⟨b, 0, none⟩) h.lt hB).trans h.rest, (hb.cell (p := ⟨b, 1, none⟩) h.lt hB).trans h.err, (hb.frozen (p := ⟨b, 0, none⟩) h.lt hB).trans h.fr, (hb.frozen (p := ⟨b, 1, none⟩) h.lt hB).trans h.fe, Nat.lt_of_lt_of_le h.lt hb.size⟩

/-- a store into the reader's first field -/
theorem Rd.set0 {b e : Nat} {l : List UInt8} {w : World} (h : Rd w b l e) (l' : List UInt8) : Rd (w.setCell ⟨b, 0, none⟩ (.string (S l'))) b l' e := by
  have h0 := h.rest; have h1 := h.err; have f0 := h.fr; have f1 := h.fe; have hl := h.lt
  exact ⟨by go_simp, by go_simp, by go_simp, by go_simp, by simpa [World.setCell] using hl⟩
theorem Rd.set1 {b e : Nat} {l : List UInt8} {w : World} (h : Rd w b l e) (e' : Nat) : Rd (w.setCell ⟨b, 1, none⟩ (.int .i64 (e' : Int))) b l e' := by
  have h0 := h.rest; have h1 := h.err; have f0 := h.fr; have f1 := h.fe; have hl := h.lt
  exact ⟨by go_simp, by go_simp, by go_simp, by go_simp, by simpa [World.setCell] using hl⟩

theorem S_extract (c : UInt8) (t : List UInt8) : (S (c :: t)).extract 1 (S (c :: t)).size = S t := by
  apply ByteArray.ext
  rw [ByteArray.data_extract, S_size]
  simp [S]

/-- may a number end with byte c, i bytes ahead of it? -/
def mayEnd (i c : Nat) : Bool := if i = 9 then c == 1 else (i == 0 || decide (0 < c))

theorem ret_bool {a b : Bool} (h : a = b) : Ending.returned (.bool a) = .returned (.bool b) := by rw [h]
theorem beq_cast (a b : Nat) : ((a : Int) == (b : Int)) = (a == b) := by rw [Bool.eq_iff_iff]; simp; omega

/-- THE NUMBER that begins bytes (i bytes, which spell acc, are taken already): the number, what is left, why not (0: it is one). -/
def numb : Nat → Nat → List UInt8 → Nat × List UInt8 × Nat
  | i, _, [] => (0, [], if i = 10 then 3 else 2)
  | i, acc, c :: t =>
    if i = 10 then (0, c :: t, 3)
    else if 128 ≤ c.toNat then numb (i + 1) (acc + c.toNat % 128 * 2 ^ (i * 7)) t
    else if mayEnd i c.toNat then (acc + c.toNat % 128 * 2 ^ (i * 7), t, 0)
    else (0, t, 3)

/-- from the tenth byte on what was gathered does not count -/
theorem numb_ten (a a' : Nat) (l : List UInt8) : numb 10 a l = numb 10 a' l := by cases l <;> simp [numb]

/-- one byte's seven bits more -/
theorem or_step {k acc c : Nat} (hk : k ≤ 9) (hacc : acc < 2 ^ (k * 7)) (h9 : k = 9 → c % 128 ≤ 1) :
    bits .or .u64 (acc : Int) (IntKind.u64.wrap ((c : Int) % 128 * 2 ^ (k * 7))) = ((acc + c % 128 * 2 ^ (k * 7) : Nat) : Int) := by
  have hlt : c % 128 * 2 ^ (k * 7) < 18446744073709551616 := by
    have hs : k = 0 ∨ k = 1 ∨ k = 2 ∨ k = 3 ∨ k = 4 ∨ k = 5 ∨ k = 6 ∨ k = 7 ∨ k = 8 ∨ k = 9 := by omega
    rcases hs with rfl | rfl | rfl | rfl | rfl | rfl | rfl | rfl | rfl | rfl <;> simp <;> omega
  have hp : 2 ^ (k * 7) ≤ 2 ^ 63 := Nat.pow_le_pow_right (by decide) (by omega)
  have hacc2 : acc < 9223372036854775808 := Nat.lt_of_lt_of_le hacc hp
  have ecast : ((c : Int) % 128 * 2 ^ (k * 7)) = ((c % 128 * 2 ^ (k * 7) : Nat) : Int) := by simp
  rw [ecast, IntWalk.u64_in _ (by omega)]
  rw [bits_join_low .u64 64 (by decide) wraps_u64 (k * 7) _ _ (by omega) (by exact_mod_cast hacc) (by omega) (by omega) (by
    rw [show ((2 : Int) ^ (k * 7)) = ((2 ^ (k * 7) : Nat) : Int) by simp, ← Int.natCast_emod]
    simp) (by omega)]
  omega

theorem acc_step {k acc c : Nat} (hacc : acc < 2 ^ (k * 7)) : acc + c % 128 * 2 ^ (k * 7) < 2 ^ ((k + 1) * 7) := by
  have h1 : 2 ^ ((k + 1) * 7) = 128 * 2 ^ (k * 7) := by rw [Nat.add_mul, Nat.pow_add, Nat.mul_comm]
  have h2 : c % 128 * 2 ^ (k * 7) ≤ 127 * 2 ^ (k * 7) := Nat.mul_le_mul_right _ (by omega)
  omega

theorem or_nonneg (a b : Int) : 0 ≤ bits .or .u64 a b := by
  show 0 ≤ IntKind.u64.wrap _
  rw [IntKind.wrap_u64]
  omega

/-- a byte that goes on -/
theorem or_next {k acc c : Nat} (hk : k ≤ 9) (hacc : acc < 2 ^ (k * 7)) (t : List UInt8) :
    ∃ acc' : Nat, bits .or .u64 (acc : Int) (IntKind.u64.wrap ((c : Int) % 128 * 2 ^ (k * 7))) = (acc' : Int) ∧ (k + 1 < 10 → acc' < 2 ^ ((k + 1) * 7)) ∧
      numb (k + 1) (acc + c % 128 * 2 ^ (k * 7)) t = numb (k + 1) acc' t := by
  by_cases h9 : k = 9
  · subst h9
    obtain ⟨n, hn⟩ := Int.eq_ofNat_of_zero_le (or_nonneg (acc : Int) (IntKind.u64.wrap ((c : Int) % 128 * 2 ^ (9 * 7))))
    exact ⟨n, hn, fun h => by omega, numb_ten _ _ _⟩
  · exact ⟨_, or_step hk hacc (fun h => absurd h h9), fun _ => acc_step hacc, rfl⟩

end Go.Proofs.YtaahmnkfjkbliabDoor

/-
  Contracts of package wire's reader (takeByte, mayEnd, takeUint ..): what is taken, what is left, and why not, told by functions on lists of bytes; but for the reader's own block nothing that was there before the call is changed.
-/
import Derived.Test.YtnelekbaniljkaaDoorWrites
import Derived.Lib.VarintBits
import Derived.Lib.VarintDec
namespace Go.Proofs.YtnelekbaniljkaaDoor
open Go.RowKit

/-- the reader that lies in block b has l left, and its error is e -/
structure Rd (w : World) (b : Nat) (l : List UInt8) (e : Nat) : Prop where
  rest : w.cell? ⟨b, 0, none⟩ = some (.string (S l))
  err : w.cell? ⟨b, 1, none⟩ = some (.int .i64 (e : Int))
  fr : w.frozen? ⟨b, 0, none⟩ = false
  fe : w.frozen? ⟨b, 1, none⟩ = false
  lt : b < w.heap.size

/-- but for block b all that was there is as it was -/
structure But (b : Nat) (w w' : World) : Prop where
  os : w'.os = w.os
  tape : w'.tape = w.tape
  output : w'.output = w.output
  size : w.heap.size ≤ w'.heap.size
  block : ∀ k, k < w.heap.size → k ≠ b → w'.heap[k]? = w.heap[k]?

theorem But.refl (b : Nat) (w : World) : But b w w := ⟨rfl, rfl, rfl, Nat.le_refl _, fun _ _ _ => rfl⟩
theorem But.trans {b : Nat} {u v w : World} (h : But b u v) (k : But b v w) : But b u w :=
  ⟨k.os.trans h.os, k.tape.trans h.tape, k.output.trans h.output, Nat.le_trans h.size k.size, fun i hi hb => (k.block i (Nat.lt_of_lt_of_le hi h.size) hb).trans (h.block i hi hb)⟩
theorem But.setCell {b : Nat} {u w : World} (h : But b u w) (o : Nat) (v : Value) : But b u (w.setCell ⟨b, o, none⟩ v) :=
  h.trans ⟨rfl, rfl, rfl, by simp [World.setCell], fun k _ hb => Below.heap_setCell _ _ _ _ hb⟩
theorem But.alloc {b : Nat} {u w : World} (h : But b u w) (o : Obj) : But b u (w.alloc o) :=
  h.trans ⟨rfl, rfl, rfl, by simp, fun k hk _ => Below.heap_alloc _ _ _ hk⟩
theorem But.drew {b : Nat} {u w : World} (h : But b u w) : But b u w.drew := ⟨h.os, h.tape, h.output, h.size, h.block⟩
theorem But.of_below {b : Nat} {w w' : World} (h : Below w.heap.size w w') : But b w w' := ⟨h.os, h.tape, h.output, h.size, fun k hk _ => h.block k hk⟩
theorem But.below {b B : Nat} {w w' : World} (h : But b w w') (hb : B ≤ b) (hw : B ≤ w.heap.size) : Below B w w' := ⟨h.os, h.tape, h.output, h.size, fun k hk => h.block k (by omega) (by omega)⟩
theorem But.cell {b : Nat} {w w' : World} (h : But b w w') {p : Addr} (hp : p.block < w.heap.size) (hb : p.block ≠ b) : w'.cell? p = w.cell? p := World.cell?_of_block (w := w) (h.block p.block hp hb)
theorem But.frozen {b : Nat} {w w' : World} (h : But b w w') {p : Addr} (hp : p.block < w.heap.size) (hb : p.block ≠ b) : w'.frozen? p = w.frozen? p := World.frozen?_of_block (w := w) (h.block p.block hp hb)
theorem Rd.below {B b e : Nat} {l : List UInt8} {w w' : World} (h : Rd w b l e) (hb : Below B w w') (hB : b < B) : Rd w' b l e :=
  ⟨(hb.cell (p := ⟨b, 0, none⟩) hB).trans h.rest, (hb.cell (p := ⟨b, 1, none⟩) hB).trans h.err, (hb.frozen (p := ⟨b, 0, none⟩) hB).trans h.fr, (hb.frozen (p := ⟨b, 1, none⟩) hB).trans h.fe, Nat.lt_of_lt_of_le h.lt hb.size⟩
theorem Rd.but {b c e : Nat} {l : List UInt8} {w w' : World} (h : Rd w b l e) (hb : But c w w') (hB : b ≠ c) : Rd w' b l e :=
  ⟨(hb.cell (p := ⟨b, 0, none⟩) h.lt hB).trans h.rest, (hb.cell (p := ⟨b, 1, none⟩) h.lt hB).trans h.err, (hb.frozen (p := ⟨b, 0, none⟩) h.lt hB).trans h.fr, (hb.frozen (p := ⟨b, 1, none⟩) h.lt hB).trans h.fe, Nat.lt_of_lt_of_le h.lt hb.size⟩

/-- a store into the reader's first field -/
theorem Rd.set0 {b e : Nat} {l : List UInt8} {w : World} (h : Rd w b l e) (l' : List UInt8) : Rd (w.setCell ⟨b, 0, none⟩ (.string (S l'))) b l' e := by
  have h0 := h.rest; have h1 := h.err; have f0 := h.fr; have f1 := h.fe; have hl := h.lt
  exact ⟨by go_simp, by go_simp, by go_simp, by go_simp, by simpa [World.setCell] using hl⟩
theorem Rd.set1 {b e : Nat} {l : List UInt8} {w : World} (h : Rd w b l e) (e' : Nat) : Rd (w.setCell ⟨b, 1, none⟩ (.int .i64 (e' : Int))) b l e' := by
  have h0 := h.rest; have h1 := h.err; have f0 := h.fr; have f1 := h.fe; have hl := h.lt
  exact ⟨by go_simp, by go_simp, by go_simp, by go_simp, by simpa [World.setCell] using hl⟩

theorem S_extract (c : UInt8) (t : List UInt8) : (S (c :: t)).extract 1 (S (c :: t)).size = S t := by
  apply ByteArray.ext
  rw [ByteArray.data_extract, S_size]
  simp [S]

set_option maxHeartbeats 400000 in
theorem takeByte_nil {b e : Nat} {w : World} (h : Rd w b [] e) :
    Calls Tryd.prog 61 #[.pointer (some ⟨b, 0, none⟩)] w fun r w' => r = .returned (.tuple #[.int .u8 0, .int .i64 2]) ∧ w' = w := by
  have h0 := h.rest
  have hne : (S []).toList.isEmpty = true := by simp [S_toList]
  clear h
  go_enter Tryd.func61, Tryd.ntmps61
  go_wp2
  go_ret2
  exact ⟨rfl, rfl⟩

set_option maxHeartbeats 400000 in
theorem takeByte_cons {b e : Nat} {c : UInt8} {t : List UInt8} {w : World} (h : Rd w b (c :: t) e) :
    Calls Tryd.prog 61 #[.pointer (some ⟨b, 0, none⟩)] w fun r w' => r = .returned (.tuple #[.int .u8 (c.toNat : Int), .int .i64 0]) ∧ Rd w' b t e ∧ But b w w' := by
  have h0 := h.rest
  have f0 := h.fr
  have HR : Hid (Rd (w.setCell ⟨b, 0, none⟩ (.string (S t))) b t e) := h.set0 t
  have hne : (S (c :: t)).toList.isEmpty = false := by simp [S_toList]
  have hsz : 0 < (S (c :: t)).size := by simp [S_size]
  have hx := S_extract c t
  have hc : ((S (c :: t))[0]'hsz) = c := by simp [S]; rfl
  clear h
  go_enter Tryd.func61, Tryd.ntmps61
  go_wp2
  go_ret2
  exact ⟨rfl, HR.out, (But.refl _ _).setCell _ _⟩

/-- may a number end with byte c, i bytes ahead of it? -/
def mayEnd (i c : Nat) : Bool := if i = 9 then c == 1 else (i == 0 || decide (0 < c))

theorem ret_bool {a b : Bool} (h : a = b) : Ending.returned (.bool a) = .returned (.bool b) := by rw [h]
theorem beq_cast (a b : Nat) : ((a : Int) == (b : Int)) = (a == b) := by rw [Bool.eq_iff_iff]; simp; omega

set_option maxHeartbeats 400000 in
theorem mayEnd_any (i c : Nat) (w : World) :
    Calls Tryd.prog 79 #[.int .i64 (i : Int), .int .u8 (c : Int)] w fun r w' => r = .returned (.bool (mayEnd i c)) ∧ w' = w := by
  by_cases h9 : i = 9
  · subst h9
    go_enter Tryd.func79, Tryd.ntmps79
    go_wp2
    go_ret
    exact ⟨ret_bool (by simpa [mayEnd] using beq_cast c 1), rfl⟩
  · have h9' : ((i : Int) == 9) = false := beq_eq_false_iff_ne.2 (by omega)
    by_cases h0 : i = 0
    · subst h0
      go_enter Tryd.func79, Tryd.ntmps79
      go_wp2
      go_ret
      exact ⟨ret_bool (by simp [mayEnd]), rfl⟩
    · have h0' : ((i : Int) == 0) = false := beq_eq_false_iff_ne.2 (by omega)
      have HF : Hid (mayEnd i c = decide (0 < c)) := by show _ = _; simp [mayEnd, h9, h0]
      clear h9 h0
      go_enter Tryd.func79, Tryd.ntmps79
      go_wp2
      go_ret
      exact ⟨ret_bool HF.out.symm, rfl⟩

/-- THE NUMBER that begins bytes (i bytes, which spell acc, are taken already): the number, what is left, why not (0: it is one). -/
def numb : Nat → Nat → List UInt8 → Nat × List UInt8 × Nat
  | i, _, [] => (0, [], if i = 10 then 3 else 2)
  | i, acc, c :: t =>
    if i = 10 then (0, c :: t, 3)
    else if 128 ≤ c.toNat then numb (i + 1) (acc + c.toNat % 128 * 2 ^ (i * 7)) t
    else if mayEnd i c.toNat then (acc + c.toNat % 128 * 2 ^ (i * 7), t, 0)
    else (0, t, 3)

/-- from the tenth byte on what was gathered does not count -/
theorem numb_ten (a a' : Nat) (l : List UInt8) : numb 10 a l = numb 10 a' l := by cases l <;> simp [numb]

/-- one byte's seven bits more -/
theorem or_step {k acc c : Nat} (hk : k ≤ 9) (hacc : acc < 2 ^ (k * 7)) (h9 : k = 9 → c % 128 ≤ 1) :
    bits .or .u64 (acc : Int) (IntKind.u64.wrap ((c : Int) % 128 * 2 ^ (k * 7))) = ((acc + c % 128 * 2 ^ (k * 7) : Nat) : Int) := by
  have hlt : c % 128 * 2 ^ (k * 7) < 18446744073709551616 := by
    have hs : k = 0 ∨ k = 1 ∨ k = 2 ∨ k = 3 ∨ k = 4 ∨ k = 5 ∨ k = 6 ∨ k = 7 ∨ k = 8 ∨ k = 9 := by omega
    rcases hs with rfl | rfl | rfl | rfl | rfl | rfl | rfl | rfl | rfl | rfl <;> simp <;> omega
  have hp : 2 ^ (k * 7) ≤ 2 ^ 63 := Nat.pow_le_pow_right (by decide) (by omega)
  have hacc2 : acc < 9223372036854775808 := Nat.lt_of_lt_of_le hacc hp
  have ecast : ((c : Int) % 128 * 2 ^ (k * 7)) = ((c % 128 * 2 ^ (k * 7) : Nat) : Int) := by simp
  rw [ecast, IntWalk.u64_in _ (by omega)]
  rw [bits_join_low .u64 64 (by decide) wraps_u64 (k * 7) _ _ (by omega) (by exact_mod_cast hacc) (by omega) (by omega) (by
    rw [show ((2 : Int) ^ (k * 7)) = ((2 ^ (k * 7) : Nat) : Int) by simp, ← Int.natCast_emod]
    simp) (by omega)]
  omega

theorem acc_step {k acc c : Nat} (hacc : acc < 2 ^ (k * 7)) : acc + c % 128 * 2 ^ (k * 7) < 2 ^ ((k + 1) * 7) := by
  have h1 : 2 ^ ((k + 1) * 7) = 128 * 2 ^ (k * 7) := by rw [Nat.add_mul, Nat.pow_add, Nat.mul_comm]
  have h2 : c % 128 * 2 ^ (k * 7) ≤ 127 * 2 ^ (k * 7) := Nat.mul_le_mul_right _ (by omega)
  omega

theorem or_nonneg (a b : Int) : 0 ≤ bits .or .u64 a b := by
  show 0 ≤ IntKind.u64.wrap _
  rw [IntKind.wrap_u64]
  omega

/-- a byte that goes on -/
theorem or_next {k acc c : Nat} (hk : k ≤ 9) (hacc : acc < 2 ^ (k * 7)) (t : List UInt8) :
    ∃ acc' : Nat, bits .or .u64 (acc : Int) (IntKind.u64.wrap ((c : Int) % 128 * 2 ^ (k * 7))) = (acc' : Int) ∧ (k + 1 < 10 → acc' < 2 ^ ((k + 1) * 7)) ∧
      numb (k + 1) (acc + c % 128 * 2 ^ (k * 7)) t = numb (k + 1) acc' t := by
  by_cases h9 : k = 9
  · subst h9
    obtain ⟨n, hn⟩ := Int.eq_ofNat_of_zero_le (or_nonneg (acc : Int) (IntKind.u64.wrap ((c : Int) % 128 * 2 ^ (9 * 7))))
    exact ⟨n, hn, fun h => by omega, numb_ten _ _ _⟩
  · exact ⟨_, or_step hk hacc (fun h => absurd h h9), fun _ => acc_step hacc, rfl⟩

set_option maxHeartbeats 2000000 in
set_option maxRecDepth 100000 in
theorem takeUint_res {b e v er : Nat} {l rest : List UInt8} {w : World} (h : Rd w b l e) (hres : Hid (numb 0 0 l = (v, rest, er))) :
    Calls Tryd.prog 68 #[.pointer (some ⟨b, 0, none⟩)] w fun r w' => r = .returned (.tuple #[.int .u64 (v : Int), .int .i64 (er : Int)]) ∧ Rd w' b rest e ∧ But b w w' := by
  go_enter Tryd.func68, Tryd.ntmps68
  go_wp2_with fail
  go_loopw [4, 8] (fun vv vi wr => ∃ (k acc : Nat) (t : List UInt8), vi = .int .i64 (k : Int) ∧ vv = .int .u64 (acc : Int) ∧ k ≤ 10 ∧ (k < 10 → acc < 2 ^ (k * 7)) ∧ Hid (numb k acc t = (v, rest, er)) ∧ Rd wr b t e ∧ But b w wr)
    (fun _ vi _ => 10 - (intOf vi).toNat)
  case atStart => exact ⟨0, 0, l, rfl, rfl, by omega, by simp, hres, h, But.refl _ _⟩
  case round =>
    obtain ⟨k, acc, t, rfl, rfl, hk, hacc, HN, hr, hbut⟩ := hrel
    clear h hres
    by_cases hk10 : k < 10
    · replace hacc := hacc hk10
      cases t with
      | nil =>
        obtain ⟨rfl, rfl, rfl⟩ : v = 0 ∧ rest = [] ∧ er = 2 := by
          have := HN.out; rw [numb, if_neg (by omega), Prod.mk.injEq, Prod.mk.injEq] at this; exact ⟨this.1.symm, this.2.1.symm, this.2.2.symm⟩
        clear HN
        go_wp2_with fail
        refine (takeByte_nil hr).mono ?_
        rintro r w1 ⟨rfl, rfl⟩
        go_wp2
        go_ret2
        exact ⟨rfl, hr, hbut⟩
      | cons c t =>
        go_wp2_with fail
        refine (takeByte_cons hr).mono ?_
        rintro r w1 ⟨rfl, hr1, hbut1⟩
        have hbut2 := hbut.trans hbut1
        have hc256 : c.toNat < 256 := c.toNat_lt
        clear hbut hbut1 hr
        by_cases hc : 128 ≤ c.toNat
        · obtain ⟨acc', hor, hlt', hnx⟩ := or_next (c := c.toNat) (show k ≤ 9 by omega) hacc t
          have HN2 : Hid (numb (k + 1) acc' t = (v, rest, er)) := by
            have := HN.out; rw [numb, if_neg (by omega), if_pos hc] at this; exact hnx.symm.trans this
          clear HN hnx
          go_wp2_with fail
          exact ⟨⟨k + 1, acc', t, by go_num, by first | rfl | (rw [hor]), by omega, hlt', HN2, hr1, hbut2⟩, by simp [intOf]; omega⟩
        · go_wp2_with fail
          refine (mayEnd_any k c.toNat _).mono ?_
          rintro r w2 ⟨rfl, rfl⟩
          by_cases hm : mayEnd k c.toNat = true
          · have h9 : k = 9 → c.toNat % 128 ≤ 1 := by
              intro h
              subst h
              have : c.toNat = 1 := by simpa [mayEnd] using hm
              omega
            have hor := or_step (show k ≤ 9 by omega) hacc h9
            obtain ⟨rfl, rfl, rfl⟩ : v = acc + c.toNat % 128 * 2 ^ (k * 7) ∧ rest = t ∧ er = 0 := by
              have := HN.out; rw [numb, if_neg (by omega), if_neg hc, if_pos hm, Prod.mk.injEq, Prod.mk.injEq] at this; exact ⟨this.1.symm, this.2.1.symm, this.2.2.symm⟩
            clear HN h9
            go_wp2
            go_ret2
            exact ⟨by first | rfl | (rw [← hor]; rfl), hr1, hbut2⟩
          · have hm' : mayEnd k c.toNat = false := by simpa using hm
            obtain ⟨rfl, rfl, rfl⟩ : v = 0 ∧ rest = t ∧ er = 3 := by
              have := HN.out; rw [numb, if_neg (by omega), if_neg hc, if_neg hm, Prod.mk.injEq, Prod.mk.injEq] at this; exact ⟨this.1.symm, this.2.1.symm, this.2.2.symm⟩
            clear HN hm
            go_wp2
            go_ret2
            exact ⟨rfl, hr1, hbut2⟩
    · have hkk : k = 10 := by omega
      subst hkk
      obtain ⟨rfl, rfl, rfl⟩ : v = 0 ∧ rest = t ∧ er = 3 := by
        have := HN.out
        cases t with
        | nil => rw [numb, if_pos rfl, Prod.mk.injEq, Prod.mk.injEq] at this; exact ⟨this.1.symm, this.2.1.symm, this.2.2.symm⟩
        | cons c t => rw [numb, if_pos rfl, Prod.mk.injEq, Prod.mk.injEq] at this; exact ⟨this.1.symm, this.2.1.symm, this.2.2.symm⟩
      clear HN
      go_wp2
      go_ret2
      exact ⟨rfl, hr, hbut⟩

end Go.Proofs.YtnelekbaniljkaaDoor

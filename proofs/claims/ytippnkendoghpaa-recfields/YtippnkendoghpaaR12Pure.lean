/-
  Records, plain: which may be, their bytes; what is read of bytes; that there is one form.
-/
import Derived.Test.YtippnkendoghpaaR12Bk
namespace Go.Proofs.Ytippnkendoghpaa.r12
open Go.RowKit Go.Shelf Go.Sort
open Go.Lib hiding intOf

/-- a record -/
structure R12 where
  cl : Int
  kd : Int
  fr : Nat
  tm : Int
  k1 : Nat
  k2 : Nat
  k3 : Nat
  n : Int
  m : Int
  a : List UInt8
  b : List UInt8
  c : List UInt8
  v : List Vr
/-- nothing -/
def r0 : R12 := ⟨0, 0, 0, 0, 0, 0, 0, 0, 0, [], [], [], []⟩
theorem R12.ext12 {r q : R12} (h0 : r.cl = q.cl) (h1 : r.kd = q.kd) (h2 : r.fr = q.fr) (h3 : r.tm = q.tm) (h4 : r.k1 = q.k1) (h5 : r.k2 = q.k2) (h6 : r.k3 = q.k3) (h7 : r.n = q.n) (h8 : r.m = q.m) (h9 : r.a = q.a) (h10 : r.b = q.b) (h11 : r.c = q.c) (h12 : r.v = q.v) : r = q := by
  cases r; cases q; simp only at *; subst h0 h1 h2 h3 h4 h5 h6 h7 h8 h9 h10 h11 h12; rfl
def byt (k : Int) : UInt8 := k.toNat.toUInt8
/-- the bytes from a field on -/
def T12 (r : R12) : List UInt8 := vbs r.v
def T11 (r : R12) : List UInt8 := txt r.c ++ T12 r
def T10 (r : R12) : List UInt8 := txt r.b ++ T11 r
def T9 (r : R12) : List UInt8 := txt r.a ++ T10 r
def T8 (r : R12) : List UInt8 := Lib.uvarint (Lib.zigzag r.m) ++ T9 r
def T7 (r : R12) : List UInt8 := Lib.uvarint (Lib.zigzag r.n) ++ T8 r
def T6 (r : R12) : List UInt8 := Lib.uvarint r.k3 ++ T7 r
def T5 (r : R12) : List UInt8 := Lib.uvarint r.k2 ++ T6 r
def T4 (r : R12) : List UInt8 := Lib.uvarint r.k1 ++ T5 r
def T3 (r : R12) : List UInt8 := Lib.uvarint (Lib.zigzag r.tm) ++ T4 r
def T2 (r : R12) : List UInt8 := Lib.uvarint r.fr ++ T3 r
def T1 (r : R12) : List UInt8 := byt r.kd :: T2 r
/-- a record's bytes -/
def bytR (r : R12) : List UInt8 := byt r.cl :: T1 r
/-- field by field -/
def segs (r : R12) : List (List UInt8) := [[byt r.cl], [byt r.kd], Lib.uvarint r.fr, Lib.uvarint (Lib.zigzag r.tm), Lib.uvarint r.k1, Lib.uvarint r.k2, Lib.uvarint r.k3, Lib.uvarint (Lib.zigzag r.n), Lib.uvarint (Lib.zigzag r.m), txt r.a, txt r.b, txt r.c, vbs r.v]
theorem segs_flat (r : R12) : (segs r).flatten = bytR r := by
  simp only [segs, bytR, T1, T2, T3, T4, T5, T6, T7, T8, T9, T10, T11, T12, List.flatten_cons, List.flatten_nil, List.append_nil, List.cons_append, List.nil_append]
/-- the greatest kind of a class -/
def lk (c : Int) : Int := if c = 1 then 16 else if c = 3 then 16 else if c = 2 then 24 else 0
def mA (r : R12) : Int := if r.cl = 1 ∧ r.kd = 1 then 8192 else 32
def mB (r : R12) : Int := if r.cl = 2 ∧ r.kd = 1 then 8192 else 1024
/-- may it be, field by field? -/
structure Fit (r : R12) : Prop where
  kd1 : 1 ≤ r.kd
  kd2 : r.kd ≤ lk r.cl
  fr : r.fr = 0 ↔ r.cl = 1
  tm0 : 0 ≤ r.tm
  tm1 : r.tm ≤ 1099511627776
  la : (r.a.length : Int) ≤ mA r
  lb : (r.b.length : Int) ≤ mB r
  lc : (r.c.length : Int) ≤ 32
  vr : rgt r.v = true
/-- may it be? -/
def May (r : R12) : Prop := Fit r ∧ (bytR r).length ≤ 4096
/-- numbers and texts as they may come in -/
structure Rk (r : R12) : Prop where
  cl : -9223372036854775808 ≤ r.cl ∧ r.cl ≤ 9223372036854775807
  kd : -9223372036854775808 ≤ r.kd ∧ r.kd ≤ 9223372036854775807
  fr : r.fr < 18446744073709551616
  tm : -9223372036854775808 ≤ r.tm ∧ r.tm ≤ 9223372036854775807
  k1 : r.k1 < 18446744073709551616
  k2 : r.k2 < 18446744073709551616
  k3 : r.k3 < 18446744073709551616
  n : -9223372036854775808 ≤ r.n ∧ r.n ≤ 9223372036854775807
  m : -9223372036854775808 ≤ r.m ∧ r.m ≤ 9223372036854775807
  a : r.a.length ≤ 140737488355328
  b : r.b.length ≤ 140737488355328
  c : r.c.length ≤ 140737488355328
  vl : r.v.length ≤ 4611686018427387904
  vs : Sm9 r.v
theorem Fit.cl {r : R12} (h : Fit r) : (1 ≤ r.cl ∧ r.cl ≤ 3) ∧ 1 ≤ r.kd ∧ r.kd ≤ 24 := by
  have h1 := h.kd1
  have h2 := h.kd2
  unfold lk at h2
  split at h2
  · omega
  · split at h2
    · omega
    · split at h2
      · omega
      · omega
theorem mA_le (r : R12) : mA r ≤ 8192 := by unfold mA; split <;> omega
theorem mB_le (r : R12) : mB r ≤ 8192 := by unfold mB; split <;> omega
theorem byt_nat {k : Int} (h : 0 ≤ k ∧ k ≤ 255) : ((byt k).toNat : Int) = k := by
  unfold byt
  rw [Lib.toUInt8_toNat (by omega)]
  omega
theorem txt_le (s : List UInt8) : s.length ≤ (txt s).length := by unfold txt; simp
theorem May.la {r : R12} (h : May r) : r.a.length ≤ 4096 ∧ r.b.length ≤ 4096 ∧ r.c.length ≤ 4096 := by
  have h1 := h.2
  rw [← segs_flat] at h1
  simp only [segs, List.flatten_cons, List.flatten_nil, List.length_append] at h1
  have := txt_le r.a; have := txt_le r.b; have := txt_le r.c
  omega

/-! what is read -/
def P0 (s : List UInt8) : Nat × List UInt8 × Nat := rdB s 0
def P1 (s : List UInt8) : Nat × List UInt8 × Nat := rdB (P0 s).2.1 (P0 s).2.2
def P2 (s : List UInt8) : Nat × List UInt8 × Nat := rdU (P1 s).2.1 (P1 s).2.2
def P3 (s : List UInt8) : Nat × List UInt8 × Nat := rdU (P2 s).2.1 (P2 s).2.2
def P4 (s : List UInt8) : Nat × List UInt8 × Nat := rdU (P3 s).2.1 (P3 s).2.2
def P5 (s : List UInt8) : Nat × List UInt8 × Nat := rdU (P4 s).2.1 (P4 s).2.2
def P6 (s : List UInt8) : Nat × List UInt8 × Nat := rdU (P5 s).2.1 (P5 s).2.2
def P7 (s : List UInt8) : Nat × List UInt8 × Nat := rdU (P6 s).2.1 (P6 s).2.2
def P8 (s : List UInt8) : Nat × List UInt8 × Nat := rdU (P7 s).2.1 (P7 s).2.2
def P9 (t : Int × Int × Int) (s : List UInt8) : List UInt8 × List UInt8 × Nat := rdT t.1 (P8 s).2.1 (P8 s).2.2
def P10 (t : Int × Int × Int) (s : List UInt8) : List UInt8 × List UInt8 × Nat := rdT t.2.1 (P9 t s).2.1 (P9 t s).2.2
def P11 (t : Int × Int × Int) (s : List UInt8) : List UInt8 × List UInt8 × Nat := rdT t.2.2 (P10 t s).2.1 (P10 t s).2.2
def P12 (t : Int × Int × Int) (s : List UInt8) : List Vr × Bool := if (P11 t s).2.2 = 0 then tlR (P11 t s).2.1 else ([], false)
def rdR (t : Int × Int × Int) (s : List UInt8) : R12 := ⟨((P0 s).1 : Int), ((P1 s).1 : Int), (P2 s).1, Lib.unzigzag (P3 s).1, (P4 s).1, (P5 s).1, (P6 s).1, Lib.unzigzag (P7 s).1, Lib.unzigzag (P8 s).1, (P9 t s).1, (P10 t s).1, (P11 t s).1, (P12 t s).1⟩
theorem rdB_back (c : UInt8) (l : List UInt8) : rdB (c :: l) 0 = (c.toNat, l, 0) := rfl
theorem back {r : R12} (hk : Rk r) (hf : Fit r) {t : Int × Int × Int} (ha : (r.a.length : Int) ≤ t.1) (hb : (r.b.length : Int) ≤ t.2.1) (hc : (r.c.length : Int) ≤ t.2.2) (more : List UInt8) : rdR t (bytR r ++ more) = r ∧ (P11 t (bytR r ++ more)).2 = (vbs r.v ++ more, 0) ∧ P12 t (bytR r ++ more) = (r.v, true) := by
  have hcl := hf.cl
  obtain ⟨s, hs⟩ : ∃ s, bytR r ++ more = s := ⟨_, rfl⟩
  rw [hs]
  have h0 : P0 s = ((byt r.cl).toNat, T1 r ++ more, 0) := by unfold P0; rw [← hs]; exact rdB_back _ _
  have h1 : P1 s = ((byt r.kd).toNat, T2 r ++ more, 0) := by unfold P1; rw [h0]; exact rdB_back _ _
  have h2 : P2 s = (r.fr, T3 r ++ more, 0) := by unfold P2; rw [h1]; unfold T2; simp only [List.append_assoc]; exact rdU_back hk.fr _
  have h3 : P3 s = (Lib.zigzag r.tm, T4 r ++ more, 0) := by unfold P3; rw [h2]; unfold T3; simp only [List.append_assoc]; exact rdU_back (Lib.zigzag_lt hk.tm.1 hk.tm.2) _
  have h4 : P4 s = (r.k1, T5 r ++ more, 0) := by unfold P4; rw [h3]; unfold T4; simp only [List.append_assoc]; exact rdU_back hk.k1 _
  have h5 : P5 s = (r.k2, T6 r ++ more, 0) := by unfold P5; rw [h4]; unfold T5; simp only [List.append_assoc]; exact rdU_back hk.k2 _
  have h6 : P6 s = (r.k3, T7 r ++ more, 0) := by unfold P6; rw [h5]; unfold T6; simp only [List.append_assoc]; exact rdU_back hk.k3 _
  have h7 : P7 s = (Lib.zigzag r.n, T8 r ++ more, 0) := by unfold P7; rw [h6]; unfold T7; simp only [List.append_assoc]; exact rdU_back (Lib.zigzag_lt hk.n.1 hk.n.2) _
  have h8 : P8 s = (Lib.zigzag r.m, T9 r ++ more, 0) := by unfold P8; rw [h7]; unfold T8; simp only [List.append_assoc]; exact rdU_back (Lib.zigzag_lt hk.m.1 hk.m.2) _
  have ka := hk.a; have kb := hk.b; have kc := hk.c
  have h9 : P9 t s = (r.a, T10 r ++ more, 0) := by unfold P9; rw [h8]; unfold T9; simp only [List.append_assoc]; exact rdT_back (by omega) ha _
  have h10 : P10 t s = (r.b, T11 r ++ more, 0) := by unfold P10; rw [h9]; unfold T10; simp only [List.append_assoc]; exact rdT_back (by omega) hb _
  have h11 : P11 t s = (r.c, T12 r ++ more, 0) := by unfold P11; rw [h10]; unfold T11; simp only [List.append_assoc]; exact rdT_back (by omega) hc _
  have h12 : P12 t s = (r.v, true) := by unfold P12; rw [h11]; rw [if_pos rfl]; exact tlR_back hf.vr hk.vs more
  refine ⟨?_, by rw [h11]; rfl, h12⟩
  unfold rdR
  rw [h0, h1, h2, h3, h4, h5, h6, h7, h8, h9, h10, h11, h12]
  simp only [unzig]
  rw [byt_nat (by omega), byt_nat (by omega)]
/-- what was read without a fault was written so -/
theorem once {t : Int × Int × Int} {s : List UInt8} (h : (P11 t s).2.2 = 0) {rest : List UInt8} (hv : (P11 t s).2.1 = vbs (rdR t s).v ++ rest) : s = bytR (rdR t s) ++ rest ∧ (((rdR t s).cl < 256 ∧ (rdR t s).kd < 256)) := by
  have g11 := rdT_one (show rdT t.2.2 (P10 t s).2.1 (P10 t s).2.2 = ((P11 t s).1, (P11 t s).2.1, 0) from trip (P11 t s) h)
  have g10 := rdT_one (show rdT t.2.1 (P9 t s).2.1 (P9 t s).2.2 = ((P10 t s).1, (P10 t s).2.1, 0) from trip (P10 t s) g11.1)
  have g9 := rdT_one (show rdT t.1 (P8 s).2.1 (P8 s).2.2 = ((P9 t s).1, (P9 t s).2.1, 0) from trip (P9 t s) g10.1)
  have g8 := rdU_one (show rdU (P7 s).2.1 (P7 s).2.2 = ((P8 s).1, (P8 s).2.1, 0) from trip (P8 s) g9.1)
  have g7 := rdU_one (show rdU (P6 s).2.1 (P6 s).2.2 = ((P7 s).1, (P7 s).2.1, 0) from trip (P7 s) g8.1)
  have g6 := rdU_one (show rdU (P5 s).2.1 (P5 s).2.2 = ((P6 s).1, (P6 s).2.1, 0) from trip (P6 s) g7.1)
  have g5 := rdU_one (show rdU (P4 s).2.1 (P4 s).2.2 = ((P5 s).1, (P5 s).2.1, 0) from trip (P5 s) g6.1)
  have g4 := rdU_one (show rdU (P3 s).2.1 (P3 s).2.2 = ((P4 s).1, (P4 s).2.1, 0) from trip (P4 s) g5.1)
  have g3 := rdU_one (show rdU (P2 s).2.1 (P2 s).2.2 = ((P3 s).1, (P3 s).2.1, 0) from trip (P3 s) g4.1)
  have g2 := rdU_one (show rdU (P1 s).2.1 (P1 s).2.2 = ((P2 s).1, (P2 s).2.1, 0) from trip (P2 s) g3.1)
  have g1 := rdB_one (show rdB (P0 s).2.1 (P0 s).2.2 = ((P1 s).1, (P1 s).2.1, 0) from trip (P1 s) g2.1)
  have g0 := rdB_one (show rdB s 0 = ((P0 s).1, (P0 s).2.1, 0) from trip (P0 s) g1.1)
  refine ⟨?_, by unfold rdR; simp only; omega⟩
  have e0 : byt (rdR t s).cl = (P0 s).1.toUInt8 := by unfold byt rdR; simp
  have e1 : byt (rdR t s).kd = (P1 s).1.toUInt8 := by unfold byt rdR; simp
  unfold bytR T1 T2 T3 T4 T5 T6 T7 T8 T9 T10 T11 T12
  rw [e0, e1]
  unfold rdR at hv ⊢
  simp only [zig] at hv ⊢
  simp only [List.cons_append, List.append_assoc]
  rw [← hv, ← g11.2.1, ← g10.2.1, ← g9.2.1, ← g8.2, ← g7.2, ← g6.2, ← g5.2, ← g4.2, ← g3.2, ← g2.2, ← g1.2.2]
  exact g0.2.2
theorem rdT_len {most : Int} {l : List UInt8} {e : Nat} : (rdT most l e).1.length ≤ l.length ∧ (rdT most l e).2.1.length ≤ l.length := by
  by_cases he : e = 0
  · subst he
    have h1 := rdT9_le (most := most) (l := l) (s := (rdT most l 0).1) (l2 := (rdT most l 0).2.1) (e2 := (rdT most l 0).2.2) rfl
    refine ⟨?_, h1.1⟩
    by_cases h0 : (rdT most l 0).2.2 = 0
    · have h2 := rdT_one (show rdT most l 0 = ((rdT most l 0).1, (rdT most l 0).2.1, 0) from trip _ h0)
      have h3 := congrArg List.length h2.2.1
      have := txt_le (rdT most l 0).1
      rw [List.length_append] at h3
      omega
    · unfold rdT at h0 ⊢
      rw [if_pos rfl] at h0 ⊢
      split
      · rename_i h4; rw [if_pos h4] at h0; exact absurd rfl h0
      · simp
  · unfold rdT; rw [if_neg he]; simp
theorem rdU_len {l : List UInt8} {e : Nat} : (rdU l e).2.1.length ≤ l.length := by
  by_cases he : e = 0
  · subst he; exact rdU9_le rfl
  · unfold rdU; rw [if_neg he]; exact Nat.le_refl _
theorem rdB_len {l : List UInt8} {e : Nat} : (rdB l e).2.1.length ≤ l.length ∧ (rdB l e).1 < 256 := by
  unfold rdB
  split
  · cases l with
    | nil => simp
    | cons c t => have := c.toNat_lt; simp only [List.length_cons]; omega
  · simp
theorem P_len (t : Int × Int × Int) (s : List UInt8) : (P0 s).2.1.length ≤ s.length ∧ (P1 s).2.1.length ≤ s.length ∧ (P2 s).2.1.length ≤ s.length ∧ (P3 s).2.1.length ≤ s.length ∧ (P4 s).2.1.length ≤ s.length ∧ (P5 s).2.1.length ≤ s.length ∧ (P6 s).2.1.length ≤ s.length ∧ (P7 s).2.1.length ≤ s.length ∧ (P8 s).2.1.length ≤ s.length ∧ (P9 t s).2.1.length ≤ s.length ∧ (P10 t s).2.1.length ≤ s.length ∧ (P11 t s).2.1.length ≤ s.length := by
  have g0 : (P0 s).2.1.length ≤ s.length := by unfold P0; exact rdB_len.1
  have g1 : (P1 s).2.1.length ≤ (P0 s).2.1.length := by unfold P1; exact rdB_len.1
  have g2 : (P2 s).2.1.length ≤ (P1 s).2.1.length := by unfold P2; exact rdU_len
  have g3 : (P3 s).2.1.length ≤ (P2 s).2.1.length := by unfold P3; exact rdU_len
  have g4 : (P4 s).2.1.length ≤ (P3 s).2.1.length := by unfold P4; exact rdU_len
  have g5 : (P5 s).2.1.length ≤ (P4 s).2.1.length := by unfold P5; exact rdU_len
  have g6 : (P6 s).2.1.length ≤ (P5 s).2.1.length := by unfold P6; exact rdU_len
  have g7 : (P7 s).2.1.length ≤ (P6 s).2.1.length := by unfold P7; exact rdU_len
  have g8 : (P8 s).2.1.length ≤ (P7 s).2.1.length := by unfold P8; exact rdU_len
  have g9 : (P9 t s).2.1.length ≤ (P8 s).2.1.length := by unfold P9; exact rdT_len.2
  have g10 : (P10 t s).2.1.length ≤ (P9 t s).2.1.length := by unfold P10; exact rdT_len.2
  have g11 : (P11 t s).2.1.length ≤ (P10 t s).2.1.length := by unfold P11; exact rdT_len.2
  have e1 := Nat.le_trans g1 g0
  have e2 := Nat.le_trans g2 e1
  have e3 := Nat.le_trans g3 e2
  have e4 := Nat.le_trans g4 e3
  have e5 := Nat.le_trans g5 e4
  have e6 := Nat.le_trans g6 e5
  have e7 := Nat.le_trans g7 e6
  have e8 := Nat.le_trans g8 e7
  have e9 := Nat.le_trans g9 e8
  have e10 := Nat.le_trans g10 e9
  have e11 := Nat.le_trans g11 e10
  exact ⟨g0, e1, e2, e3, e4, e5, e6, e7, e8, e9, e10, e11⟩
theorem ul (l : List UInt8) (e : Nat) : (rdU l e).1 < 18446744073709551616 := rdU_lt (l := l) (e := e) (v := (rdU l e).1) (l2 := (rdU l e).2.1) (e2 := (rdU l e).2.2) (show Hid _ from rfl)
theorem rdR_k (t : Int × Int × Int) {s : List UInt8} (h : s.length ≤ 140737488355328) : Rk (rdR t s) := by
  obtain ⟨-, -, -, -, -, -, -, -, h8, h9, h10, -⟩ := P_len t s
  have g0 : (P0 s).1 < 256 := by unfold P0; exact rdB_len.2
  have g1 : (P1 s).1 < 256 := by unfold P1; exact rdB_len.2
  have ga : (P9 t s).1.length ≤ (P8 s).2.1.length := by unfold P9; exact rdT_len.1
  have gb : (P10 t s).1.length ≤ (P9 t s).2.1.length := by unfold P10; exact rdT_len.1
  have gc : (P11 t s).1.length ≤ (P10 t s).2.1.length := by unfold P11; exact rdT_len.1
  have hv : Sm9 (P12 t s).1 ∧ (P12 t s).1.length ≤ 16 := by
    unfold P12
    split
    · exact tlR_sm _
    · exact ⟨(fun x hx => by cases hx), by simp⟩
  have q2 : (P2 s).1 < 18446744073709551616 := by unfold P2; exact ul _ _
  have q3 : (P3 s).1 < 18446744073709551616 := by unfold P3; exact ul _ _
  have q4 : (P4 s).1 < 18446744073709551616 := by unfold P4; exact ul _ _
  have q5 : (P5 s).1 < 18446744073709551616 := by unfold P5; exact ul _ _
  have q6 : (P6 s).1 < 18446744073709551616 := by unfold P6; exact ul _ _
  have q7 : (P7 s).1 < 18446744073709551616 := by unfold P7; exact ul _ _
  have q8 : (P8 s).1 < 18446744073709551616 := by unfold P8; exact ul _ _
  unfold rdR
  have la := Nat.le_trans (Nat.le_trans ga h8) h
  have lb := Nat.le_trans (Nat.le_trans gb h9) h
  have lc := Nat.le_trans (Nat.le_trans gc h10) h
  clear ga gb gc h8 h9 h10 h
  generalize (P0 s).1 = x0 at *
  generalize (P1 s).1 = x1 at *
  generalize (P2 s).1 = x2 at *
  generalize (P3 s).1 = x3 at *
  generalize (P4 s).1 = x4 at *
  generalize (P5 s).1 = x5 at *
  generalize (P6 s).1 = x6 at *
  generalize (P7 s).1 = x7 at *
  generalize (P8 s).1 = x8 at *
  generalize (P9 t s).1 = x9 at *
  generalize (P10 t s).1 = x10 at *
  generalize (P11 t s).1 = x11 at *
  generalize (P12 t s).1 = x12 at *
  exact ⟨by simp only; omega, by simp only; omega, q2, unzig_lt q3, q4, q5, q6, unzig_lt q7, unzig_lt q8, la, lb, lc, by simp only; omega, hv.1⟩
/-- s is the bytes of r, which may be -/
structure Is (s : List UInt8) (r : R12) : Prop where
  may : May r
  k : Rk r
  eq : bytR r = s
theorem pre {r q : R12} (hr : May r) (kr : Rk r) (hq : May q) (kq : Rk q) {more : List UInt8} (h : bytR q = bytR r ++ more) : q = r ∧ more = [] := by
  have l1 := hr.la; have l2 := hq.la
  have b1 := back kr hr.1 (t := (4096, 4096, 4096)) (by simp only; omega) (by simp only; omega) (by simp only; omega) more
  have b2 := back kq hq.1 (t := (4096, 4096, 4096)) (by simp only; omega) (by simp only; omega) (by simp only; omega) []
  rw [List.append_nil, h] at b2
  have e : q = r := b2.1.symm.trans b1.1
  refine ⟨e, ?_⟩
  have h2 := congrArg Prod.fst (b2.2.1.symm.trans b1.2.1)
  simp only at h2
  rw [e, List.append_nil] at h2
  have h3 := congrArg List.length h2
  rw [List.length_append] at h3
  exact List.length_eq_zero_iff.1 (by omega)
theorem Is.one {s : List UInt8} {r q : R12} (h : Is s r) (k : Is s q) : r = q := (pre k.may k.k h.may h.k (more := []) (by rw [List.append_nil, h.eq, k.eq])).1
end Go.Proofs.Ytippnkendoghpaa.r12

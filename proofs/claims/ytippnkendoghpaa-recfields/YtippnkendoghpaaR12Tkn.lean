/-
  Package rec: what is taken of bytes, field by field, into a record in memory.
-/
import Derived.Test.YtippnkendoghpaaR12Tk
namespace Go.Proofs.Ytippnkendoghpaa.r12
open Go.RowKit Go.Shelf Go.Sort
open Go.Lib hiding intOf

/-- a record's cells; the record as a value -/
def rC (r : R12) (vv : Value) : Array Value := #[.int .i64 r.cl, .int .i64 r.kd, .int .u64 (r.fr : Int), .int .i64 r.tm, .int .u64 (r.k1 : Int), .int .u64 (r.k2 : Int), .int .u64 (r.k3 : Int), .int .i64 r.n, .int .i64 r.m, .string (S r.a), .string (S r.b), .string (S r.c), vv]
def rV (r : R12) (vv : Value) : Value := .agg (rC r vv)
def tt : Int × Int × Int := (4096, 4096, 4096)
theorem eta3 {α β γ : Type} (p : α × β × γ) : p = (p.1, p.2.1, p.2.2) := rfl
/-- what is read, field by field: the value, what is left, the error -/
structure Chn (s : List UInt8) where
  u0 : Nat
  l0 : List UInt8
  e0 : Nat
  u1 : Nat
  l1 : List UInt8
  e1 : Nat
  u2 : Nat
  l2 : List UInt8
  e2 : Nat
  u3 : Nat
  l3 : List UInt8
  e3 : Nat
  u4 : Nat
  l4 : List UInt8
  e4 : Nat
  u5 : Nat
  l5 : List UInt8
  e5 : Nat
  u6 : Nat
  l6 : List UInt8
  e6 : Nat
  u7 : Nat
  l7 : List UInt8
  e7 : Nat
  u8 : Nat
  l8 : List UInt8
  e8 : Nat
  u9 : List UInt8
  l9 : List UInt8
  e9 : Nat
  u10 : List UInt8
  l10 : List UInt8
  e10 : Nat
  u11 : List UInt8
  l11 : List UInt8
  e11 : Nat
  h0 : rdB s 0 = (u0, l0, e0)
  n0 : l0.length ≤ s.length
  h1 : rdB l0 e0 = (u1, l1, e1)
  n1 : l1.length ≤ s.length
  h2 : rdU l1 e1 = (u2, l2, e2)
  n2 : l2.length ≤ s.length
  h3 : rdU l2 e2 = (u3, l3, e3)
  n3 : l3.length ≤ s.length
  h4 : rdU l3 e3 = (u4, l4, e4)
  n4 : l4.length ≤ s.length
  h5 : rdU l4 e4 = (u5, l5, e5)
  n5 : l5.length ≤ s.length
  h6 : rdU l5 e5 = (u6, l6, e6)
  n6 : l6.length ≤ s.length
  h7 : rdU l6 e6 = (u7, l7, e7)
  n7 : l7.length ≤ s.length
  h8 : rdU l7 e7 = (u8, l8, e8)
  n8 : l8.length ≤ s.length
  h9 : rdT 4096 l8 e8 = (u9, l9, e9)
  n9 : l9.length ≤ s.length
  h10 : rdT 4096 l9 e9 = (u10, l10, e10)
  n10 : l10.length ≤ s.length
  h11 : rdT 4096 l10 e10 = (u11, l11, e11)
  n11 : l11.length ≤ s.length
  b0 : u0 < 256
  b1 : u1 < 256
def Chn.rc {s : List UInt8} (c : Chn s) (v : List Vr) : R12 := ⟨(c.u0 : Int), (c.u1 : Int), c.u2, Lib.unzigzag c.u3, c.u4, c.u5, c.u6, Lib.unzigzag c.u7, Lib.unzigzag c.u8, c.u9, c.u10, c.u11, v⟩
def X0 : Array Value := #[.int .i64 0, .int .i64 0, .int .u64 0, .int .i64 0, .int .u64 0, .int .u64 0, .int .u64 0, .int .i64 0, .int .i64 0, .string ⟨#[]⟩, .string ⟨#[]⟩, .string ⟨#[]⟩, .slice none 0 0]
def X1 {s : List UInt8} (c : Chn s) : Array Value := #[.int .i64 (c.u0 : Int), .int .i64 0, .int .u64 0, .int .i64 0, .int .u64 0, .int .u64 0, .int .u64 0, .int .i64 0, .int .i64 0, .string ⟨#[]⟩, .string ⟨#[]⟩, .string ⟨#[]⟩, .slice none 0 0]
def X2 {s : List UInt8} (c : Chn s) : Array Value := #[.int .i64 (c.u0 : Int), .int .i64 (c.u1 : Int), .int .u64 0, .int .i64 0, .int .u64 0, .int .u64 0, .int .u64 0, .int .i64 0, .int .i64 0, .string ⟨#[]⟩, .string ⟨#[]⟩, .string ⟨#[]⟩, .slice none 0 0]
def X3 {s : List UInt8} (c : Chn s) : Array Value := #[.int .i64 (c.u0 : Int), .int .i64 (c.u1 : Int), .int .u64 (c.u2 : Int), .int .i64 0, .int .u64 0, .int .u64 0, .int .u64 0, .int .i64 0, .int .i64 0, .string ⟨#[]⟩, .string ⟨#[]⟩, .string ⟨#[]⟩, .slice none 0 0]
def X4 {s : List UInt8} (c : Chn s) : Array Value := #[.int .i64 (c.u0 : Int), .int .i64 (c.u1 : Int), .int .u64 (c.u2 : Int), .int .i64 (Lib.unzigzag c.u3), .int .u64 0, .int .u64 0, .int .u64 0, .int .i64 0, .int .i64 0, .string ⟨#[]⟩, .string ⟨#[]⟩, .string ⟨#[]⟩, .slice none 0 0]
def X5 {s : List UInt8} (c : Chn s) : Array Value := #[.int .i64 (c.u0 : Int), .int .i64 (c.u1 : Int), .int .u64 (c.u2 : Int), .int .i64 (Lib.unzigzag c.u3), .int .u64 (c.u4 : Int), .int .u64 0, .int .u64 0, .int .i64 0, .int .i64 0, .string ⟨#[]⟩, .string ⟨#[]⟩, .string ⟨#[]⟩, .slice none 0 0]
def X6 {s : List UInt8} (c : Chn s) : Array Value := #[.int .i64 (c.u0 : Int), .int .i64 (c.u1 : Int), .int .u64 (c.u2 : Int), .int .i64 (Lib.unzigzag c.u3), .int .u64 (c.u4 : Int), .int .u64 (c.u5 : Int), .int .u64 0, .int .i64 0, .int .i64 0, .string ⟨#[]⟩, .string ⟨#[]⟩, .string ⟨#[]⟩, .slice none 0 0]
def X7 {s : List UInt8} (c : Chn s) : Array Value := #[.int .i64 (c.u0 : Int), .int .i64 (c.u1 : Int), .int .u64 (c.u2 : Int), .int .i64 (Lib.unzigzag c.u3), .int .u64 (c.u4 : Int), .int .u64 (c.u5 : Int), .int .u64 (c.u6 : Int), .int .i64 0, .int .i64 0, .string ⟨#[]⟩, .string ⟨#[]⟩, .string ⟨#[]⟩, .slice none 0 0]
def X8 {s : List UInt8} (c : Chn s) : Array Value := #[.int .i64 (c.u0 : Int), .int .i64 (c.u1 : Int), .int .u64 (c.u2 : Int), .int .i64 (Lib.unzigzag c.u3), .int .u64 (c.u4 : Int), .int .u64 (c.u5 : Int), .int .u64 (c.u6 : Int), .int .i64 (Lib.unzigzag c.u7), .int .i64 0, .string ⟨#[]⟩, .string ⟨#[]⟩, .string ⟨#[]⟩, .slice none 0 0]
def X9 {s : List UInt8} (c : Chn s) : Array Value := #[.int .i64 (c.u0 : Int), .int .i64 (c.u1 : Int), .int .u64 (c.u2 : Int), .int .i64 (Lib.unzigzag c.u3), .int .u64 (c.u4 : Int), .int .u64 (c.u5 : Int), .int .u64 (c.u6 : Int), .int .i64 (Lib.unzigzag c.u7), .int .i64 (Lib.unzigzag c.u8), .string ⟨#[]⟩, .string ⟨#[]⟩, .string ⟨#[]⟩, .slice none 0 0]
def X10 {s : List UInt8} (c : Chn s) : Array Value := #[.int .i64 (c.u0 : Int), .int .i64 (c.u1 : Int), .int .u64 (c.u2 : Int), .int .i64 (Lib.unzigzag c.u3), .int .u64 (c.u4 : Int), .int .u64 (c.u5 : Int), .int .u64 (c.u6 : Int), .int .i64 (Lib.unzigzag c.u7), .int .i64 (Lib.unzigzag c.u8), .string (S c.u9), .string ⟨#[]⟩, .string ⟨#[]⟩, .slice none 0 0]
def X11 {s : List UInt8} (c : Chn s) : Array Value := #[.int .i64 (c.u0 : Int), .int .i64 (c.u1 : Int), .int .u64 (c.u2 : Int), .int .i64 (Lib.unzigzag c.u3), .int .u64 (c.u4 : Int), .int .u64 (c.u5 : Int), .int .u64 (c.u6 : Int), .int .i64 (Lib.unzigzag c.u7), .int .i64 (Lib.unzigzag c.u8), .string (S c.u9), .string (S c.u10), .string ⟨#[]⟩, .slice none 0 0]
def X12 {s : List UInt8} (c : Chn s) : Array Value := #[.int .i64 (c.u0 : Int), .int .i64 (c.u1 : Int), .int .u64 (c.u2 : Int), .int .i64 (Lib.unzigzag c.u3), .int .u64 (c.u4 : Int), .int .u64 (c.u5 : Int), .int .u64 (c.u6 : Int), .int .i64 (Lib.unzigzag c.u7), .int .i64 (Lib.unzigzag c.u8), .string (S c.u9), .string (S c.u10), .string (S c.u11), .slice none 0 0]
theorem np12 {s : List UInt8} (c : Chn s) : Np (X12 c) := fun o t n h1 h2 => by
  unfold X12 at h1 h2
  match o with
  | 0 => first | (simp at h1; done) | (simp at h2; done)
  | 1 => first | (simp at h1; done) | (simp at h2; done)
  | 2 => first | (simp at h1; done) | (simp at h2; done)
  | 3 => first | (simp at h1; done) | (simp at h2; done)
  | 4 => first | (simp at h1; done) | (simp at h2; done)
  | 5 => first | (simp at h1; done) | (simp at h2; done)
  | 6 => first | (simp at h1; done) | (simp at h2; done)
  | 7 => first | (simp at h1; done) | (simp at h2; done)
  | 8 => first | (simp at h1; done) | (simp at h2; done)
  | 9 => first | (simp at h1; done) | (simp at h2; done)
  | 10 => first | (simp at h1; done) | (simp at h2; done)
  | 11 => first | (simp at h1; done) | (simp at h2; done)
  | 12 => first | (simp at h1; done) | (simp at h2; done)
  | o + 13 => simp at h1
theorem x13 {s : List UInt8} (c : Chn s) (v : List Vr) (vv : Value) : (X12 c).setIfInBounds 12 vv = rC (c.rc v) vv := rfl
/-- what stands when j fields are taken -/
def Jt (w : World) (ib rb : Nat) {s : List UInt8} (c : Chn s) : Nat → World → Prop
  | 0, W => Ch (fun b => b = ib ∨ b = rb) w W ∧ Rd W ib s 0 ∧ Rx W rb X0
  | 1, W => Ch (fun b => b = ib ∨ b = rb) w W ∧ Rd W ib c.l0 c.e0 ∧ Rx W rb (X1 c)
  | 2, W => Ch (fun b => b = ib ∨ b = rb) w W ∧ Rd W ib c.l1 c.e1 ∧ Rx W rb (X2 c)
  | 3, W => Ch (fun b => b = ib ∨ b = rb) w W ∧ Rd W ib c.l2 c.e2 ∧ Rx W rb (X3 c)
  | 4, W => Ch (fun b => b = ib ∨ b = rb) w W ∧ Rd W ib c.l3 c.e3 ∧ Rx W rb (X4 c)
  | 5, W => Ch (fun b => b = ib ∨ b = rb) w W ∧ Rd W ib c.l4 c.e4 ∧ Rx W rb (X5 c)
  | 6, W => Ch (fun b => b = ib ∨ b = rb) w W ∧ Rd W ib c.l5 c.e5 ∧ Rx W rb (X6 c)
  | 7, W => Ch (fun b => b = ib ∨ b = rb) w W ∧ Rd W ib c.l6 c.e6 ∧ Rx W rb (X7 c)
  | 8, W => Ch (fun b => b = ib ∨ b = rb) w W ∧ Rd W ib c.l7 c.e7 ∧ Rx W rb (X8 c)
  | 9, W => Ch (fun b => b = ib ∨ b = rb) w W ∧ Rd W ib c.l8 c.e8 ∧ Rx W rb (X9 c)
  | 10, W => Ch (fun b => b = ib ∨ b = rb) w W ∧ Rd W ib c.l9 c.e9 ∧ Rx W rb (X10 c)
  | 11, W => Ch (fun b => b = ib ∨ b = rb) w W ∧ Rd W ib c.l10 c.e10 ∧ Rx W rb (X11 c)
  | 12, W => Ch (fun b => b = ib ∨ b = rb) w W ∧ Rd W ib c.l11 c.e11 ∧ Rx W rb (X12 c)
  | _, W => Ch (fun b => b = ib ∨ b = rb) w W ∧ ∃ vv, Vs W vv (if c.e11 = 0 then (tlR c.l11).1 else []) ∧ Rx W rb (rC (c.rc (if c.e11 = 0 then (tlR c.l11).1 else [])) vv)

theorem vs_same {L M : List Vr} {w : World} {v : Value} (h : L = M) (k : Vs w v L) : Vs w v M := h ▸ k
theorem rx_alloc {W : World} {rb : Nat} {cs : Array Value} (h : Rx W rb cs) (o : Obj) : Rx (W.alloc o) rb cs := h.up ((Below.refl _ _).alloc (Nat.le_refl _) o)
theorem cell_alloc {W : World} {p : Addr} {v : Value} (h : W.cell? p = some v) (hp : p.block < W.heap.size) (o : Obj) : (W.alloc o).cell? p = some v := (((Below.refl W.heap.size W).alloc (Nat.le_refl _) o).cell hp).trans h

theorem step0 {w W : World} {ib rb x : Nat} {s : List UInt8} {c : Chn s} (_hs : s.length ≤ 140737488355328) (hx : w.cell? ⟨x, 0, none⟩ = some (.pointer (some ⟨rb, 0, none⟩))) (hxl : x < w.heap.size) (hxi : x ≠ ib) (hxr : x ≠ rb) (hri : rb ≠ ib) (hJ : Jt w ib rb c 0 W) (o : Obj) :
    Calls Try.prog 57 #[.pointer (some ⟨ib, 0, none⟩), .pointer (some ⟨x, 0, none⟩)] (W.alloc o) fun e w' => (∃ v, e = .returned v) ∧ Jt w ib rb c 1 w' := by
  obtain ⟨hch, hd, hr⟩ := hJ
  have hxW : W.cell? ⟨x, 0, none⟩ = some (.pointer (some ⟨rb, 0, none⟩)) := hch.cell hx (fun e => e.elim hxi hxr)
  have hxl2 : x < W.heap.size := Nat.lt_of_lt_of_le hxl hch.size
  refine (small_tk (cell_alloc hxW hxl2 o) (rx_alloc hr o) (old := .int .i64 0) rfl (hd.alloc o) (show Hid _ from c.h0) c.b0 (by rw [World.size_alloc]; omega) hxi hri).mono ?_
  rintro e w' ⟨he, hd2, h1, h2⟩
  exact ⟨he, (hch.alloc o).trans h2, hd2, h1⟩

theorem step1 {w W : World} {ib rb x : Nat} {s : List UInt8} {c : Chn s} (_hs : s.length ≤ 140737488355328) (hx : w.cell? ⟨x, 0, none⟩ = some (.pointer (some ⟨rb, 1, none⟩))) (hxl : x < w.heap.size) (hxi : x ≠ ib) (hxr : x ≠ rb) (hri : rb ≠ ib) (hJ : Jt w ib rb c 1 W) (o : Obj) :
    Calls Try.prog 57 #[.pointer (some ⟨ib, 0, none⟩), .pointer (some ⟨x, 0, none⟩)] (W.alloc o) fun e w' => (∃ v, e = .returned v) ∧ Jt w ib rb c 2 w' := by
  obtain ⟨hch, hd, hr⟩ := hJ
  have hxW : W.cell? ⟨x, 0, none⟩ = some (.pointer (some ⟨rb, 1, none⟩)) := hch.cell hx (fun e => e.elim hxi hxr)
  have hxl2 : x < W.heap.size := Nat.lt_of_lt_of_le hxl hch.size
  refine (small_tk (cell_alloc hxW hxl2 o) (rx_alloc hr o) (old := .int .i64 0) rfl (hd.alloc o) (show Hid _ from c.h1) c.b1 (by rw [World.size_alloc]; omega) hxi hri).mono ?_
  rintro e w' ⟨he, hd2, h1, h2⟩
  exact ⟨he, (hch.alloc o).trans h2, hd2, h1⟩

theorem step2 {w W : World} {ib rb x : Nat} {s : List UInt8} {c : Chn s} (_hs : s.length ≤ 140737488355328) (hx : w.cell? ⟨x, 0, none⟩ = some (.pointer (some ⟨rb, 2, none⟩))) (hxl : x < w.heap.size) (hxi : x ≠ ib) (hxr : x ≠ rb) (hri : rb ≠ ib) (hJ : Jt w ib rb c 2 W) (o : Obj) :
    Calls Try.prog 61 #[.pointer (some ⟨ib, 0, none⟩), .pointer (some ⟨x, 0, none⟩)] (W.alloc o) fun e w' => (∃ v, e = .returned v) ∧ Jt w ib rb c 3 w' := by
  obtain ⟨hch, hd, hr⟩ := hJ
  have hxW : W.cell? ⟨x, 0, none⟩ = some (.pointer (some ⟨rb, 2, none⟩)) := hch.cell hx (fun e => e.elim hxi hxr)
  have hxl2 : x < W.heap.size := Nat.lt_of_lt_of_le hxl hch.size
  refine (count_tk (cell_alloc hxW hxl2 o) (rx_alloc hr o) (old := .int .u64 0) rfl (hd.alloc o) (show Hid _ from c.h2)  (by rw [World.size_alloc]; omega) hxi hri).mono ?_
  rintro e w' ⟨he, hd2, h1, h2⟩
  exact ⟨he, (hch.alloc o).trans h2, hd2, h1⟩

theorem step3 {w W : World} {ib rb x : Nat} {s : List UInt8} {c : Chn s} (_hs : s.length ≤ 140737488355328) (hx : w.cell? ⟨x, 0, none⟩ = some (.pointer (some ⟨rb, 3, none⟩))) (hxl : x < w.heap.size) (hxi : x ≠ ib) (hxr : x ≠ rb) (hri : rb ≠ ib) (hJ : Jt w ib rb c 3 W) (o : Obj) :
    Calls Try.prog 65 #[.pointer (some ⟨ib, 0, none⟩), .pointer (some ⟨x, 0, none⟩)] (W.alloc o) fun e w' => (∃ v, e = .returned v) ∧ Jt w ib rb c 4 w' := by
  obtain ⟨hch, hd, hr⟩ := hJ
  have hxW : W.cell? ⟨x, 0, none⟩ = some (.pointer (some ⟨rb, 3, none⟩)) := hch.cell hx (fun e => e.elim hxi hxr)
  have hxl2 : x < W.heap.size := Nat.lt_of_lt_of_le hxl hch.size
  refine (number_tk (cell_alloc hxW hxl2 o) (rx_alloc hr o) (old := .int .i64 0) rfl (hd.alloc o) (show Hid _ from c.h3)  (by rw [World.size_alloc]; omega) hxi hri).mono ?_
  rintro e w' ⟨he, hd2, h1, h2⟩
  exact ⟨he, (hch.alloc o).trans h2, hd2, h1⟩

theorem step4 {w W : World} {ib rb x : Nat} {s : List UInt8} {c : Chn s} (_hs : s.length ≤ 140737488355328) (hx : w.cell? ⟨x, 0, none⟩ = some (.pointer (some ⟨rb, 4, none⟩))) (hxl : x < w.heap.size) (hxi : x ≠ ib) (hxr : x ≠ rb) (hri : rb ≠ ib) (hJ : Jt w ib rb c 4 W) (o : Obj) :
    Calls Try.prog 61 #[.pointer (some ⟨ib, 0, none⟩), .pointer (some ⟨x, 0, none⟩)] (W.alloc o) fun e w' => (∃ v, e = .returned v) ∧ Jt w ib rb c 5 w' := by
  obtain ⟨hch, hd, hr⟩ := hJ
  have hxW : W.cell? ⟨x, 0, none⟩ = some (.pointer (some ⟨rb, 4, none⟩)) := hch.cell hx (fun e => e.elim hxi hxr)
  have hxl2 : x < W.heap.size := Nat.lt_of_lt_of_le hxl hch.size
  refine (count_tk (cell_alloc hxW hxl2 o) (rx_alloc hr o) (old := .int .u64 0) rfl (hd.alloc o) (show Hid _ from c.h4)  (by rw [World.size_alloc]; omega) hxi hri).mono ?_
  rintro e w' ⟨he, hd2, h1, h2⟩
  exact ⟨he, (hch.alloc o).trans h2, hd2, h1⟩

theorem step5 {w W : World} {ib rb x : Nat} {s : List UInt8} {c : Chn s} (_hs : s.length ≤ 140737488355328) (hx : w.cell? ⟨x, 0, none⟩ = some (.pointer (some ⟨rb, 5, none⟩))) (hxl : x < w.heap.size) (hxi : x ≠ ib) (hxr : x ≠ rb) (hri : rb ≠ ib) (hJ : Jt w ib rb c 5 W) (o : Obj) :
    Calls Try.prog 61 #[.pointer (some ⟨ib, 0, none⟩), .pointer (some ⟨x, 0, none⟩)] (W.alloc o) fun e w' => (∃ v, e = .returned v) ∧ Jt w ib rb c 6 w' := by
  obtain ⟨hch, hd, hr⟩ := hJ
  have hxW : W.cell? ⟨x, 0, none⟩ = some (.pointer (some ⟨rb, 5, none⟩)) := hch.cell hx (fun e => e.elim hxi hxr)
  have hxl2 : x < W.heap.size := Nat.lt_of_lt_of_le hxl hch.size
  refine (count_tk (cell_alloc hxW hxl2 o) (rx_alloc hr o) (old := .int .u64 0) rfl (hd.alloc o) (show Hid _ from c.h5)  (by rw [World.size_alloc]; omega) hxi hri).mono ?_
  rintro e w' ⟨he, hd2, h1, h2⟩
  exact ⟨he, (hch.alloc o).trans h2, hd2, h1⟩

theorem step6 {w W : World} {ib rb x : Nat} {s : List UInt8} {c : Chn s} (_hs : s.length ≤ 140737488355328) (hx : w.cell? ⟨x, 0, none⟩ = some (.pointer (some ⟨rb, 6, none⟩))) (hxl : x < w.heap.size) (hxi : x ≠ ib) (hxr : x ≠ rb) (hri : rb ≠ ib) (hJ : Jt w ib rb c 6 W) (o : Obj) :
    Calls Try.prog 61 #[.pointer (some ⟨ib, 0, none⟩), .pointer (some ⟨x, 0, none⟩)] (W.alloc o) fun e w' => (∃ v, e = .returned v) ∧ Jt w ib rb c 7 w' := by
  obtain ⟨hch, hd, hr⟩ := hJ
  have hxW : W.cell? ⟨x, 0, none⟩ = some (.pointer (some ⟨rb, 6, none⟩)) := hch.cell hx (fun e => e.elim hxi hxr)
  have hxl2 : x < W.heap.size := Nat.lt_of_lt_of_le hxl hch.size
  refine (count_tk (cell_alloc hxW hxl2 o) (rx_alloc hr o) (old := .int .u64 0) rfl (hd.alloc o) (show Hid _ from c.h6)  (by rw [World.size_alloc]; omega) hxi hri).mono ?_
  rintro e w' ⟨he, hd2, h1, h2⟩
  exact ⟨he, (hch.alloc o).trans h2, hd2, h1⟩

theorem step7 {w W : World} {ib rb x : Nat} {s : List UInt8} {c : Chn s} (_hs : s.length ≤ 140737488355328) (hx : w.cell? ⟨x, 0, none⟩ = some (.pointer (some ⟨rb, 7, none⟩))) (hxl : x < w.heap.size) (hxi : x ≠ ib) (hxr : x ≠ rb) (hri : rb ≠ ib) (hJ : Jt w ib rb c 7 W) (o : Obj) :
    Calls Try.prog 65 #[.pointer (some ⟨ib, 0, none⟩), .pointer (some ⟨x, 0, none⟩)] (W.alloc o) fun e w' => (∃ v, e = .returned v) ∧ Jt w ib rb c 8 w' := by
  obtain ⟨hch, hd, hr⟩ := hJ
  have hxW : W.cell? ⟨x, 0, none⟩ = some (.pointer (some ⟨rb, 7, none⟩)) := hch.cell hx (fun e => e.elim hxi hxr)
  have hxl2 : x < W.heap.size := Nat.lt_of_lt_of_le hxl hch.size
  refine (number_tk (cell_alloc hxW hxl2 o) (rx_alloc hr o) (old := .int .i64 0) rfl (hd.alloc o) (show Hid _ from c.h7)  (by rw [World.size_alloc]; omega) hxi hri).mono ?_
  rintro e w' ⟨he, hd2, h1, h2⟩
  exact ⟨he, (hch.alloc o).trans h2, hd2, h1⟩

theorem step8 {w W : World} {ib rb x : Nat} {s : List UInt8} {c : Chn s} (_hs : s.length ≤ 140737488355328) (hx : w.cell? ⟨x, 0, none⟩ = some (.pointer (some ⟨rb, 8, none⟩))) (hxl : x < w.heap.size) (hxi : x ≠ ib) (hxr : x ≠ rb) (hri : rb ≠ ib) (hJ : Jt w ib rb c 8 W) (o : Obj) :
    Calls Try.prog 65 #[.pointer (some ⟨ib, 0, none⟩), .pointer (some ⟨x, 0, none⟩)] (W.alloc o) fun e w' => (∃ v, e = .returned v) ∧ Jt w ib rb c 9 w' := by
  obtain ⟨hch, hd, hr⟩ := hJ
  have hxW : W.cell? ⟨x, 0, none⟩ = some (.pointer (some ⟨rb, 8, none⟩)) := hch.cell hx (fun e => e.elim hxi hxr)
  have hxl2 : x < W.heap.size := Nat.lt_of_lt_of_le hxl hch.size
  refine (number_tk (cell_alloc hxW hxl2 o) (rx_alloc hr o) (old := .int .i64 0) rfl (hd.alloc o) (show Hid _ from c.h8)  (by rw [World.size_alloc]; omega) hxi hri).mono ?_
  rintro e w' ⟨he, hd2, h1, h2⟩
  exact ⟨he, (hch.alloc o).trans h2, hd2, h1⟩

theorem step9 {w W : World} {ib rb x : Nat} {s : List UInt8} {c : Chn s} (hs : s.length ≤ 140737488355328) (hx : w.cell? ⟨x, 0, none⟩ = some (.pointer (some ⟨rb, 9, none⟩))) (hxl : x < w.heap.size) (hxi : x ≠ ib) (hxr : x ≠ rb) (hri : rb ≠ ib) (hJ : Jt w ib rb c 9 W) (o : Obj) :
    Calls Try.prog 69 #[.pointer (some ⟨ib, 0, none⟩), .pointer (some ⟨x, 0, none⟩)] (W.alloc o) fun e w' => (∃ v, e = .returned v) ∧ Jt w ib rb c 10 w' := by
  obtain ⟨hch, hd, hr⟩ := hJ
  have hxW : W.cell? ⟨x, 0, none⟩ = some (.pointer (some ⟨rb, 9, none⟩)) := hch.cell hx (fun e => e.elim hxi hxr)
  have hxl2 : x < W.heap.size := Nat.lt_of_lt_of_le hxl hch.size
  refine (text_tk (cell_alloc hxW hxl2 o) (rx_alloc hr o) (old := .string ⟨#[]⟩) rfl (hd.alloc o) (show Hid _ from c.h9) (Nat.le_trans c.n8 hs) (by rw [World.size_alloc]; omega) hxi hri).mono ?_
  rintro e w' ⟨he, hd2, h1, h2⟩
  exact ⟨he, (hch.alloc o).trans h2, hd2, h1⟩

theorem step10 {w W : World} {ib rb x : Nat} {s : List UInt8} {c : Chn s} (hs : s.length ≤ 140737488355328) (hx : w.cell? ⟨x, 0, none⟩ = some (.pointer (some ⟨rb, 10, none⟩))) (hxl : x < w.heap.size) (hxi : x ≠ ib) (hxr : x ≠ rb) (hri : rb ≠ ib) (hJ : Jt w ib rb c 10 W) (o : Obj) :
    Calls Try.prog 69 #[.pointer (some ⟨ib, 0, none⟩), .pointer (some ⟨x, 0, none⟩)] (W.alloc o) fun e w' => (∃ v, e = .returned v) ∧ Jt w ib rb c 11 w' := by
  obtain ⟨hch, hd, hr⟩ := hJ
  have hxW : W.cell? ⟨x, 0, none⟩ = some (.pointer (some ⟨rb, 10, none⟩)) := hch.cell hx (fun e => e.elim hxi hxr)
  have hxl2 : x < W.heap.size := Nat.lt_of_lt_of_le hxl hch.size
  refine (text_tk (cell_alloc hxW hxl2 o) (rx_alloc hr o) (old := .string ⟨#[]⟩) rfl (hd.alloc o) (show Hid _ from c.h10) (Nat.le_trans c.n9 hs) (by rw [World.size_alloc]; omega) hxi hri).mono ?_
  rintro e w' ⟨he, hd2, h1, h2⟩
  exact ⟨he, (hch.alloc o).trans h2, hd2, h1⟩

theorem step11 {w W : World} {ib rb x : Nat} {s : List UInt8} {c : Chn s} (hs : s.length ≤ 140737488355328) (hx : w.cell? ⟨x, 0, none⟩ = some (.pointer (some ⟨rb, 11, none⟩))) (hxl : x < w.heap.size) (hxi : x ≠ ib) (hxr : x ≠ rb) (hri : rb ≠ ib) (hJ : Jt w ib rb c 11 W) (o : Obj) :
    Calls Try.prog 69 #[.pointer (some ⟨ib, 0, none⟩), .pointer (some ⟨x, 0, none⟩)] (W.alloc o) fun e w' => (∃ v, e = .returned v) ∧ Jt w ib rb c 12 w' := by
  obtain ⟨hch, hd, hr⟩ := hJ
  have hxW : W.cell? ⟨x, 0, none⟩ = some (.pointer (some ⟨rb, 11, none⟩)) := hch.cell hx (fun e => e.elim hxi hxr)
  have hxl2 : x < W.heap.size := Nat.lt_of_lt_of_le hxl hch.size
  refine (text_tk (cell_alloc hxW hxl2 o) (rx_alloc hr o) (old := .string ⟨#[]⟩) rfl (hd.alloc o) (show Hid _ from c.h11) (Nat.le_trans c.n10 hs) (by rw [World.size_alloc]; omega) hxi hri).mono ?_
  rintro e w' ⟨he, hd2, h1, h2⟩
  exact ⟨he, (hch.alloc o).trans h2, hd2, h1⟩

theorem step12 {w W : World} {ib rb x : Nat} {s : List UInt8} {c : Chn s} (hs : s.length ≤ 140737488355328) (hx : w.cell? ⟨x, 0, none⟩ = some (.pointer (some ⟨rb, 12, none⟩))) (hxl : x < w.heap.size) (hxi : x ≠ ib) (hxr : x ≠ rb) (hri : rb ≠ ib) (hJ : Jt w ib rb c 12 W) (o : Obj) :
    Calls Try.prog 73 #[.pointer (some ⟨ib, 0, none⟩), .pointer (some ⟨x, 0, none⟩)] (W.alloc o) fun e w' => (∃ v, e = .returned v) ∧ Jt w ib rb c 13 w' := by
  obtain ⟨hch, hd, hr⟩ := hJ
  have hxW : W.cell? ⟨x, 0, none⟩ = some (.pointer (some ⟨rb, 12, none⟩)) := hch.cell hx (fun e => e.elim hxi hxr)
  have hxl2 : x < W.heap.size := Nat.lt_of_lt_of_le hxl hch.size
  refine (list_tk (cell_alloc hxW hxl2 o) (rx_alloc hr o) (old := .slice none 0 0) rfl (hd.alloc o) (np12 c) (Nat.le_trans c.n11 hs) (by rw [World.size_alloc]; omega) hxi hri).mono ?_
  rintro e w' ⟨he, vv, hv, h1, h2⟩
  exact ⟨he, (hch.alloc o).trans h2, vv, hv, h1⟩

theorem takenR {w0 w : World} {rb ib fb : Nat} {X : List Nat} {s : List UInt8} (c : Chn s) (hs : s.length ≤ 140737488355328) (hF : Fds w0 w rb fb X) (hr : Rx w rb X0) (hd : Rd w ib s 0) (hrb : rb < w0.heap.size) (hib : ib < w0.heap.size ∨ ∀ j, j < 13 → X.getD j 0 < ib) (hfi : fb ≠ ib) (hri : rb ≠ ib) :
    Calls Try.prog 25 #[.slice (some ⟨fb, 0, none⟩) 13 13, .pointer (some ⟨ib, 0, none⟩)] w fun e w' => (∃ v, e = .returned v) ∧ Ch (fun b => b = ib ∨ b = rb) w w' ∧ ∃ vv, Vs w' vv (if c.e11 = 0 then (tlR c.l11).1 else []) ∧ Rx w' rb (rC (c.rc (if c.e11 = 0 then (tlR c.l11).1 else [])) vv) := by
  have hf := hF.2.1
  refine taken_any (J := Jt w ib rb c) ⟨Ch.refl _ _, hd, hr⟩ (fun j W hj hJ => ?_)
  obtain ⟨⟨x1, x2⟩, x3, x4, x5⟩ := hF.2.2 j hj
  have xi : X.getD j 0 ≠ ib := by
    rcases hib with h | h
    · omega
    · have := h j hj; omega
  have xr : X.getD j 0 ≠ rb := by omega
  have hfr : fb ≠ rb := by omega
  have hch : Ch (fun b => b = ib ∨ b = rb) w W := by
    match j, hj with
    | 0, _ => exact hJ.1
    | 1, _ => exact hJ.1
    | 2, _ => exact hJ.1
    | 3, _ => exact hJ.1
    | 4, _ => exact hJ.1
    | 5, _ => exact hJ.1
    | 6, _ => exact hJ.1
    | 7, _ => exact hJ.1
    | 8, _ => exact hJ.1
    | 9, _ => exact hJ.1
    | 10, _ => exact hJ.1
    | 11, _ => exact hJ.1
    | 12, _ => exact hJ.1
  refine ⟨GW.getD j 0, GT.getD j 0, .pointer (some ⟨X.getD j 0, 0, none⟩), GT_ent j hj, hch.cell x4 (fun e => e.elim hfi hfr), hch.cell x5 (fun e => e.elim hfi hfr), fun o => ?_⟩
  match j, hj with
  | 0, _ => exact step0 hs x3 x2 xi xr hri hJ o
  | 1, _ => exact step1 hs x3 x2 xi xr hri hJ o
  | 2, _ => exact step2 hs x3 x2 xi xr hri hJ o
  | 3, _ => exact step3 hs x3 x2 xi xr hri hJ o
  | 4, _ => exact step4 hs x3 x2 xi xr hri hJ o
  | 5, _ => exact step5 hs x3 x2 xi xr hri hJ o
  | 6, _ => exact step6 hs x3 x2 xi xr hri hJ o
  | 7, _ => exact step7 hs x3 x2 xi xr hri hJ o
  | 8, _ => exact step8 hs x3 x2 xi xr hri hJ o
  | 9, _ => exact step9 hs x3 x2 xi xr hri hJ o
  | 10, _ => exact step10 hs x3 x2 xi xr hri hJ o
  | 11, _ => exact step11 hs x3 x2 xi xr hri hJ o
  | 12, _ => exact step12 hs x3 x2 xi xr hri hJ o
end Go.Proofs.Ytippnkendoghpaa.r12

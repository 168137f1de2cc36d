/-
  Acts: elements of a slice; an argument that is a slice of them, of bounded bulk.
-/
import Derived.Test.YthmfcloecmnfnaaGreatB16Arb
namespace Go.Proofs.YthmfcloecmnfnaaGreat.f13
open Go.ChangeShapes Go.WideShapes Go.ChangeAt Go.WideMaps Go.WideElems Go.RowKit

structure Ax where
  kd : Int
  s : List UInt8
  t : List UInt8
  n : Int
  m : Int
  key : Nat
  wt : Int
def Ax.c (x : Ax) : List Value := [.int .i64 x.kd, .string (S x.s), .string (S x.t), .int .i64 x.n, .int .i64 x.m, .int .u64 (x.key : Int), .int .i64 x.wt]
theorem Ax.k (x : Ax) : x.c.length = 7 := rfl
set_option maxRecDepth 100000 in
set_option maxHeartbeats 1000000 in
theorem elemAxB {m0 : Nat} {H : Type} {enc : TypeId × Value → H} {W : World} (fuel : Nat) (cs : List Value) (y : DataW H × List MemPlace) (hl : cs.length = 7) (h : DataW.trod enc Tryz.prog W 0 (fun _ => true) true fuel 56 cs = some y) : ∃ x : Ax, cs = Ax.c x ∧ True ∧ (Rows.uptoBulk y.1 ≤ m0 → (x.s.length ≤ m0 ∧ x.t.length ≤ m0)) := by
  have hc_0 : Tryz.prog.cellsOf 3 = 1 := by kernel_rfl
  have hc_1 : Tryz.prog.cellsOf 2 = 1 := by kernel_rfl
  have hc_2 : Tryz.prog.cellsOf 9 = 1 := by kernel_rfl
  have hc_3 : Tryz.prog.cellsOf 22 = 1 := by kernel_rfl
  match cs, hl with
  | [z0, z1, z2, z3, z4, z5, z6], _ =>
    obtain ⟨xs, k, _, hD, _, hlen, hfs⟩ := DataW.trod_struct Tryz.underlying56 h
    match xs, hlen with
    | [y0, y1, y2, y3, y4, y5, y6], _ =>
      have t0 := hfs 0 _ rfl
      have t1 := hfs 1 _ rfl
      have t2 := hfs 2 _ rfl
      have t3 := hfs 3 _ rfl
      have t4 := hfs 4 _ rfl
      have t5 := hfs 5 _ rfl
      have t6 := hfs 6 _ rfl
      simp only [List.getElem_toArray, List.getElem_cons_zero, List.getElem_cons_succ, hc_0, hc_1, hc_2, hc_3, List.drop_zero, List.drop_succ_cons, List.take_succ_cons, List.take_zero, List.getElem?_cons_zero, List.getElem?_cons_succ] at t0 t1 t2 t3 t4 t5 t6
      obtain ⟨b0, e0, -, w0⟩ := DataW.trod_int Tryz.underlying3 t0
      obtain ⟨b1, e1, hd1, -⟩ := DataW.trod_string Tryz.underlying9 t1
      obtain ⟨b2, e2, hd2, -⟩ := DataW.trod_string Tryz.underlying9 t2
      obtain ⟨b3, e3, -, w3⟩ := DataW.trod_int Tryz.underlying2 t3
      obtain ⟨b4, e4, -, w4⟩ := DataW.trod_int Tryz.underlying2 t4
      obtain ⟨d5, e5, -, w5⟩ := DataW.trod_int Tryz.underlying22 t5
      obtain ⟨b5, rfl⟩ := nat_u64 w5
      obtain ⟨b6, e6, -, w6⟩ := DataW.trod_int Tryz.underlying2 t6
      simp only [List.cons.injEq, and_true] at e0 e1 e2 e3 e4 e5 e6
      subst e0 e1 e2 e3 e4 e5 e6
      refine ⟨⟨b0, b1.data.toList, b2.data.toList, b3, b4, b5, b6⟩, by simp [Ax.c, S_of], trivial, fun hw => ?_⟩
      have hd : y.1 = .agg [y0.1, y1.1, y2.1, y3.1, y4.1, y5.1, y6.1] := congrArg Prod.fst hD
      rw [hd, hd1, hd2] at hw
      simp only [Rows.uptoBulk, Rows.uptoBulkAll] at hw
      exact ⟨by show b1.data.toList.length ≤ m0; omega, by show b2.data.toList.length ≤ m0; omega⟩
set_option maxRecDepth 100000 in
/-- an argument that is a slice of acts -/
theorem openAxB {m0 : Nat} {H : Type} {enc : TypeId × Value → H} {W : World} {v : Value} {d : DataW H} {p : List MemPlace} (hv : ∃ a n c, v = .slice a n c)
    (h : DataW.Trod enc Tryz.prog W 0 (fun _ => true) true 48 v d p) : ∃ l : List Ax, Rr 7 Ax.c W v l ∧ (Rows.uptoBulk d ≤ m0 → l.length ≤ m0 ∧ ∀ x ∈ l, x.s.length ≤ m0 ∧ x.t.length ≤ m0) := by
  obtain ⟨a, n, c, rfl⟩ := hv
  obtain ⟨fuel, hf⟩ := h
  change DataW.trod enc Tryz.prog W 0 (fun _ => true) true fuel 48 [.slice a n c] = some (d, p) at hf
  obtain ⟨v', l, e, h1, -, h3⟩ := openRowsB (m0 := m0) (α := Ax) (Q := fun _ => True) (R := fun x => x.s.length ≤ m0 ∧ x.t.length ≤ m0) (k := 7) (fun _ => rfl) Tryz.underlying48 (by kernel_rfl) (by omega) elemAxB hf
  simp only [List.cons.injEq, and_true] at e
  subst e
  exact ⟨l, h1, h3⟩
end Go.Proofs.YthmfcloecmnfnaaGreat.f13

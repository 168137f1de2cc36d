/-
  A string turned into bytes of the call's own, one of them turned, and back.
-/
import Derived.Test.YtbnfmaooailfeabF5Put
namespace Go.Proofs.Ytbnfmaooailfeab
open Go.RowKit

/-- the bytes l lie in block b, and may be written -/
structure Bs (w : World) (b : Nat) (l : List UInt8) : Prop where
  cell : ∀ j (h : j < l.length), w.cell? ⟨b, j, none⟩ = some (.int .u8 (l[j].toNat : Int))
  fro : ∀ j, j < l.length → w.frozen? ⟨b, j, none⟩ = false
theorem Bs.set {w : World} {b i : Nat} {l : List UInt8} (h : Bs w b l) (hi : i < l.length) {v : Int} {y : UInt8} (hv : v = (y.toNat : Int)) : Bs (w.setCell ⟨b, i, none⟩ (.int .u8 v)) b (l.set i y) := by
  subst hv
  refine ⟨fun j hj => ?_, fun j hj => by rw [World.frozen?_setCell]; exact h.fro j (by simpa using hj)⟩
  have hj' : j < l.length := by simpa using hj
  by_cases e : j = i
  · subst e; rw [List.getElem_set_self]; exact World.cell?_setCell_same _ _ _ (h.cell j hj')
  · rw [World.cell?_setCell_other _ _ _ _ (by intro h; injection h with _ h2 _; exact e h2.symm), List.getElem_set_ne (fun h => e h.symm)]; exact h.cell j hj'
theorem Bs.below {w w' : World} {b B : Nat} {l : List UInt8} (h : Bs w b l) (hb : Below B w w') (hB : b < B) : Bs w' b l :=
  ⟨fun j hj => (hb.cell (p := ⟨b, j, none⟩) hB).trans (h.cell j hj), fun j hj => (hb.frozen (p := ⟨b, j, none⟩) hB).trans (h.fro j hj)⟩
theorem Bs.conv {w : World} {b cap : Nat} {l : List UInt8} (h : Bs w b l) : (convert 23 9 (.slice (some ⟨b, 0, none⟩) l.length cap)).run Try.prog w = .ok (.string (S l)) w :=
  run_convert_bytes_back (P := Try.prog) w 23 9 5 ⟨b, 0, none⟩ cap l Try.underlying23 Try.underlying5 Try.underlying9 (fun j hj => by
    rw [Addr.add_lit, Nat.zero_add]; exact h.cell j hj)
theorem bytes_new (w : World) (l : List UInt8) (hl : l.length ≤ maxLen) : ∃ W cap, (convert 9 23 (.string (S l))).run Try.prog w = .ok (.slice (some ⟨w.heap.size, 0, none⟩) l.length cap) W ∧ Bs W w.heap.size l ∧ Below w.heap.size w W ∧ w.heap.size < W.heap.size := by
  have hcv := run_bytes_of_string (P := Try.prog) w 9 23 5 (S l) Try.underlying9 Try.underlying23 Try.underlying5
  rw [S_size] at hcv
  have hM := bytes_M w 5 l hl
  refine ⟨_, _, hcv, ?_, (Below.refl _ w).drew.alloc (Nat.le_refl _) _, by simp⟩
  obtain ⟨h1, g, cap, cur, fz, hv, hb, hg, hm, hn, _, hs, ht⟩ := hM
  injection hv with hv _ hv2
  injection hv with hv
  injection hv with hv _ _
  subst hv
  have hcell : ∀ j (h : j < l.length), cur[j]? = some (.int .u8 (l[j].toNat : Int)) := by
    intro j h
    have h2 := congrArg (fun x => x[j]?) ht
    simp only [List.getElem?_take_of_lt h] at h2
    simp [Lib.byteCells, h] at h2
    simpa using h2
  refine ⟨fun j h => ?_, fun j h => ?_⟩
  · simp only [World.cell?]
    have e := hg
    unfold S at *
    rw [e]
    simpa using hcell j h
  · simp only [World.frozen?]
    have e := hg
    unfold S at *
    rw [e]
    exact hm j (by omega)
theorem turned {x : UInt8} {m : Nat} (h0 : 0 < m) (h1 : m < 256) : ∃ y : UInt8, bits .xor .u8 (x.toNat : Int) (m : Int) = (y.toNat : Int) ∧ x ≠ y := by
  have hx := x.toNat_lt
  have hlt : x.toNat ^^^ m < 256 := Nat.xor_lt_two_pow (n := 8) hx h1
  refine ⟨(x.toNat ^^^ m).toUInt8, ?_, ?_⟩
  · rw [Lib.toUInt8_toNat hlt]; exact Go.u8_xor_nat _ _ hx h1
  · intro e
    have e2 := congrArg UInt8.toNat e
    rw [Lib.toUInt8_toNat hlt] at e2
    have : m = 0 := xor_right (p := x.toNat) (by rw [← e2, Nat.xor_zero])
    omega
theorem split_at (l : List UInt8) {i : Nat} (h : i < l.length) : ∃ a b, l = a ++ l[i] :: b ∧ a.length = i ∧ ∀ y, l.set i y = a ++ y :: b := by
  have e : l = l.take i ++ l[i] :: l.drop (i + 1) := by rw [← List.drop_eq_getElem_cons h, List.take_append_drop]
  have hl : (l.take i).length = i := by rw [List.length_take]; omega
  refine ⟨l.take i, l.drop (i + 1), e, hl, fun y => ?_⟩
  conv => lhs; rw [e]
  rw [List.set_append_right _ _ (by omega), hl, Nat.sub_self]
  rfl
end Go.Proofs.Ytbnfmaooailfeab

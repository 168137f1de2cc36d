/-
  Package value's Get, the document's, and its Same: what they come to.
-/
import Derived.Test.YtippnkendoghpaaV9Cmp
import Derived.Laws.StructEq
namespace Go.Proofs.Ytippnkendoghpaa
open Go.RowKit Go.Shelf Go.Sort
open Go.Lib hiding intOf

theorem get_ways : ∀ (l : List Vr) (k : ByteArray), (∃ (i : Nat) (h : i < l.length), l[i].1 = k ∧ (∀ (j : Nat) (hj : j < i), (l[j]'(by omega)).1 ≠ k) ∧ getV l k = (l[i].2, true)) ∨ ((∀ x ∈ l, x.1 ≠ k) ∧ getV l k = ((0, 0, []), false))
  | [], k => .inr ⟨fun x hx => (by cases hx), rfl⟩
  | x :: t, k => by
    by_cases h : x.1 = k
    · exact .inl ⟨0, by simp, h, fun j hj => by omega, by simp [getV, h]⟩
    · rcases get_ways t k with ⟨i, hi, h1, h2, h3⟩ | ⟨h1, h2⟩
      · refine .inl ⟨i + 1, by simp; omega, by simpa using h1, fun j hj => ?_, by simp [getV, h, h3]⟩
        cases j with
        | zero => simpa using h
        | succ j => simpa using h2 j (by omega)
      · refine .inr ⟨fun y hy => ?_, by simp [getV, h, h2]⟩
        rcases List.mem_cons.1 hy with rfl | hy
        · exact h
        · exact h1 y hy
theorem str_eq {a b : ByteArray} (h : a = b) : (a.toList == b.toList) = true := by rw [h]; simp
theorem str_ne {a b : ByteArray} (h : a ≠ b) : (a.toList == b.toList) = false := by
  rw [beq_eq_false_iff_ne]
  exact fun e => h (key_ext (by simpa [Lib.toList_data] using e))

/-- the first one that has the name -/
def Hit (l : List Vr) (k : ByteArray) (i : Nat) : Prop := (∀ (j : Nat) (hj : j < l.length), j < i → l[j].1 ≠ k) ∧ ∀ (h : i < l.length), l[i].1 = k
/-- what Get leaves -/
def gA (x : V9 × Bool) : Value := .tuple #[vA x.1, .bool x.2]
theorem xA_ways {x y : Vr} (h : x ≠ y) : ((x.1.toList = y.1.toList) = False) ∨ ((x.1.toList = y.1.toList) = True ∧ (x.2.1 = y.2.1) = False) ∨ ((x.1.toList = y.1.toList) = True ∧ (x.2.1 = y.2.1) = True ∧ (x.2.2.1 = y.2.2.1) = False) ∨ ((x.1.toList = y.1.toList) = True ∧ (x.2.1 = y.2.1) = True ∧ (x.2.2.1 = y.2.2.1) = True ∧ ((S x.2.2.2).toList = (S y.2.2.2).toList) = False) := by
  obtain ⟨a, b, c, d⟩ := x
  obtain ⟨a', b', c', d'⟩ := y
  simp only
  by_cases h1 : a.toList = a'.toList
  · by_cases h2 : b = b'
    · by_cases h3 : c = c'
      · refine .inr (.inr (.inr ⟨eq_true h1, eq_true h2, eq_true h3, eq_false (fun e => h ?_)⟩))
        rw [S_toList, S_toList] at e
        rw [show a = a' from key_ext (by simpa [Lib.toList_data] using h1), h2, h3, e]
      · exact .inr (.inr (.inl ⟨eq_true h1, eq_true h2, eq_false h3⟩))
    · exact .inr (.inl ⟨eq_true h1, eq_false h2⟩)
  · exact .inl (eq_false h1)
set_option maxHeartbeats 4000000 in
set_option maxRecDepth 100000 in
theorem Same9_any {w : World} {v u : Value} {l m : List Vr} (hv : Vs w v l) (hu : Vs w u m) (hn : l.length ≤ 4611686018427387904) (hm : m.length ≤ 4611686018427387904) :
    Calls Try.prog 24 #[v, u] w fun e w' => e = .returned (.bool (decide (l = m))) ∧ Below w.heap.size w w' := by
  have HV : Hid (Vs w v l) := hv
  have HU : Hid (Vs w u m) := hu
  obtain ⟨a, cap, rfl, -⟩ := hv
  obtain ⟨a2, cap2, rfl, -⟩ := hu
  by_cases hl : l.length = m.length
  · have hl' : ((l.length : Int) != (m.length : Int)) = false := by rw [hl]; simp
    have HL : Hid (l.length = m.length) := hl
    clear hl
    go_enter Try.func24, Try.ntmps24
    go_wp2
    go_loopw [5] (fun v5 wr => ∃ i : Nat, v5 = .int .i64 (i : Int) ∧ i ≤ l.length ∧ Hid (l.take i = m.take i) ∧ Hid (Below w.heap.size w wr)) (fun v5 _ => l.length - (intOf v5).toNat)
    case atStart => exact ⟨0, rfl, Nat.zero_le _, by show _ = _; simp, Below.refl _ _⟩
    case round =>
      obtain ⟨i, rfl, hi, HT, HW⟩ := hrel
      by_cases hil : i < l.length
      · have hil' : (i : Int) < (l.length : Int) := by omega
        have hi0 : (0 : Int) ≤ (i : Int) := by omega
        have him : i < m.length := by have := HL.out; omega
        have him' : (i : Int) < (m.length : Int) := by omega
        obtain ⟨b', off, cap', hsl, hbl, hcell⟩ := HV.out.at hil
        cases hsl
        obtain ⟨b2, off2, cap2', hsl2, hbl2, hcell2⟩ := HU.out.at him
        cases hsl2
        obtain ⟨m0, m1, m2, m3⟩ := hcell wr HW.out
        obtain ⟨n0, n1, n2, n3⟩ := hcell2 wr HW.out
        have HN : Hid (l[i] = m[i] → l.take (i + 1) = m.take (i + 1)) := fun e => by rw [List.take_succ_eq_append_getElem hil, List.take_succ_eq_append_getElem him, HT.out, e]
        have HF : Hid (l[i] ≠ m[i] → l ≠ m) := fun h e => h (by subst e; rfl)
        clear hcell hcell2
        obtain ⟨x, hx⟩ : ∃ x, l[i] = x := ⟨_, rfl⟩
        obtain ⟨y, hy⟩ : ∃ y, m[i] = y := ⟨_, rfl⟩
        rw [hx] at m0 m1 m2 m3 HN HF
        rw [hy] at n0 n1 n2 n3 HN HF
        clear hx hy
        by_cases hxy : x = y
        · subst hxy
          obtain ⟨nm, x1, x2, x3⟩ := x
          simp only at m0 m1 m2 m3 n0 n1 n2 n3
          go_wp2
          go_quiet (fail)
          go_wp2
          go_roundw
          case rel =>
            exact ⟨i + 1, by simp, by omega, HN.out (by first | rfl | trivial), below_drewN HW.out _⟩
          case measure => simp [intOf]; omega
        · have hd := xA_ways hxy
          have HE : Hid (decide (l = m) = false) := decide_eq_false (HF.out hxy)
          obtain ⟨nm, x1, x2, x3⟩ := x
          obtain ⟨nm', y1, y2, y3⟩ := y
          simp only at m0 m1 m2 m3 n0 n1 n2 n3 hd
          clear hxy HN HF
          rcases hd with d1 | ⟨d1, d2⟩ | ⟨d1, d2, d3⟩ | ⟨d1, d2, d3, d4⟩
          all_goals
            go_wp2
            go_quiet (fail)
            go_wp2
            go_ret
            exact ⟨by rw [HE.out]; rfl, below_drewN HW.out _⟩
      · have hil' : ¬ (i : Int) < (l.length : Int) := by omega
        have HE : Hid (decide (l = m) = true) := decide_eq_true (by have := HT.out; have hl := HL.out; rwa [List.take_of_length_le (by omega), List.take_of_length_le (by omega)] at this)
        go_wp2
        go_ret
        exact ⟨by rw [HE.out]; rfl, HW.out⟩
  · have hl' : ((l.length : Int) != (m.length : Int)) = true := bne_iff_ne.2 (by omega)
    have HE : Hid (decide (l = m) = false) := decide_eq_false (fun e => hl (by rw [e]))
    go_enter Try.func24, Try.ntmps24
    go_wp2
    go_ret
    exact ⟨by rw [HE.out]; rfl, Below.refl _ _⟩
end Go.Proofs.Ytippnkendoghpaa

/-
  alike: are keys and values the beginning of others?
-/
import Derived.Test.YtkohcdefhaokiaaSRefQ
namespace Go.Proofs.Ytkohcdefhaokiaa
open Go.RowKit Go.Shelf Go.Lib Go.Sort

theorem KV.below {w w' : World} {b : Nat} {kv vv : Value} {l : List Ent} (h : KV w b kv vv l) (hb : Below w.heap.size w w') : KV w' b kv vv l :=
  have hc : Ch (fun _ => False) w w' := Ch.of_below hb
  ⟨hc.row h.1 (fun _ _ => id), hc.row h.2 (fun _ _ => id)⟩

/-- what is asked of the rows in a round -/
theorem alike_cells {w wr : World} {b1 b2 : Nat} {aa ba ca da : Option Addr} {ac bc cc dc : Nat} {xs ys : List Ent} (h1 : KV w b1 (.slice aa xs.length ac) (.slice ba xs.length bc) xs) (h2 : KV w b2 (.slice ca ys.length cc) (.slice da ys.length dc) ys) (hB : Below w.heap.size w wr) (hxl : xs.length ≤ ys.length) (hget : ∀ i (h : i < xs.length), xs[i] = ys[i]'(by omega)) {i : Nat} (hi : i < xs.length) :
    ∃ g1 g2 g3 g4 : Nat, aa = some ⟨g1, 0, none⟩ ∧ ba = some ⟨g2, 0, none⟩ ∧ ca = some ⟨g3, 0, none⟩ ∧ da = some ⟨g4, 0, none⟩ ∧ ∃ (y : ByteArray) (z : Int), wr.cell? ⟨g1, i, none⟩ = some (.string y) ∧ wr.cell? ⟨g2, i, none⟩ = some (.int .i64 z) ∧ wr.cell? ⟨g3, i, none⟩ = some (.string y) ∧ wr.cell? ⟨g4, i, none⟩ = some (.int .i64 z) := by
  have k1 := h1.below hB
  have k2 := h2.below hB
  have hy : i < ys.length := by omega
  rcases k1.1.2 with ⟨hx, h00⟩ | ⟨g1, cap, cur, hx, -⟩
  · omega
  cases hx
  rcases k1.2.2 with ⟨hx, h00⟩ | ⟨g2, cap, cur, hx, -⟩
  · omega
  cases hx
  rcases k2.1.2 with ⟨hx, h00⟩ | ⟨g3, cap, cur, hx, -⟩
  · omega
  cases hx
  rcases k2.2.2 with ⟨hx, h00⟩ | ⟨g4, cap, cur, hx, -⟩
  · omega
  cases hx
  have e := hget i hi
  refine ⟨g1, g2, g3, g4, rfl, rfl, rfl, rfl, ys[i].1, ys[i].2, ?_, ?_, row_cell k2.1 (kcells_get hy), row_cell k2.2 (vcells_get hy)⟩
  · have := row_cell k1.1 (kcells_get hi); rwa [e] at this
  · have := row_cell k1.2 (vcells_get hi); rwa [e] at this

set_option maxHeartbeats 2000000 in
/-- the same keys and values, of at most so many: they are alike -/
theorem alike_any {w : World} {b1 b2 : Nat} {ka va kb vb : Value} {xs ys : List Ent} {m : Int} (h1 : KV w b1 ka va xs) (h2 : KV w b2 kb vb ys) (he : xs = most m ys) (hn : ys.length < 4611686018427387904) :
    Calls Try.prog 14 #[ka, va, kb, vb, .int .i64 m] w fun e w' => e = .returned (.bool true) ∧ Below w.heap.size w w' := by
  have hxl : xs.length ≤ ys.length := by
    rw [he]; unfold most; split
    · omega
    · rw [List.length_take]; omega
  have hget : ∀ i (h : i < xs.length), xs[i] = ys[i]'(by omega) := by
    intro i h
    subst he
    unfold most at *
    split <;> simp
  have hlen : (xs.length : Int) = if 0 ≤ m ∧ m < (ys.length : Int) then m else (ys.length : Int) := by
    rw [he]; unfold most
    split
    · rw [if_neg (by omega)]
    · simp only [List.length_take]
      split <;> omega
  obtain ⟨aa, ac, rfl, -⟩ := row_slice h1.1
  obtain ⟨ba, bc, rfl, -⟩ := row_slice h1.2
  obtain ⟨ca, cc, rfl, -⟩ := row_slice h2.1
  obtain ⟨da, dc, rfl, -⟩ := row_slice h2.2
  have hcells : Hid (∀ {wr : World}, Below w.heap.size w wr → ∀ {i : Nat}, i < xs.length → ∃ g1 g2 g3 g4 : Nat, aa = some ⟨g1, 0, none⟩ ∧ ba = some ⟨g2, 0, none⟩ ∧ ca = some ⟨g3, 0, none⟩ ∧ da = some ⟨g4, 0, none⟩ ∧ ∃ (y : ByteArray) (z : Int), wr.cell? ⟨g1, i, none⟩ = some (.string y) ∧ wr.cell? ⟨g2, i, none⟩ = some (.int .i64 z) ∧ wr.cell? ⟨g3, i, none⟩ = some (.string y) ∧ wr.cell? ⟨g4, i, none⟩ = some (.int .i64 z)) :=
    fun {_} hB {_} hi => alike_cells h1 h2 hB hxl hget hi
  clear h1 h2 hget he
  generalize hX : xs.length = n at *
  generalize hY : ys.length = y at *
  by_cases hc : 0 ≤ m ∧ m < (y : Int)
  · rw [if_pos hc] at hlen
    obtain ⟨hc1, hc2⟩ := hc
    subst hlen
    go_enter Try.func14, Try.ntmps14
    go_wp2_with fail
    go_loopw [12] (fun vi wr => ∃ i : Nat, vi = .int .i64 i ∧ i ≤ n ∧ Below w.heap.size w wr) (fun vi _ => n - (intOf vi).toNat)
    case atStart => exact ⟨0, rfl, Nat.zero_le _, Below.refl _ _⟩
    case round =>
      obtain ⟨i, rfl, hi, hB⟩ := hrel
      by_cases hl : i < n
      · have hli : (i : Int) < (n : Int) := by omega
        obtain ⟨g1, g2, g3, g4, rfl, rfl, rfl, rfl, s, z, c1, c2, c3, c4⟩ := hcells.out hB hl
        have hiy : (i : Int) < (y : Int) := by omega
        go_wp2_with fail
        go_quiet (fail)
        all_goals go_wp2_with fail
        go_roundw
        case rel => exact ⟨i + 1, by simp, by omega, below_drewN hB _⟩
        case measure => simp [intOf]; omega
      · have hli : ¬ (i : Int) < (n : Int) := by omega
        go_wp2_with fail
        all_goals go_ret
        all_goals exact ⟨rfl, hB⟩
  · rw [if_neg hc] at hlen
    obtain rfl : n = y := by omega
    by_cases hm : 0 ≤ m
    · have hm2 : ¬ m < (n : Int) := fun h => hc ⟨hm, h⟩
      clear hc
      go_enter Try.func14, Try.ntmps14
      go_wp2_with fail
      go_loopw [12] (fun vi wr => ∃ i : Nat, vi = .int .i64 i ∧ i ≤ n ∧ Below w.heap.size w wr) (fun vi _ => n - (intOf vi).toNat)
      case atStart => exact ⟨0, rfl, Nat.zero_le _, Below.refl _ _⟩
      case round =>
        obtain ⟨i, rfl, hi, hB⟩ := hrel
        by_cases hl : i < n
        · have hli : (i : Int) < (n : Int) := by omega
          obtain ⟨g1, g2, g3, g4, rfl, rfl, rfl, rfl, s, z, c1, c2, c3, c4⟩ := hcells.out hB hl
          have hiy : (i : Int) < (n : Int) := by omega
          go_wp2_with fail
          go_quiet (fail)
          all_goals go_wp2_with fail
          go_roundw
          case rel => exact ⟨i + 1, by simp, by omega, below_drewN hB _⟩
          case measure => simp [intOf]; omega
        · have hli : ¬ (i : Int) < (n : Int) := by omega
          go_wp2_with fail
          all_goals go_ret
          all_goals exact ⟨rfl, hB⟩
    · clear hc
      go_enter Try.func14, Try.ntmps14
      go_wp2_with fail
      go_loopw [12] (fun vi wr => ∃ i : Nat, vi = .int .i64 i ∧ i ≤ n ∧ Below w.heap.size w wr) (fun vi _ => n - (intOf vi).toNat)
      case atStart => exact ⟨0, rfl, Nat.zero_le _, Below.refl _ _⟩
      case round =>
        obtain ⟨i, rfl, hi, hB⟩ := hrel
        by_cases hl : i < n
        · have hli : (i : Int) < (n : Int) := by omega
          obtain ⟨g1, g2, g3, g4, rfl, rfl, rfl, rfl, s, z, c1, c2, c3, c4⟩ := hcells.out hB hl
          have hiy : (i : Int) < (n : Int) := by omega
          go_wp2_with fail
          go_quiet (fail)
          all_goals go_wp2_with fail
          go_roundw
          case rel => exact ⟨i + 1, by simp, by omega, below_drewN hB _⟩
          case measure => simp [intOf]; omega
        · have hli : ¬ (i : Int) < (n : Int) := by omega
          go_wp2_with fail
          all_goals go_ret
          all_goals exact ⟨rfl, hB⟩
end Go.Proofs.Ytkohcdefhaokiaa

/-
  The law's own range over rows (over).
-/
import Derived.Test.YtlhijbgdccejbaaM3Over2
namespace Go.Proofs.Ytlhijbgdccejbaa
open Go.RowKit Go.Shelf Go.Sort
open Go.Lib hiding intOf

theorem kcells_take1 {l : List Ent} {i : Nat} (h : i < l.length) : kcells (l.take i) ++ [.string l[i].1] = kcells (l.take (i + 1)) := by rw [kcells, kcells, List.take_succ_eq_append_getElem h, List.map_append]; rfl
theorem vcells_take1 {l : List Ent} {i : Nat} (h : i < l.length) : vcells (l.take i) ++ [.int .i64 l[i].2] = vcells (l.take (i + 1)) := by rw [vcells, vcells, List.take_succ_eq_append_getElem h, List.map_append]; rfl

set_option maxHeartbeats 4000000 in
set_option maxRecDepth 100000 in
theorem over_any {w : World} {v : Value} {l : List Ent} (h : Rw w v l) (hn : l.length * 24 ≤ 140737488355328) :
    Calls Try.prog 10 #[v] w fun e w' => ∃ f X, e = .returned f ∧ Sq w' f l X ∧ (∀ k, X k → w.heap.size ≤ k) ∧ Below w.heap.size w w' := by
  obtain ⟨i0, hi0, hz0, hz1, hz2⟩ := info_parts infoStr
  obtain ⟨j0, hj0, hy0, hy1, hy2⟩ := info_parts infoInt
  have H : Hid (Rw w v l) := h
  obtain ⟨a, cap, rfl, -⟩ := h
  go_enter Try.func10, Try.ntmps10
  go_wp2
  go_loopw [3, 4, 5] (fun vk vx vi wr => ∃ i : Nat, vi = .int .i64 i ∧ i ≤ l.length ∧ Nw w vk vx (kcells (l.take i)) (vcells (l.take i)) wr) (fun _ _ vi _ => l.length - (intOf vi).toNat)
  case atStart => exact ⟨0, rfl, Nat.zero_le _, Nw.start w⟩
  case round =>
    obtain ⟨i, rfl, hi, hN⟩ := hrel
    have hkl : (kcells (l.take i)).length = i := by simp [kcells]; omega
    have hvl : (vcells (l.take i)).length = i := by simp [vcells]; omega
    have hk := hN.k
    have hv := hN.v
    rw [hkl] at hk
    rw [hvl] at hv
    obtain ⟨ka, kc, rfl, -⟩ := row_slice hk
    obtain ⟨va, vc, rfl, -⟩ := row_slice hv
    by_cases hl : i < l.length
    · have hli : (i : Int) < (l.length : Int) := by omega
      obtain ⟨b, off, rfl, hlt, hc⟩ : ∃ b off, a = some ⟨b, off, none⟩ ∧ b < w.heap.size ∧ ∀ (j : Nat) (h : j < l.length), w.cell? ⟨b, off + j * 2, none⟩ = some (.string l[j].1) ∧ w.cell? ⟨b, off + j * 2 + 1, none⟩ = some (.int .i64 l[j].2) := by
        obtain ⟨a', cap', e, h⟩ := H.out
        cases e
        rcases h with h | h
        · rw [h] at hl; simp at hl
        · exact h
      have C : Hid (∀ W, Below w.heap.size w W → W.cell? ⟨b, off + i * 2, none⟩ = some (.string l[i].1) ∧ W.cell? ⟨b, off + i * 2 + 1, none⟩ = some (.int .i64 l[i].2)) := fun W hW => ⟨(hW.cell (p := ⟨b, off + i * 2, none⟩) hlt).trans (hc i hl).1, (hW.cell (p := ⟨b, off + i * 2 + 1, none⟩) hlt).trans (hc i hl).2⟩
      have c1 := (C.out _ hN.b).1
      have N0 : Hid _ := hN
      have HL : Hid (kcells (l.take i) ++ [.string l[i].1] = kcells (l.take (i + 1)) ∧ vcells (l.take i) ++ [.int .i64 l[i].2] = vcells (l.take (i + 1)) ∧ (kcells (l.take i)).length = i ∧ (vcells (l.take i)).length = i) := ⟨kcells_take1 hl, vcells_take1 hl, hkl, hvl⟩
      have hsz := hN.b.size
      clear hN hk hv hc hkl hvl
      generalize l[i] = x at *
      generalize hke : kcells (l.take i) = ks at *
      generalize hve : vcells (l.take i) = vs at *
      clear hke hve
      go_wp2_with (first
        | (at_builtin; refine wpList_append_own _ rfl _ _ 45 rfl w.heap.size 9 i0 _ 1 16 Try.underlying45 hi0 hz0 hz1 hz2 rfl (by decide) _ i ks rfl (by { have := (N0.out.alloc (.cells #[.string x.1] 9)).k; rw [HL.out.2.2.1] at this; exact this }) ⟨wr.heap.size, 0, none⟩ 1 1 [.string x.1] rfl rfl (new_one _ _ (by simp) _ _) (by simp [Value.oneCell']) (by unfold maxLen; omega) (by omega) (by simp; omega) ?_; intro v3 w3 ho3 hg3 _; have ho3' := ho3; obtain ⟨a3, c3, rfl, -⟩ := row_slice ho3'; have N1 : Hid (Nw w (.slice a3 (i + 1) c3) (.slice va i vc) (ks ++ [.string x.1]) vs w3) := (N0.out.alloc _).appK (n := 1) (by rw [HL.out.2.2.1]; exact ho3) hg3 rfl; clear ho3 hg3 ho3'; have c2 := (C.out _ N1.out.b).2; have hsz3 := N1.out.b.size)
        | (at_builtin; refine wpList_append_own _ rfl _ _ 46 rfl w.heap.size 3 j0 _ 1 8 Try.underlying46 hj0 hy0 hy1 hy2 rfl (by decide) _ i vs rfl (by { have := (N1.out.alloc (.cells #[.int .i64 x.2] 3)).v; rw [HL.out.2.2.2] at this; exact this }) ⟨w3.heap.size, 0, none⟩ 1 1 [.int .i64 x.2] rfl rfl (new_one _ _ (by simp) _ _) (by simp [Value.oneCell']) (by unfold maxLen; omega) (by omega) (by simp; omega) ?_; intro v5 w5 ho5 hg5 _; have ho5' := ho5; obtain ⟨a5, c5, rfl, -⟩ := row_slice ho5'; have N2 : Hid (Nw w (.slice a3 (i + 1) c3) (.slice a5 (i + 1) c5) (ks ++ [.string x.1]) (vs ++ [.int .i64 x.2]) w5) := (N1.out.alloc _).appV (n := 1) (by rw [HL.out.2.2.2]; exact ho5) hg5 rfl; clear ho5 hg5 ho5'))
      go_roundw
      case rel =>
        refine ⟨i + 1, by simp, by omega, ?_⟩
        have := N2.out
        rw [HL.out.1, HL.out.2.1] at this
        exact this
      case measure => simp [intOf]; omega
    · have hli : ¬ (i : Int) < (l.length : Int) := by omega
      obtain rfl : i = l.length := by omega
      rw [List.take_length] at hk hv
      have hB := hN.b
      have HKV : Hid _ := And.intro hk hv
      clear hN hkl hvl hk hv
      go_wp2_with (first
        | (go_at_call 19; refine (Over_any (l := l) HKV.out.1 HKV.out.2 (by rw [List.take_of_length_le (by simp [kcells])]) (by rw [List.take_of_length_le (by simp [vcells])]) (by simp) (by omega) (by omega)).mono ?_; rintro e w4 ⟨f, X, rfl, hS, hX, hB4⟩; have HS : Hid _ := hS; obtain ⟨gf, lb, rfl, -⟩ := hS))
      go_ret
      exact ⟨_, X, rfl, HS.out, fun k hk => Nat.le_trans hB.size (hX k hk), hB.trans (hB4.mono hB.size)⟩
end Go.Proofs.Ytlhijbgdccejbaa

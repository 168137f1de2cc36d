/-
  What the four ranges pick of the cells: all, all backward, those from a key on, those that begin so.
-/
import Derived.Test.YtkohcdefhaokiaaSLend
namespace Go.Proofs.Ytkohcdefhaokiaa
open Go.RowKit Go.Shelf Go.Lib Go.Sort

/-- a text begins with another one -/
def bg (s k : ByteArray) : Bool := decide (k.size ≤ s.size) && ((s.extract 0 k.size).toList == k.toList)

theorem bg_iff (s k : ByteArray) : bg s k = true ↔ k.data.toList <+: s.data.toList := by
  unfold bg
  simp only [Bool.and_eq_true, decide_eq_true_eq, beq_iff_eq, Lib.toList_data, ByteArray.data_extract, Array.toList_extract, List.extract_eq_take_drop, List.drop_zero, Nat.sub_zero]
  rw [List.prefix_iff_eq_take]
  have h1 : k.data.toList.length = k.size := by simp
  have h2 : s.data.toList.length = s.size := by simp
  constructor
  · rintro ⟨_, h⟩
    rw [h1, h]
  · intro h
    rw [h1] at h
    refine ⟨?_, h.symm⟩
    have := congrArg List.length h
    rw [h1, List.length_take, h2] at this
    omega

theorem prefix_mono : ∀ (k a b : List UInt8), k ≤ a → ¬ k <+: a → a ≤ b → ¬ k <+: b
  | [], _, _, _, h, _ => absurd (List.nil_prefix) h
  | x :: k, [], _, h, _, _ => absurd h (by simp)
  | x :: k, y :: a, [], _, _, h => absurd h (by simp)
  | x :: k, y :: a, z :: b, h1, h2, h3 => by
    intro h4
    rw [List.cons_prefix_cons] at h4 h2
    obtain ⟨rfl, h5⟩ := h4
    rw [List.cons_le_cons_iff] at h1 h3
    rcases h1 with h1 | ⟨rfl, h1⟩
    · rcases h3 with h3 | ⟨rfl, h3⟩
      · exact absurd h1 (UInt8.lt_asymm h3)
      · exact absurd h1 (UInt8.lt_irrefl _)
    · rcases h3 with h3 | ⟨_, h3⟩
      · exact absurd h3 (UInt8.lt_irrefl _)
      · exact prefix_mono k a b h1 (fun h => h2 ⟨rfl, h⟩) h3 h5

/-- those that begin so -/
def under (es : List Ent) (k : ByteArray) : List Ent := (es.drop (pos es k)).take ((es.drop (pos es k)).countP (fun e => bg e.1 k))

set_option maxHeartbeats 400000 in
theorem hasPrefixLite (s k : ByteArray) (w : World) : Calls Try.prog 75 #[.string s, .string k] w fun e w' => e = .returned (.bool (bg s k)) ∧ w' = w := by
  unfold bg
  by_cases h : k.size ≤ s.size
  · have h' : (k.size : Int) ≤ (s.size : Int) := by omega
    go_enter Try.func75, Try.ntmps75
    go_wp2
    go_ret
    exact ⟨by simp [h], rfl⟩
  · have h' : ¬ (k.size : Int) ≤ (s.size : Int) := by omega
    go_enter Try.func75, Try.ntmps75
    go_wp2
    go_ret
    exact ⟨by simp, rfl⟩
set_option maxHeartbeats 400000 in
theorem hasPrefix (s k : ByteArray) (w : World) : Calls Try.prog 69 #[.string s, .string k] w fun e w' => e = .returned (.bool (bg s k)) ∧ w' = w := by
  go_enter Try.func69, Try.ntmps69
  go_wp2_with (go_at_call 75; refine (hasPrefixLite _ _ _).mono ?_; rintro e w' ⟨rfl, rfl⟩)
  go_ret
  exact ⟨rfl, rfl⟩

/-- a range over a slice -/
def Itv (W : World) (n₀ cb : Nat) (itv : Value) (zs : List Ent) : Prop :=
  ∃ bs sv, n₀ ≤ bs ∧ Bx W bs sv 60 ∧ ((itv = .func (.func 55) #[] #[.pointer (some ⟨bs, 0, none⟩)] ∧ Sl W sv cb zs) ∨ (itv = .func (.func 67) #[] #[.pointer (some ⟨bs, 0, none⟩)] ∧ Sl W sv cb zs.reverse))

theorem Sl.below {W W' : World} {sv : Value} {cb : Nat} {zs : List Ent} {B : Nat} (h : Sl W sv cb zs) (hb : Below B W W') (hcb : zs = [] ∨ cb < B) : Sl W' sv cb zs := by
  obtain ⟨a, cap, e, hl, hz⟩ := h
  refine ⟨a, cap, e, hl, ?_⟩
  rcases hz with h0 | ⟨off, ea, hc⟩
  · exact .inl h0
  · rcases hcb with h0 | hcb
    · exact .inl h0
    · exact .inr ⟨off, ea, fun j hj => ⟨(hb.cell (p := ⟨cb, off + j * 2, none⟩) hcb).trans (hc j hj).1, (hb.cell (p := ⟨cb, off + j * 2 + 1, none⟩) hcb).trans (hc j hj).2⟩⟩
theorem Sl.lt {W : World} {sv : Value} {cb : Nat} {zs : List Ent} (h : Sl W sv cb zs) : zs = [] ∨ cb < W.heap.size := by
  obtain ⟨a, cap, e, hl, hz⟩ := h
  rcases hz with h0 | ⟨off, ea, hc⟩
  · exact .inl h0
  · cases zs with
    | nil => exact .inl rfl
    | cons z r => exact .inr (World.block_lt_of_cell? _ _ (hc 0 (by simp)).1)
theorem sl_of_row {W : World} {sv : Value} {es : List Ent} {cb : Nat} (h : W.ownsRow 0 69 2 sv es.length (flat es)) (hcb : ∀ g, sv.ownBlock = some g → g = cb) (hn : es.length < 4611686018427387904) : Sl W sv cb es := by
  rcases h.2 with ⟨rfl, h0⟩ | ⟨g, cap, cur, rfl, _, hg, _⟩
  · exact ⟨none, 0, by rw [h0], hn, .inl (List.eq_nil_of_length_eq_zero h0)⟩
  · obtain rfl := hcb g rfl
    refine ⟨some ⟨g, 0, none⟩, cap, rfl, hn, .inr ⟨0, rfl, fun j hj => ?_⟩⟩
    rw [Nat.zero_add]
    exact ⟨row_cell h (flat_key es j hj), row_cell h (flat_val es j hj)⟩

set_option maxHeartbeats 400000 in
theorem pickAll {W : World} {sv : Value} {cb : Nat} {zs : List Ent} (h : Sl W sv cb zs) :
    Calls Try.prog 35 #[sv] W fun e W' => ∃ itv, e = .returned itv ∧ Itv W' W.heap.size cb itv zs ∧ Below W.heap.size W W' := by
  have hmf : ∀ (fn : Fn) (first cap : Array Value) (w : World), (Instr.makeFunc fn first cap).run Try.prog w = .ok (.func fn first cap) w := fun _ _ _ _ => rfl
  have hlt := h.lt
  have H : Hid (Sl W sv cb zs) := h
  obtain ⟨a, cap, rfl, -⟩ := h
  go_enter Try.func35, Try.ntmps35
  go_wp2
  go_ret
  have hB : Below W.heap.size W (W.alloc (.cells #[.slice a zs.length cap] 60)) := (Below.refl _ W).alloc (Nat.le_refl _) _
  exact ⟨_, rfl, ⟨W.heap.size, _, Nat.le_refl _, Bx.new W _ _, .inl ⟨rfl, H.out.below hB hlt⟩⟩, hB⟩

set_option maxHeartbeats 400000 in
theorem pickBack {W : World} {sv : Value} {cb : Nat} {zs : List Ent} (h : Sl W sv cb zs) :
    Calls Try.prog 49 #[sv] W fun e W' => ∃ itv, e = .returned itv ∧ Itv W' W.heap.size cb itv zs.reverse ∧ Below W.heap.size W W' := by
  have hmf : ∀ (fn : Fn) (first cap : Array Value) (w : World), (Instr.makeFunc fn first cap).run Try.prog w = .ok (.func fn first cap) w := fun _ _ _ _ => rfl
  have hlt := h.lt
  have H : Hid (Sl W sv cb zs) := h
  obtain ⟨a, cap, rfl, -⟩ := h
  go_enter Try.func49, Try.ntmps49
  go_wp2
  go_ret
  have hB : Below W.heap.size W (W.alloc (.cells #[.slice a zs.length cap] 60)) := (Below.refl _ W).alloc (Nat.le_refl _) _
  exact ⟨_, rfl, ⟨W.heap.size, _, Nat.le_refl _, Bx.new W _ _, .inr ⟨rfl, by rw [List.reverse_reverse]; exact H.out.below hB hlt⟩⟩, hB⟩

theorem Sl.drop {W : World} {a : Option Addr} {n cap cb r : Nat} {zs : List Ent} (h : Sl W (.slice a n cap) cb zs) (hr : r ≤ n) (A : Option Addr) (hA : r < n → ∀ off, a = some ⟨cb, off, none⟩ → A = some ⟨cb, off + r * 2, none⟩) (c' : Nat) : Sl W (.slice A (n - r) c') cb (zs.drop r) := by
  obtain ⟨a', cap', e, hl, hz⟩ := h
  cases e
  refine ⟨A, c', by simp, by simp; omega, ?_⟩
  by_cases hlt : r < zs.length
  · rcases hz with rfl | ⟨off, ea, hc⟩
    · simp at hlt
    · refine .inr ⟨off + r * 2, hA hlt off ea, fun j hj => ?_⟩
      simp only [List.getElem_drop]
      have := hc (r + j) (by simp at hj; omega)
      rw [show off + r * 2 + j * 2 = off + (r + j) * 2 by omega]
      exact this
  · exact .inl (List.drop_eq_nil_of_le (by omega))

set_option maxHeartbeats 1000000 in
theorem pickFrom {W : World} {sv : Value} {es : List Ent} {cb kb : Nat} {k : ByteArray} (h : W.ownsRow 0 69 2 sv es.length (flat es)) (hs : Rise es) (hcb : ∀ g, sv.ownBlock = some g → g = cb) (hn : es.length < 4611686018427387904) (hk : Bx W kb (.string k) 9) :
    Calls Try.prog 34 #[sv, .pointer (some ⟨kb, 0, none⟩)] W fun e W' => ∃ itv, e = .returned itv ∧ Itv W' W.heap.size cb itv (es.drop (pos es k)) ∧ Below W.heap.size W W' := by
  have hkc := hk.cell
  have hp := place_any k h hs hn
  have hle := pos_le es k
  have hsl := sl_of_row h hcb hn
  have hlt := hsl.lt
  rcases h.2 with ⟨rfl, h0⟩ | ⟨g, cap, cur, rfl, -, hg, hnc, hcm, -⟩
  · have hes : es = [] := List.eq_nil_of_length_eq_zero h0
    subst hes
    have hpos : pos ([] : List Ent) k = 0 := rfl
    rw [hpos] at hp ⊢
    clear h hsl hk hcb hlt hle hn hs hpos
    go_enter Try.func34, Try.ntmps34
    go_wp2_with fail
    refine hp.mono ?_
    rintro e w1 ⟨rfl, hb1⟩
    go_wp2_with fail
    refine (pickAll (cb := cb) (zs := []) ⟨none, 0, rfl, by simp, .inl rfl⟩).mono ?_
    rintro e w2 ⟨itv, rfl, hI, hb2⟩
    have HI : Hid (Itv w2 w1.heap.size cb itv []) := hI
    obtain ⟨bs, sv2, -, -, ⟨rfl, -⟩ | ⟨rfl, -⟩⟩ := hI
    · go_wp2
      go_ret
      obtain ⟨bs, sv2, h1, h2, h3⟩ := HI.out
      have hsz := hb1.size
      exact ⟨_, rfl, ⟨bs, sv2, by omega, h2, h3⟩, hb1.trans (hb2.mono hsz)⟩
    · go_wp2
      go_ret
      obtain ⟨bs, sv2, h1, h2, h3⟩ := HI.out
      have hsz := hb1.size
      exact ⟨_, rfl, ⟨bs, sv2, by omega, h2, h3⟩, hb1.trans (hb2.mono hsz)⟩
  · have HS : Hid (Sl W (.slice (some ⟨g, 0, none⟩) es.length cap) cb es) := hsl
    have hgc : g = cb := hcb g rfl
    clear h hsl hk hcb hg hs
    generalize pos es k = r at *
    have hri : (r : Int) ≤ (es.length : Int) := by omega
    have hrc : (r : Int) ≤ (cap : Int) := by omega
    have hcm' : cap ≤ 9223372036854775807 := by unfold maxLen at hcm; omega
    have fin : ∀ A c', (r < es.length → A = some ⟨g, r * 2, none⟩) → ∀ w1, Below W.heap.size W w1 → Sl w1 (.slice A (es.length - r) c') cb (es.drop r) := fun A c' hA w1 hb1 =>
      ((HS.out.below hb1 hlt).drop hle A (fun h off e => by cases e; rw [hA h, Nat.zero_add]) c')
    have FIN : Hid (∀ A c', (r < es.length → A = some ⟨g, r * 2, none⟩) → ∀ w1, Below W.heap.size W w1 → Sl w1 (.slice A (es.length - r) c') cb (es.drop r)) := fin
    clear fin hgc
    by_cases hcr : cap = r
    · obtain rfl : r = es.length := by omega
      subst hcr
      go_enter Try.func34, Try.ntmps34
      go_wp2_with fail
      refine hp.mono ?_
      rintro e w1 ⟨rfl, hb1⟩
      go_wp2_with fail
      have hsl1 := FIN.out (some ⟨g, 0, none⟩) 0 (fun h => absurd h (Nat.lt_irrefl _)) w1 hb1
      rw [Nat.sub_self] at hsl1
      refine (pickAll hsl1).mono ?_
      rintro e w2 ⟨itv, rfl, hI, hb2⟩
      have HI : Hid (Itv w2 w1.heap.size cb itv (es.drop es.length)) := hI
      obtain ⟨bs, sv2, -, -, ⟨rfl, -⟩ | ⟨rfl, -⟩⟩ := hI
      · go_wp2
        go_ret
        obtain ⟨bs, sv2, h1, h2, h3⟩ := HI.out
        have hsz := hb1.size
        exact ⟨_, rfl, ⟨bs, sv2, by omega, h2, h3⟩, hb1.trans (hb2.mono hsz)⟩
      · go_wp2
        go_ret
        obtain ⟨bs, sv2, h1, h2, h3⟩ := HI.out
        have hsz := hb1.size
        exact ⟨_, rfl, ⟨bs, sv2, by omega, h2, h3⟩, hb1.trans (hb2.mono hsz)⟩
    · go_enter Try.func34, Try.ntmps34
      go_wp2_with fail
      refine hp.mono ?_
      rintro e w1 ⟨rfl, hb1⟩
      go_wp2_with fail
      have hsl1 := FIN.out (some ⟨g, r * 2, none⟩) (cap - r) (fun _ => rfl) w1 hb1
      refine (pickAll hsl1).mono ?_
      rintro e w2 ⟨itv, rfl, hI, hb2⟩
      have HI : Hid (Itv w2 w1.heap.size cb itv (es.drop r)) := hI
      obtain ⟨bs, sv2, -, -, ⟨rfl, -⟩ | ⟨rfl, -⟩⟩ := hI
      · go_wp2
        go_ret
        obtain ⟨bs, sv2, h1, h2, h3⟩ := HI.out
        have hsz := hb1.size
        exact ⟨_, rfl, ⟨bs, sv2, by omega, h2, h3⟩, hb1.trans (hb2.mono hsz)⟩
      · go_wp2
        go_ret
        obtain ⟨bs, sv2, h1, h2, h3⟩ := HI.out
        have hsz := hb1.size
        exact ⟨_, rfl, ⟨bs, sv2, by omega, h2, h3⟩, hb1.trans (hb2.mono hsz)⟩
end Go.Proofs.Ytkohcdefhaokiaa

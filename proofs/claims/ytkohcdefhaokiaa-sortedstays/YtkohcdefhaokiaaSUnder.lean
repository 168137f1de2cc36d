/-
  What Under picks: the cells whose keys begin so.
-/
import Derived.Test.YtkohcdefhaokiaaSPick
import Derived.Deep.RegionHeld3
namespace Go.Proofs.Ytkohcdefhaokiaa
open Go.RowKit Go.Shelf Go.Lib Go.Sort

set_option maxHeartbeats 1000000 in
theorem beginsOf (bc bk g off n cap i : Nat) (y k : ByteArray) (W : World) (hi : i < n)
    (hc : W.cell? ⟨bc, 0, none⟩ = some (.slice (some ⟨g, off, none⟩) n cap)) (hk : W.cell? ⟨bk, 0, none⟩ = some (.string k)) (hy : W.cell? ⟨g, off + i * 2, none⟩ = some (.string y)) :
    Calls Try.prog 68 (#[.int .i64 i] ++ #[.pointer (some ⟨bc, 0, none⟩), .pointer (some ⟨bk, 0, none⟩)]) W fun e w' => e = .returned (.bool (!bg y k)) ∧ ∃ q, w' = W.drewN q := by
  have hiz : (i : Int) < (n : Int) := by omega
  go_enter Try.func68, Try.ntmps68
  go_wp2_with fail
  go_region_with (first | (go_at_call 69; refine (hasPrefix _ _ _).mono ?_; rintro e w' ⟨rfl, rfl⟩))
  all_goals go_wp2
  all_goals go_ret
  all_goals exact ⟨by first | rfl | simp, 1, rfl⟩

theorem countP_range_ent (es : List Ent) (f : ByteArray → Bool) (d : ByteArray) : (List.range es.length).countP (fun i => !!f ((es.map (·.1))[i]?.getD d)) = es.countP (fun e => f e.1) := by
  have h : (List.range es.length).map (fun i => (es.map (·.1))[i]?.getD d) = es.map (·.1) := by
    apply List.ext_getElem
    · simp
    · intro i h1 h2
      simp at h1
      simp [h1]
  have := congrArg (List.countP (fun y => f y)) h
  rw [List.countP_map, List.countP_map] at this
  simpa [Function.comp_def] using this

theorem rest_mono {es : List Ent} (h : Rise es) (k : ByteArray) {a b : Nat} (hab : a ≤ b) (hb : b < (es.drop (pos es k)).length) (hn : bg ((es.drop (pos es k))[a]'(by omega)).1 k = false) : bg ((es.drop (pos es k))[b]).1 k = false := by
  rw [← Bool.not_eq_true, bg_iff] at hn ⊢
  simp only [List.getElem_drop] at hn ⊢
  have hla : pos es k + a < es.length := by simp at hb; omega
  have hlb : pos es k + b < es.length := by simp at hb; omega
  have h1 : lt es[pos es k + a].1 k = false := by rw [← Bool.not_eq_true, pos_lt es k _ h hla]; omega
  rw [← Bool.not_eq_true, lt_iff] at h1
  refine prefix_mono _ _ _ (List.not_lt.1 h1) hn ?_
  by_cases e : a = b
  · subst e; exact List.le_refl _
  · have := h.get hla hlb (by omega)
    rw [lt_iff] at this
    exact List.le_of_lt this

/-- the second part of 'beginning': how many begin so -/
theorem searchBegins {W : World} {bc bk cb cap : Nat} {a : Option Addr} {es : List Ent} {k : ByteArray} (hs : Rise es) (hc : W.cell? ⟨bc, 0, none⟩ = some (.slice a (es.drop (pos es k)).length cap)) (hk : W.cell? ⟨bk, 0, none⟩ = some (.string k)) (hsl : Sl W (.slice a (es.drop (pos es k)).length cap) cb (es.drop (pos es k))) :
    Calls Try.prog 56 #[.int .i64 (es.drop (pos es k)).length, .func (.func 68) #[] #[.pointer (some ⟨bc, 0, none⟩), .pointer (some ⟨bk, 0, none⟩)]] W fun e w' => e = .returned (.int .i64 ((es.drop (pos es k)).countP (fun e => bg e.1 k) : Nat)) ∧ Below W.heap.size W w' := by
  have eg : ∀ args w, (callFunc 68 args).run Try.prog w = .ok (.enter 68 args) w := enters_of Try.func68 (by kernel_rfl) rfl
  obtain ⟨rs, hrs⟩ : ∃ rs, rs = es.drop (pos es k) := ⟨_, rfl⟩
  have hmo : ∀ a b, (hab : a ≤ b) → (hb : b < rs.length) → bg (rs[a]'(by omega)).1 k = false → bg rs[b].1 k = false := by
    subst hrs
    exact fun a b hab hb h => rest_mono hs k hab hb h
  rw [← hrs] at hc hsl ⊢
  obtain ⟨a', cap', e', hl, hz⟩ := hsl
  have hbcl := World.block_lt_of_cell? _ _ hc
  have hbkl := World.block_lt_of_cell? _ _ hk
  have hS := Any.sort_Search searchLays 68 #[.pointer (some ⟨bc, 0, none⟩), .pointer (some ⟨bk, 0, none⟩)] rs.length (fun i => !bg ((rs.map (·.1))[i]?.getD ⟨#[]⟩) k) W eg hl
    (fun m os i hi => by
      rcases hz with h0 | ⟨off, ea, hcs⟩
      · rw [h0] at hi; simp at hi
      · cases e'
        subst ea
        have hy := (hcs i hi).1
        refine (beginsOf bc bk cb off rs.length cap i rs[i].1 k _ hi (cell_grown hbcl hc m os) (cell_grown hbkl hk m os) (cell_grown (World.block_lt_of_cell? _ _ hy) hy m os)).mono ?_
        rintro e w' ⟨he, q, hq⟩
        exact ⟨by rw [he]; simp [hi], q, #[], by rw [hq, grow_empty]⟩)
    (fun a b hab hb h => by
      have ha : a < rs.length := by omega
      simp only [List.getElem?_map, List.getElem?_eq_getElem ha, List.getElem?_eq_getElem hb, Option.map_some, Option.getD_some, Bool.not_eq_true'] at h ⊢
      exact hmo a b hab hb h)
  rw [countP_range_ent rs (fun y => bg y k) ⟨#[]⟩] at hS
  refine hS.mono ?_
  rintro e w' ⟨he, q, os, rfl⟩
  exact ⟨he, below_grown_sl W.heap.size W q os (Nat.le_refl _)⟩

set_option maxHeartbeats 2000000 in
theorem beginning_any {w : World} {sv : Value} {es : List Ent} {cb : Nat} {k : ByteArray} (h : w.ownsRow 0 69 2 sv es.length (flat es)) (hs : Rise es) (hcb : ∀ g, sv.ownBlock = some g → g = cb) (hn : es.length < 4611686018427387904) :
    Calls Try.prog 51 #[sv, .string k] w fun e w' => ∃ sv', e = .returned sv' ∧ Sl w' sv' cb (under es k) ∧ Below w.heap.size w w' := by
  have hmf : ∀ (fn : Fn) (first cap : Array Value) (w : World), (Instr.makeFunc fn first cap).run Try.prog w = .ok (.func fn first cap) w := fun _ _ _ _ => rfl
  have hsl := sl_of_row h hcb hn
  have hlt := hsl.lt
  have hle := pos_le es k
  have R : Hid (w.ownsRow 0 69 2 sv es.length (flat es) ∧ Rise es) := ⟨h, hs⟩
  obtain ⟨W0, hW0⟩ : ∃ W0, W0 = (w.alloc (.cells #[sv] 60)).alloc (.cells #[.string k] 9) := ⟨_, rfl⟩
  have hs0 : W0.heap.size = w.heap.size + 1 + 1 := by rw [hW0]; simp
  have hB0 : Below w.heap.size w W0 := by rw [hW0]; exact ((Below.refl _ w).alloc (Nat.le_refl _) _).alloc (by simp) _
  have bc0 : Bx W0 w.heap.size sv 60 := by rw [hW0]; exact (Bx.new w _ _).alloc _
  have bk0 : Bx W0 (w.heap.size + 1) (.string k) 9 := by rw [hW0]; have := Bx.new (w.alloc (.cells #[sv] 60)) (.string k) 9; rwa [World.size_alloc] at this
  have hp : Calls Try.prog 36 #[sv, .string k] W0.drew fun e w' => e = .returned (.int .i64 (pos es k : Nat)) ∧ Bx w' w.heap.size sv 60 ∧ Bx w' (w.heap.size + 1) (.string k) 9 ∧ Below w.heap.size w w' ∧ W0.heap.size ≤ w'.heap.size := by
    have hr0 : W0.drew.ownsRow 0 69 2 sv es.length (flat es) := by rw [hW0]; exact (h.alloc _).alloc _
    refine (place_any k hr0 hs hn).mono ?_
    rintro e w' ⟨rfl, hb⟩
    have hb' : Below W0.heap.size W0 w' := ⟨hb.os, hb.tape, hb.output, hb.size, hb.block⟩
    exact ⟨rfl, bc0.below hb' (by omega), bk0.below hb' (by omega), hB0.trans (hb'.mono (by omega)), hb'.size⟩
  have key : ∀ (a : Option Addr) (c' : Nat), (∀ w1, Below w.heap.size w w1 → Sl w1 (.slice a (es.length - pos es k) c') cb (es.drop (pos es k))) → ∀ w1, Bx w1 w.heap.size sv 60 → Bx w1 (w.heap.size + 1) (.string k) 9 → Below w.heap.size w w1 →
      Calls Try.prog 56 #[.int .i64 ((es.length - pos es k : Nat) : Int), .func (.func 68) #[] #[.pointer (some ⟨w.heap.size, 0, none⟩), .pointer (some ⟨w.heap.size + 1, 0, none⟩)]] (w1.setCell ⟨w.heap.size, 0, none⟩ (.slice a (es.length - pos es k) c')) fun e w' => e = .returned (.int .i64 ((es.drop (pos es k)).countP (fun e => bg e.1 k) : Nat)) ∧ w'.cell? ⟨w.heap.size, 0, none⟩ = some (.slice a (es.length - pos es k) c') ∧ Below w.heap.size w w' := by
    intro a c' hsl w1 b1 b2 hb
    have hB2 : Below w.heap.size w (w1.setCell ⟨w.heap.size, 0, none⟩ (.slice a (es.length - pos es k) c')) := hb.setCell (p := ⟨w.heap.size, 0, none⟩) (Nat.le_refl _) _
    have e1 := one0 b1 (.slice a (es.length - pos es k) c')
    have hch : Ch (fun b => b = w.heap.size) w1 (w1.setCell ⟨w.heap.size, 0, none⟩ (.slice a (es.length - pos es k) c')) := (Ch.refl (fun b => b = w.heap.size) w1).setCell ⟨w.heap.size, 0, none⟩ _ (fun _ => rfl)
    have e2 := b2.ch hch (by omega)
    have hd : (es.drop (pos es k)).length = es.length - pos es k := by simp
    have hS := searchBegins (W := w1.setCell ⟨w.heap.size, 0, none⟩ (.slice a (es.length - pos es k) c')) (bc := w.heap.size) (bk := w.heap.size + 1) (cb := cb) (cap := c') (a := a) (es := es) (k := k) hs (by rw [hd]; exact e1.cell) e2.cell (by rw [hd]; exact hsl _ hB2)
    rw [hd] at hS
    refine hS.mono ?_
    rintro e w' ⟨rfl, hb'⟩
    exact ⟨rfl, (hb'.cell (p := ⟨w.heap.size, 0, none⟩) e1.lt).trans e1.cell, hB2.trans (hb'.mono hB2.size)⟩
  have hcnt : (es.drop (pos es k)).countP (fun e => bg e.1 k) ≤ es.length - pos es k := by
    have := List.countP_le_length (p := fun e : Ent => bg e.1 k) (l := es.drop (pos es k))
    simpa using this
  have fin : ∀ (a : Option Addr) (c' c2 : Nat) (w1 : World), Sl w1 (.slice a (es.length - pos es k) c') cb (es.drop (pos es k)) → Sl w1 (.slice a ((es.drop (pos es k)).countP (fun e => bg e.1 k)) c2) cb (under es k) := by
    intro a c' c2 w1 hsl
    obtain ⟨a', cap', e', hl, hz⟩ := hsl
    simp only [Value.slice.injEq] at e'
    obtain ⟨rfl, -, rfl⟩ := e'
    have hul : (under es k).length = (es.drop (pos es k)).countP (fun e => bg e.1 k) := by simp [under]; omega
    refine ⟨a, c2, by rw [hul], by rw [hul]; omega, ?_⟩
    rcases hz with h0 | ⟨off, ea, hc⟩
    · left; simp [under, h0]
    · refine .inr ⟨off, ea, fun j hj => ?_⟩
      have hj' : j < (es.drop (pos es k)).length := by rw [hul] at hj; simp; omega
      have := hc j hj'
      simpa [under] using this
  rcases h.2 with ⟨rfl, h0⟩ | ⟨g, cap, cur, rfl, -, hg, hnc, hcm, -⟩
  · have hes : es = [] := List.eq_nil_of_length_eq_zero h0
    subst hes
    have hnil : ∀ w1 a c', Sl w1 (.slice a 0 c') cb ([] : List Ent) := fun w1 a c' => ⟨a, c', rfl, by simp, .inl rfl⟩
    have KEY : Hid (∀ w1, Bx w1 w.heap.size (.slice none 0 0) 60 → Bx w1 (w.heap.size + 1) (.string k) 9 → Below w.heap.size w w1 →
      Calls Try.prog 56 #[.int .i64 0, .func (.func 68) #[] #[.pointer (some ⟨w.heap.size, 0, none⟩), .pointer (some ⟨w.heap.size + 1, 0, none⟩)]] (w1.setCell ⟨w.heap.size, 0, none⟩ (.slice none 0 0)) fun e w' => e = .returned (.int .i64 0) ∧ w'.cell? ⟨w.heap.size, 0, none⟩ = some (.slice none 0 0) ∧ Below w.heap.size w w') := fun w1 b1 b2 hb => key none 0 (fun w1 _ => hnil w1 none 0) w1 b1 b2 hb
    have NIL : Hid (∀ w1 a c', Sl w1 (.slice a 0 c') cb (under ([] : List Ent) k)) := fun w1 a c' => by simpa [under] using hnil w1 a c'
    have hp0 : Calls Try.prog 36 #[.slice none 0 0, .string k] W0.drew fun e w' => e = .returned (.int .i64 0) ∧ Bx w' w.heap.size (.slice none 0 0) 60 ∧ Bx w' (w.heap.size + 1) (.string k) 9 ∧ Below w.heap.size w w' ∧ W0.heap.size ≤ w'.heap.size := hp
    clear h hsl hcb hs R key fin hlt hp hle hcnt hn h0 hnil
    go_enter Try.func51, Try.ntmps51
    go_wp2_with fail
    rw [← hW0]
    have hc0 := bc0.cell
    have hf0 := bc0.fro
    have hk0 := bk0.cell
    clear hW0
    go_region_with (first | (go_at_call 36; refine hp0.mono ?_; rintro e w1 ⟨rfl, b1, b2, hb1, hz1⟩; have hc1 := b1.cell; have hf1 := b1.fro; have hcS := one0 b1 (.slice none 0 0); have hcS' := hcS.cell))
    all_goals go_wp2_with (go_at_call 56; refine (KEY.out w1 b1 b2 hb1).mono ?_; rintro e w3 ⟨rfl, hc3, hb3⟩)
    all_goals go_ret
    all_goals exact ⟨_, rfl, NIL.out _ _ _, hb3⟩
  · have hsd : ∀ A c', (pos es k < es.length → A = some ⟨g, pos es k * 2, none⟩) → ∀ w1, Below w.heap.size w w1 → Sl w1 (.slice A (es.length - pos es k) c') cb (es.drop (pos es k)) := fun A c' hA w1 hb1 =>
      ((hsl.below hb1 hlt).drop hle A (fun hlt' off e => by cases e; rw [hA hlt', Nat.zero_add]) c')
    have KEY : Hid (∀ (a : Option Addr) (c' : Nat), (pos es k < es.length → a = some ⟨g, pos es k * 2, none⟩) → ∀ w1, Bx w1 w.heap.size (.slice (some ⟨g, 0, none⟩) es.length cap) 60 → Bx w1 (w.heap.size + 1) (.string k) 9 → Below w.heap.size w w1 →
      Calls Try.prog 56 #[.int .i64 ((es.length - pos es k : Nat) : Int), .func (.func 68) #[] #[.pointer (some ⟨w.heap.size, 0, none⟩), .pointer (some ⟨w.heap.size + 1, 0, none⟩)]] (w1.setCell ⟨w.heap.size, 0, none⟩ (.slice a (es.length - pos es k) c')) fun e w' => e = .returned (.int .i64 ((es.drop (pos es k)).countP (fun e => bg e.1 k) : Nat)) ∧ w'.cell? ⟨w.heap.size, 0, none⟩ = some (.slice a (es.length - pos es k) c') ∧ Below w.heap.size w w') := fun a c' hA => key a c' (hsd a c' hA)
    have FIN : Hid (∀ (a : Option Addr) (c' c2 : Nat) (w1 : World), (pos es k < es.length → a = some ⟨g, pos es k * 2, none⟩) → Below w.heap.size w w1 → Sl w1 (.slice a ((es.drop (pos es k)).countP (fun e => bg e.1 k)) c2) cb (under es k)) := fun a c' c2 w1 hA hb => fin a c' c2 w1 (hsd a c' hA w1 hb)
    have hri : ((pos es k : Nat) : Int) ≤ (es.length : Int) := by omega
    have hrc : ((pos es k : Nat) : Int) ≤ (cap : Int) := by omega
    have hcm' : cap ≤ 9223372036854775807 := by unfold maxLen at hcm; omega
    clear h hsl hcb hg hs R key fin hsd hlt
    generalize (es.drop (pos es k)).countP (fun e => bg e.1 k) = m at *
    generalize under es k = us at *
    generalize pos es k = r at *
    have hmi : (m : Int) ≤ ((cap - r : Nat) : Int) := by omega
    by_cases hcr : cap = r
    · obtain rfl : r = es.length := by omega
      subst hcr
      obtain rfl : m = 0 := by omega
      simp only [Nat.sub_self] at KEY hmi
      go_enter Try.func51, Try.ntmps51
      go_wp2_with fail
      rw [← hW0]
      have hc0 := bc0.cell
      have hf0 := bc0.fro
      have hk0 := bk0.cell
      clear hW0
      go_region_with (first | (go_at_call 36; refine hp.mono ?_; rintro e w1 ⟨rfl, b1, b2, hb1, hz1⟩; have hc1 := b1.cell; have hf1 := b1.fro; have hcS := (one0 b1 (.slice (some ⟨g, 0, none⟩) 0 0)).cell))
      all_goals go_wp2_with (go_at_call 56; refine (KEY.out (some ⟨g, 0, none⟩) 0 (fun h => absurd h (Nat.lt_irrefl _)) w1 b1 b2 hb1).mono ?_; rintro e w3 ⟨rfl, hc3, hb3⟩)
      all_goals go_ret
      all_goals exact ⟨_, rfl, FIN.out _ 0 _ w3 (fun h => absurd h (Nat.lt_irrefl _)) hb3, hb3⟩
    · go_enter Try.func51, Try.ntmps51
      go_wp2_with fail
      rw [← hW0]
      have hc0 := bc0.cell
      have hf0 := bc0.fro
      have hk0 := bk0.cell
      clear hW0
      go_region_with (first | (go_at_call 36; refine hp.mono ?_; rintro e w1 ⟨rfl, b1, b2, hb1, hz1⟩; have hc1 := b1.cell; have hf1 := b1.fro; have hcS := (one0 b1 (.slice (some ⟨g, r * 2, none⟩) (es.length - r) (cap - r))).cell))
      all_goals go_wp2_with (go_at_call 56; refine (KEY.out (some ⟨g, r * 2, none⟩) (cap - r) (fun _ => rfl) w1 b1 b2 hb1).mono ?_; rintro e w3 ⟨rfl, hc3, hb3⟩)
      all_goals go_ret
      all_goals exact ⟨_, rfl, FIN.out _ 0 _ w3 (fun _ => rfl) hb3, hb3⟩

set_option maxHeartbeats 1000000 in
theorem pickUnder {W : World} {sv : Value} {es : List Ent} {cb kb : Nat} {k : ByteArray} (h : W.ownsRow 0 69 2 sv es.length (flat es)) (hs : Rise es) (hcb : ∀ g, sv.ownBlock = some g → g = cb) (hn : es.length < 4611686018427387904) (hk : Bx W kb (.string k) 9) :
    Calls Try.prog 50 #[sv, .pointer (some ⟨kb, 0, none⟩)] W fun e W' => ∃ itv, e = .returned itv ∧ Itv W' W.heap.size cb itv (under es k) ∧ Below W.heap.size W W' := by
  have hkc := hk.cell
  have hp := beginning_any (k := k) h hs hcb hn
  clear hcb
  obtain ⟨a, cap, rfl, -⟩ := row_slice h
  clear h hs
  generalize under es k = us at *
  go_enter Try.func50, Try.ntmps50
  go_wp2_with fail
  refine hp.mono ?_
  rintro e w1 ⟨sv1, rfl, hsl, hb1⟩
  have HS : Hid (Sl w1 sv1 cb us) := hsl
  obtain ⟨a1, c1, rfl, -⟩ := hsl
  go_wp2_with fail
  refine (pickAll HS.out).mono ?_
  rintro e w2 ⟨itv, rfl, hI, hb2⟩
  have HI : Hid (Itv w2 w1.heap.size cb itv us) := hI
  obtain ⟨bs, sv2, -, -, ⟨rfl, -⟩ | ⟨rfl, -⟩⟩ := hI
  · go_wp2
    go_ret
    obtain ⟨bs, sv2, h1, h2, h3⟩ := HI.out
    have hsz := hb1.size
    exact ⟨_, rfl, ⟨bs, sv2, by omega, h2, h3⟩, hb1.trans (hb2.mono hsz)⟩
  · go_wp2
    go_ret
    obtain ⟨bs, sv2, h1, h2, h3⟩ := HI.out
    have hsz := hb1.size
    exact ⟨_, rfl, ⟨bs, sv2, by omega, h2, h3⟩, hb1.trans (hb2.mono hsz)⟩
end Go.Proofs.Ytkohcdefhaokiaa

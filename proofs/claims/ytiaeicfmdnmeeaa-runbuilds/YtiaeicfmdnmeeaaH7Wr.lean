/-
  Package run's writer in memory; how it ends a block (close).
-/
import Derived.Test.YtiaeicfmdnmeeaaH7Put
import Derived.Deep.AppendLies
import Derived.Deep.RegionLaw
namespace Go.Proofs.Ytiaeicfmdnmeeaa
open Go.RowKit Go.Shelf Go.Sort
open Go.Lib hiding intOf

theorem row_append_str {W : World} {B : Nat} {v : Value} {n : Nat} {xs : List Value} (hown : W.ownsRow B 5 1 v n xs) (s : ByteArray) (hb : n + s.size ≤ 140737488355328) (hB : B ≤ W.heap.size) :
    ∃ a' c' w', (Builtin.append_ #[51, 9] 51 #[v, .string s]).run Try.prog W = .ok (.slice a' (n + s.size) c') w' ∧ w'.ownsRow B 5 1 (.slice a' (n + s.size) c') (n + s.size) (xs ++ strCells s) ∧ W.grownBy w' v.ownBlock ∧ ∀ x, (Value.slice a' (n + s.size) c').ownBlock = some x → v.ownBlock = some x ∨ W.heap.size ≤ x := by
  obtain ⟨i0, hi, hz0, hz1, hz2⟩ := info_parts infoByte
  have h63 : n + s.size ≤ maxLen := by unfold maxLen; omega
  obtain ⟨v', w', hr, h2, h3, h4⟩ := run_append_own_string (P := Try.prog) W B 51 9 51 5 i0 Try.underlying51 Try.underlying9 hi hz0 hz1 hz2 v n xs hown s h63 hb hB
  obtain ⟨a', c', rfl, -⟩ := row_slice h2
  refine ⟨a', c', w', hr, h2, h3, ?_⟩
  rcases hown.2 with ⟨rfl, rfl⟩ | ⟨g, cap, cur, rfl, hbg, hg, hnc, hcm, hcs, htake⟩
  · have hx0 : xs = [] := List.eq_nil_of_length_eq_zero (by have := hown.1; omega)
    subst hx0
    obtain ⟨v2, w2, hr2, h22, -, -⟩ := run_append_own_string (P := Try.prog) W W.heap.size 51 9 51 5 i0 Try.underlying51 Try.underlying9 hi hz0 hz1 hz2 (.slice none 0 0) 0 [] (World.ownsRow_nil _ _ _ _) s h63 hb (Nat.le_refl _)
    rw [hr] at hr2
    injection hr2 with e1 e2
    subst e1; subst e2
    intro x hx
    exact .inr (row_obj h22 hx).1
  · by_cases hroom : n + s.size ≤ cap
    · have hr2 := run_append_room_string (P := Try.prog) W 51 9 51 5 i0 Try.underlying51 Try.underlying9 hi hz1 g n cap cur hg s hroom (by omega)
      rw [hr] at hr2
      injection hr2 with e1 e2
      rw [e1]
      intro x hx
      exact .inl hx
    · have holds : ∀ j u, xs[j]? = some u → W.cell? ((⟨g, 0, none⟩ : Addr).add j) = some u := hown.cells (g := g) rfl
      have hr2 := run_append_grow_string (P := Try.prog) W 51 9 51 5 i0 (.int .u8 0) Try.underlying51 Try.underlying9 hi hz0 ⟨g, 0, none⟩ n cap xs (by rw [hz1]; simpa using hown.1) holds s (by omega) (by omega) (by rw [hz2]; exact growslice_fits (by omega) (by omega))
      rw [hr] at hr2
      injection hr2 with e1 e2
      rw [e1]
      intro x hx
      cases hx
      exact .inr (Nat.le_refl _)

theorem row_append_bytes {W : World} {B : Nat} {v : Value} {l : List UInt8} (hown : W.ownsRow B 5 1 v l.length (Lib.byteCells l)) (s : List UInt8) {m : Nat} (hm : (l ++ s).length = m) (hb : m ≤ 140737488355328) (hB : B ≤ W.heap.size) :
    ∃ a' c' w', (Builtin.append_ #[51, 9] 51 #[v, .string (S s)]).run Try.prog W = .ok (.slice a' m c') w' ∧ w'.ownsRow B 5 1 (.slice a' m c') (l ++ s).length (Lib.byteCells (l ++ s)) ∧ W.grownBy w' v.ownBlock ∧ ∀ x, (Value.slice a' m c').ownBlock = some x → v.ownBlock = some x ∨ W.heap.size ≤ x := by
  have e : l.length + (S s).size = m := by rw [← hm, S_size, List.length_append]
  obtain ⟨a', c', w', h1, h2, h3, h4⟩ := row_append_str hown (S s) (by rw [e]; exact hb) hB
  rw [e] at h1 h2 h4
  rw [Lib.strCells_eq, S_list, ← Lib.byteCells_append] at h2
  rw [hm]
  exact ⟨a', c', w', h1, h2, h3, h4⟩
theorem ownB (a : Option Addr) (n m c : Nat) : (Value.slice a n c).ownBlock = (Value.slice a m c).ownBlock := by cases a <;> rfl
theorem Ch.join {X Y : Nat → Prop} {a b c : World} (h : Ch X a b) (k : Ch Y b c) (hxy : ∀ x, x < a.heap.size → Y x → X x) : Ch X a c :=
  ⟨k.os.trans h.os, k.tape.trans h.tape, k.output.trans h.output, Nat.le_trans h.size k.size, fun i hi hX => (k.block i (Nat.lt_of_lt_of_le hi h.size) (fun hY => hX (hxy i hi hY))).trans (h.block i hi hX)⟩
theorem two_new (W : World) (n : Nat) (hn : n = W.heap.size) (x y : Value) (t : TypeId) : ∀ j u, ([x, y] : List Value)[j]? = some u → (W.alloc (.cells #[x, y] t)).cell? ((⟨n, 0, none⟩ : Addr).add j) = some u := by
  subst hn
  intro j u hj
  rw [Addr.add_lit]
  match j, hj with
  | 0, hj => simp at hj; subst hj; simp
  | 1, hj => simp at hj; subst hj; simp
/-- a part of a row from its head on -/
theorem row_cut {w : World} {base : Nat} {e : TypeId} {a : Option Addr} {n c : Nat} {xs : List Value} (h : w.ownsRow base e 1 (.slice a n c) n xs) {i : Nat} (hi : i ≤ n) : w.ownsRow base e 1 (.slice a i c) i (xs.take i) := by
  refine ⟨by have := h.1; simp; omega, ?_⟩
  rcases h.2 with ⟨e1, h0⟩ | ⟨g, cap, cur, e1, hb, hg, hnc, hcm, hcs, ht⟩
  · cases e1
    exact .inl ⟨by rw [show i = 0 by omega], by omega⟩
  · cases e1
    refine .inr ⟨g, c, cur, rfl, hb, hg, by omega, hcm, hcs, ?_⟩
    rw [← ht, List.take_take]
    congr 1
    omega

/-- what the index has of blocks, in memory -/
def spc (sp : List (Nat × List UInt8)) : List Value := sp.flatMap (fun s => [.int .i64 (s.1 : Int), .string (S s.2)])
theorem spc_snoc (sp : List (Nat × List UInt8)) (s : Nat × List UInt8) : spc (sp ++ [s]) = spc sp ++ [.int .i64 (s.1 : Int), .string (S s.2)] := by simp [spc]
def spn (y : List R7) : Nat × List UInt8 := ((fb y).length, key1 y)
theorem infoSpan : (Try.prog.info? 97).map (fun i => (i.zero, i.size, i.bytes)) = some (some (.agg #[.int .i64 0, .string ⟨#[]⟩]), 2, 24) := by kernel_rfl
/-- the writer in block wb -/
structure Wt (w : World) (B wb blk : Nat) (dv sv lv : Value) (D : List UInt8) (sp : List (Nat × List UInt8)) (L fk : List UInt8) : Prop where
  hd : w.heap[wb]? = some (.cells #[.int .i64 (blk : Int), dv, sv, lv, .string (S fk)] 80 (0, 0))
  rd : w.ownsRow B 5 1 dv D.length (Lib.byteCells D)
  rs : w.ownsRow B 97 2 sv sp.length (spc sp)
  rl : w.ownsRow B 5 1 lv L.length (Lib.byteCells L)
  ap : ∀ x, dv.ownBlock = some x → lv.ownBlock ≠ some x
  low : B ≤ wb
/-- its blocks -/
def wf (wb : Nat) (dv sv lv : Value) (x : Nat) : Prop := x = wb ∨ dv.ownBlock = some x ∨ sv.ownBlock = some x ∨ lv.ownBlock = some x
section
variable {w w' w1 : World} {B wb blk : Nat} {dv sv lv dv' sv' lv' : Value} {D D' L L' fk fk' : List UInt8} {sp sp' : List (Nat × List UInt8)} {X : Nat → Prop}
theorem Wt.lt (h : Wt w B wb blk dv sv lv D sp L fk) : wb < w.heap.size := (Array.getElem?_eq_some_iff.1 h.hd).1
theorem Wt.c0 (h : Wt w B wb blk dv sv lv D sp L fk) : w.cell? ⟨wb, 0, none⟩ = some (.int .i64 (blk : Int)) := by simp [World.cell?, h.hd]
theorem Wt.c1 (h : Wt w B wb blk dv sv lv D sp L fk) : w.cell? ⟨wb, 1, none⟩ = some dv := by simp [World.cell?, h.hd]
theorem Wt.c2 (h : Wt w B wb blk dv sv lv D sp L fk) : w.cell? ⟨wb, 2, none⟩ = some sv := by simp [World.cell?, h.hd]
theorem Wt.c3 (h : Wt w B wb blk dv sv lv D sp L fk) : w.cell? ⟨wb, 3, none⟩ = some lv := by simp [World.cell?, h.hd]
theorem Wt.c4 (h : Wt w B wb blk dv sv lv D sp L fk) : w.cell? ⟨wb, 4, none⟩ = some (.string (S fk)) := by simp [World.cell?, h.hd]
theorem Wt.fro (h : Wt w B wb blk dv sv lv D sp L fk) (j : Nat) : w.frozen? ⟨wb, j, none⟩ = false := by simp [World.frozen?, h.hd]
theorem row_hd {v : Value} {n size : Nat} {xs : List Value} {e t : TypeId} {cs : Array Value} (h : w.ownsRow B e size v n xs) (hb : w.heap[wb]? = some (.cells cs t (0, 0))) (he : e ≠ t) {x : Nat} (hx : v.ownBlock = some x) : x ≠ wb := by
  rintro rfl
  obtain ⟨_, cur, hc⟩ := row_obj h hx
  rw [hb] at hc; injection hc with hc; injection hc with _ hc; exact he hc.symm
theorem Wt.d_wb (h : Wt w B wb blk dv sv lv D sp L fk) {x : Nat} (hx : dv.ownBlock = some x) : x ≠ wb := row_hd h.rd h.hd (by decide) hx
theorem Wt.s_wb (h : Wt w B wb blk dv sv lv D sp L fk) {x : Nat} (hx : sv.ownBlock = some x) : x ≠ wb := row_hd h.rs h.hd (by decide) hx
theorem Wt.l_wb (h : Wt w B wb blk dv sv lv D sp L fk) {x : Nat} (hx : lv.ownBlock = some x) : x ≠ wb := row_hd h.rl h.hd (by decide) hx
theorem Wt.d_s (h : Wt w B wb blk dv sv lv D sp L fk) {x : Nat} (hx : dv.ownBlock = some x) : sv.ownBlock ≠ some x := fun hy => row_ne h.rd h.rs (by decide) hx hy rfl
theorem Wt.l_s (h : Wt w B wb blk dv sv lv D sp L fk) {x : Nat} (hx : lv.ownBlock = some x) : sv.ownBlock ≠ some x := fun hy => row_ne h.rl h.rs (by decide) hx hy rfl
theorem Wt.foot (h : Wt w B wb blk dv sv lv D sp L fk) {x : Nat} (hx : wf wb dv sv lv x) : x < w.heap.size ∧ B ≤ x := by
  rcases hx with rfl | hx | hx | hx
  · exact ⟨h.lt, h.low⟩
  · obtain ⟨h1, cur, hc⟩ := row_obj h.rd hx; exact ⟨(Array.getElem?_eq_some_iff.1 hc).1, h1⟩
  · obtain ⟨h1, cur, hc⟩ := row_obj h.rs hx; exact ⟨(Array.getElem?_eq_some_iff.1 hc).1, h1⟩
  · obtain ⟨h1, cur, hc⟩ := row_obj h.rl hx; exact ⟨(Array.getElem?_eq_some_iff.1 hc).1, h1⟩
theorem Wt.ch (h : Wt w B wb blk dv sv lv D sp L fk) (hc : Ch X w w') (hX : ∀ x, wf wb dv sv lv x → ¬ X x) : Wt w' B wb blk dv sv lv D sp L fk :=
  ⟨hc.obj h.hd (hX _ (.inl rfl)), hc.row h.rd (fun k hk => hX k (.inr (.inl hk))), hc.row h.rs (fun k hk => hX k (.inr (.inr (.inl hk)))), hc.row h.rl (fun k hk => hX k (.inr (.inr (.inr hk)))), h.ap, h.low⟩
theorem Wt.below (h : Wt w B wb blk dv sv lv D sp L fk) (hb : Below w.heap.size w w') : Wt w' B wb blk dv sv lv D sp L fk := h.ch (X := fun _ => False) (Ch.of_below hb) (fun _ _ => id)
theorem chSet (w1 : World) (wb j : Nat) (v : Value) : Ch (fun x => x = wb) w1 (w1.setCell ⟨wb, j, none⟩ v) := (Ch.refl _ w1).setCell _ _ (fun _ => rfl)
theorem row_far {v : Value} {n size : Nat} {xs : List Value} {e : TypeId} (h : w.ownsRow B e size v n xs) {x : Nat} (hx : v.ownBlock = some x) : x < w.heap.size := by
  obtain ⟨_, cur, hc⟩ := row_obj h hx; exact (Array.getElem?_eq_some_iff.1 hc).1
/-- another slice of what is done -/
theorem Wt.setD (h : Wt w B wb blk dv sv lv D sp L fk) (hc : Ch (fun x => dv.ownBlock = some x) w w1) (hr : w1.ownsRow B 5 1 dv' D'.length (Lib.byteCells D')) (hn : ∀ x, dv'.ownBlock = some x → dv.ownBlock = some x ∨ w.heap.size ≤ x) :
    Wt (w1.setCell ⟨wb, 1, none⟩ dv') B wb blk dv' sv lv D' sp L fk ∧ Ch (wf wb dv sv lv) w (w1.setCell ⟨wb, 1, none⟩ dv') := by
  have c := chSet w1 wb 1 dv'
  have hd1 := hc.obj h.hd (fun e => h.d_wb e rfl)
  refine ⟨⟨heap_setCell_same w1 wb 1 _ _ dv' hd1, c.row hr (fun k hk e => ?_), c.row (hc.row h.rs (fun k hk e => h.d_s e hk)) (fun k hk e => h.s_wb hk e), c.row (hc.row h.rl (fun k hk e => h.ap k e hk)) (fun k hk e => h.l_wb hk e), fun x hx hl => ?_, h.low⟩, ?_⟩
  · have hlt := h.lt
    rcases hn k hk with h1 | h1
    · exact h.d_wb h1 e
    · omega
  · rcases hn x hx with h1 | h1
    · exact h.ap x h1 hl
    · have := row_far h.rl hl; omega
  · exact (hc.mono (fun k _ hk => .inr (.inl hk))).setCell _ _ (fun _ => .inl rfl)
theorem Wt.setS (h : Wt w B wb blk dv sv lv D sp L fk) (hc : Ch (fun x => sv.ownBlock = some x) w w1) (hr : w1.ownsRow B 97 2 sv' sp'.length (spc sp')) (hn : ∀ x, sv'.ownBlock = some x → sv.ownBlock = some x ∨ w.heap.size ≤ x) :
    Wt (w1.setCell ⟨wb, 2, none⟩ sv') B wb blk dv sv' lv D sp' L fk ∧ Ch (wf wb dv sv lv) w (w1.setCell ⟨wb, 2, none⟩ sv') := by
  have c := chSet w1 wb 2 sv'
  have hd1 := hc.obj h.hd (fun e => h.s_wb e rfl)
  refine ⟨⟨heap_setCell_same w1 wb 2 _ _ sv' hd1, c.row (hc.row h.rd (fun k hk e => h.d_s hk e)) (fun k hk e => h.d_wb hk e), c.row hr (fun k hk e => ?_), c.row (hc.row h.rl (fun k hk e => h.l_s hk e)) (fun k hk e => h.l_wb hk e), h.ap, h.low⟩, ?_⟩
  · have hlt := h.lt
    rcases hn k hk with h1 | h1
    · exact h.s_wb h1 e
    · omega
  · exact (hc.mono (fun k _ hk => .inr (.inr (.inl hk)))).setCell _ _ (fun _ => .inl rfl)
theorem Wt.setL (h : Wt w B wb blk dv sv lv D sp L fk) (hc : Ch (fun x => lv.ownBlock = some x) w w1) (hr : w1.ownsRow B 5 1 lv' L'.length (Lib.byteCells L')) (hn : ∀ x, lv'.ownBlock = some x → lv.ownBlock = some x ∨ w.heap.size ≤ x) :
    Wt (w1.setCell ⟨wb, 3, none⟩ lv') B wb blk dv sv lv' D sp L' fk ∧ Ch (wf wb dv sv lv) w (w1.setCell ⟨wb, 3, none⟩ lv') := by
  have c := chSet w1 wb 3 lv'
  have hd1 := hc.obj h.hd (fun e => h.l_wb e rfl)
  refine ⟨⟨heap_setCell_same w1 wb 3 _ _ lv' hd1, c.row (hc.row h.rd (fun k hk e => h.ap k hk e)) (fun k hk e => h.d_wb hk e), c.row (hc.row h.rs (fun k hk e => h.l_s e hk)) (fun k hk e => h.s_wb hk e), c.row hr (fun k hk e => ?_), fun x hx hl => ?_, h.low⟩, ?_⟩
  · have hlt := h.lt
    rcases hn k hk with h1 | h1
    · exact h.l_wb h1 e
    · omega
  · rcases hn x hl with h1 | h1
    · exact h.ap x hx h1
    · have := row_far h.rd hx; omega
  · exact (hc.mono (fun k _ hk => .inr (.inr (.inr hk)))).setCell _ _ (fun _ => .inl rfl)
theorem Wt.setF (h : Wt w B wb blk dv sv lv D sp L fk) (k : List UInt8) : Wt (w.setCell ⟨wb, 4, none⟩ (.string (S k))) B wb blk dv sv lv D sp L k ∧ Ch (wf wb dv sv lv) w (w.setCell ⟨wb, 4, none⟩ (.string (S k))) := by
  have c := chSet w wb 4 (.string (S k))
  exact ⟨⟨heap_setCell_same w wb 4 _ _ _ h.hd, c.row h.rd (fun k hk e => h.d_wb hk e), c.row h.rs (fun k hk e => h.s_wb hk e), c.row h.rl (fun k hk e => h.l_wb hk e), h.ap, h.low⟩, (Ch.refl _ w).setCell _ _ (fun _ => .inl rfl)⟩
end
/-- blocks that were laid down, and the last one; all within X -/
def Ws (X : Nat → Prop) (w : World) (B wb blk : Nat) (bs : List (List R7)) (cur : List R7) : Prop :=
  ∃ dv sv lv fk, Wt w B wb blk dv sv lv (fbs bs) (bs.map spn) (ld cur) fk ∧ (cur ≠ [] → fk = key1 cur) ∧ ∀ x, wf wb dv sv lv x → X x
/-- what a call leaves -/
def Wl (X : Nat → Prop) (w w' : World) (B wb blk : Nat) (bs : List (List R7)) (cur : List R7) : Prop := Ws (fun x => X x ∨ w.heap.size ≤ x) w' B wb blk bs cur ∧ Ch X w w'
theorem Ws.ch {X Y : Nat → Prop} {w w' : World} {B wb blk : Nat} {bs : List (List R7)} {cur : List R7} (h : Ws X w B wb blk bs cur) (hc : Ch Y w w') (hX : ∀ x, X x → x < w.heap.size → ¬ Y x) : Ws X w' B wb blk bs cur := by
  obtain ⟨dv, sv, lv, fk, h1, h2, h3⟩ := h
  exact ⟨dv, sv, lv, fk, h1.ch hc (fun x hx => hX x (h3 x hx) (h1.foot hx).1), h2, h3⟩
theorem Ws.wide {X Y : Nat → Prop} {w : World} {B wb blk : Nat} {bs : List (List R7)} {cur : List R7} (h : Ws X w B wb blk bs cur) (hX : ∀ x, X x → x < w.heap.size → Y x) : Ws Y w B wb blk bs cur := by
  obtain ⟨dv, sv, lv, fk, h1, h2, h3⟩ := h
  exact ⟨dv, sv, lv, fk, h1, h2, fun x hx => hX x (h3 x hx) (h1.foot hx).1⟩
/-- how a block is ended -/
def cls (bs : List (List R7)) (cur : List R7) : List (List R7) := if cur = [] ∨ 1048576 < (fbs bs).length then bs else bs ++ [cur]

set_option maxHeartbeats 2000000 in
set_option maxRecDepth 100000 in
theorem close_any {X : Nat → Prop} {w : World} {B wb blk : Nat} {bs : List (List R7)} {cur : List R7} (h : Ws X w B wb blk bs cur) (hD : (fbs bs).length ≤ 1200000) (hL : (ld cur).length ≤ 65536) (hB : B ≤ w.heap.size) :
    Calls Try.prog 52 #[.pointer (some ⟨wb, 0, none⟩)] w fun e w' => (∃ v, e = .returned v) ∧ Wl X w w' B wb blk (cls bs cur) [] := by
  obtain ⟨dv, sv, lv, fk, h, hk, hX⟩ := h
  obtain ⟨da, dc, rfl, -⟩ := row_slice h.rd
  obtain ⟨la, lc, rfl, hl1, hl2, -⟩ := row_slice h.rl
  obtain ⟨sa, sc, hsv, -⟩ := row_slice h.rs
  rw [List.length_map] at hsv
  subst hsv
  obtain ⟨i0, hi0, hz0, hz1, hz2⟩ := info_parts infoSpan
  have c1 := h.c1
  have c3 := h.c3
  have f3 := h.fro 3
  have q0 : (0 : Int) ≤ (lc : Int) := by omega
  have fin : Hid (∀ (w5 : World) (dv5 sv5 : Value) (D5 : List (List R7)) (f5 : List UInt8), Wt w5 B wb blk dv5 sv5 (.slice la (ld cur).length lc) (fbs D5) (D5.map spn) (ld cur) f5 → Ch (wf wb (.slice da (fbs bs).length dc) (.slice sa bs.length sc) (.slice la (ld cur).length lc)) w w5 → (∀ x, dv5.ownBlock = some x → (Value.slice da (fbs bs).length dc).ownBlock = some x ∨ w.heap.size ≤ x) → (∀ x, sv5.ownBlock = some x → (Value.slice sa bs.length sc).ownBlock = some x ∨ w.heap.size ≤ x) →
      Wl X w (w5.setCell ⟨wb, 3, none⟩ (.slice la 0 lc)) B wb blk D5 []) := by
    intro w5 dv5 sv5 D5 f5 h5 hc5 hd5 hs5
    have hr0 := row_cut h5.rl (i := 0) (Nat.zero_le _)
    have e0 := ownB la 0 (ld cur).length lc
    obtain ⟨k1, k2⟩ := h5.setL (w1 := w5) (lv' := .slice la 0 lc) (L' := []) (Ch.refl _ w5) (by simpa [Lib.byteCells] using hr0) (fun x hx => .inl (e0 ▸ hx))
    refine ⟨⟨dv5, sv5, _, f5, k1, fun e => absurd rfl e, ?_⟩, ?_⟩
    · rintro x (hx | hx | hx | hx)
      · exact .inl (hX x (.inl hx))
      · exact (hd5 x hx).imp (fun e => hX x (.inr (.inl e))) id
      · exact (hs5 x hx).imp (fun e => hX x (.inr (.inr (.inl e)))) id
      · exact .inl (hX x (.inr (.inr (.inr (e0 ▸ hx)))))
    · refine (hc5.mono (fun k _ hk => hX k hk)).join k2 ?_
      rintro x hlt (hx | hx | hx | hx)
      · exact hX x (.inl hx)
      · rcases hd5 x hx with e | e
        · exact hX x (.inr (.inl e))
        · omega
      · rcases hs5 x hx with e | e
        · exact hX x (.inr (.inr (.inl e)))
        · omega
      · exact hX x (.inr (.inr (.inr hx)))
  by_cases hcur : cur = []
  · subst hcur
    have HF : Hid _ := fin.out w _ _ bs fk h (Ch.refl _ w) (fun x hx => .inl hx) (fun x hx => .inl hx)
    have HE : Hid (cls bs [] = bs) := by show _ = _; simp [cls]
    have hz : (ld []).length = 0 := rfl
    rw [hz] at *
    clear h hX hk fin
    go_enter Try.func52, Try.ntmps52
    go_wp2
    go_end0
    exact ⟨⟨_, rfl⟩, by rw [HE.out]; exact HF.out⟩
  · have hp := ld_pos hcur
    have hp' : (0 : Int) < ((ld cur).length : Int) := by omega
    by_cases hlong : 1048576 < (fbs bs).length
    · have hlong' : ¬ ((fbs bs).length : Int) ≤ 1048576 := by omega
      have HF : Hid _ := fin.out w _ _ bs fk h (Ch.refl _ w) (fun x hx => .inl hx) (fun x hx => .inl hx)
      have HE : Hid (cls bs cur = bs) := by show _ = _; simp [cls, hlong]
      clear h hX hk fin hcur
      go_enter Try.func52, Try.ntmps52
      go_wp2
      go_end0
      exact ⟨⟨_, rfl⟩, by rw [HE.out]; exact HF.out⟩
    · have hlong' : ((fbs bs).length : Int) ≤ 1048576 := by omega
      have HE : Hid (cls bs cur = bs ++ [cur]) := by show _ = _; simp [cls, hlong, hcur]
      have hcv := conv_own h.rl
      have HP : ∀ w, _ := fun w => Put_any 2 (ld cur) hL w
      have e2 : (((2 : UInt8).toNat : Nat) : Int) = 2 := rfl
      rw [e2] at HP
      have hfl : (fbs bs ++ fb cur).length ≤ 1400000 := by
        have := fb_length cur
        have := txt_length (ld cur)
        have := Lib.uvarint_length64 (show (ld cur).length < 18446744073709551616 by omega)
        rw [List.length_append]; omega
      obtain rfl := hk hcur
      obtain ⟨m, HM⟩ : ∃ m, Hid ((fbs bs ++ fb cur).length = m) := ⟨_, show _ = _ from rfl⟩
      rw [HM.out] at hfl
      have H : Hid (Wt w B wb blk (.slice da (fbs bs).length dc) (.slice sa bs.length sc) (.slice la (ld cur).length lc) (fbs bs) (bs.map spn) (ld cur) (key1 cur)) := h
      have hfs := S_size (fb cur)
      change ∀ w, Calls Try.prog 61 _ w fun e w' => e = .returned (.tuple #[.string (S (fb cur)), .int .i64 0]) ∧ _ at HP
      clear h hk hcur
      go_enter Try.func52, Try.ntmps52
      go_wp2_with (first
        | (go_at_call 61; refine (HP _).mono ?_; rintro e w2 ⟨rfl, hb2⟩; have h2 := H.out.below hb2; obtain ⟨a3, d3, w3, hrun, hrow3, hgrow3, hnew3⟩ := row_append_bytes h2.rd (fb cur) HM.out (by omega) (Nat.le_trans hB hb2.size); have g1 := h2.c1; (have hc3 : Ch (fun x => (Value.slice da (fbs bs).length dc).ownBlock = some x) w2 w3 := Ch.of_grown hgrow3 (fun k e _ => e)); have g2 := hc3.obj h2.hd (fun e => h2.d_wb e rfl); obtain ⟨h4, hc4⟩ := h2.setD hc3 hrow3 hnew3; (have g3 : w3.cell? ⟨wb, 1, none⟩ = some (.slice da (fbs bs).length dc) := by simp [World.cell?, g2]); (have g4 : w3.frozen? ⟨wb, 1, none⟩ = false := by simp [World.frozen?, g2]); have H4 : Hid _ := h4; have HC4 : Hid _ := hc4; have HN : Hid _ := hnew3; have HB2 : Hid _ := hb2; clear h2 h4 hc4 hnew3 hgrow3 hc3 hrow3 hb2 g2)
        | (at_builtin; refine Lib.wpList_append_run _ rfl _ _ _ _ rfl _ _ rfl rfl _ _ hrun ?_))
      obtain ⟨W4, hW4⟩ : ∃ W4, W4 = w3.setCell ⟨wb, 1, none⟩ (.slice a3 m d3) := ⟨_, rfl⟩
      rw [← hW4] at H4 HC4 ⊢
      clear hW4 g3 g4 hrun
      have n2 := H4.out.c2
      have n4 := H4.out.c4
      have n5 := H4.out.fro 2
      have n2' := cell?_alloc_some (.cells #[.int .i64 ((fb cur).length : Int), .string (S (key1 cur))] 97) n2
      have n4' := cell?_alloc_some (.cells #[.int .i64 ((fb cur).length : Int), .string (S (key1 cur))] 97) n4
      have HR4 : Hid (W4.ownsRow B 97 2 (.slice sa bs.length sc) bs.length (spc (bs.map spn))) := by have := H4.out.rs; rwa [List.length_map] at this
      have hbl : bs.length ≤ 1200000 := by
        have : ∀ l : List (List R7), l.length ≤ (fbs l).length := fun l => by
          induction l with
          | nil => simp
          | cons y t ih => rw [fbs_cons, List.length_append, fb_length]; simp; omega
        have := this bs; omega
      have hB4 : B ≤ W4.heap.size := Nat.le_trans hB (Nat.le_trans HB2.out.size HC4.out.size)
      have HK : Hid (∀ (o : Obj) (w6 : World) (gg cap : Nat), (World.drew (W4.alloc o)).grownBy w6 (Value.slice sa bs.length sc).ownBlock → w6.ownsRow B 97 2 (.slice (some ⟨gg, 0, none⟩) (bs.length + 1) cap) (bs.length + 1) (spc (bs.map spn) ++ [.int .i64 ((fb cur).length : Int), .string (S (key1 cur))]) → ((Value.slice sa bs.length sc).ownBlock = some gg ∨ gg = W4.heap.size + 1) →
          w6.cell? ⟨wb, 2, none⟩ = some (.slice sa bs.length sc) ∧ w6.frozen? ⟨wb, 2, none⟩ = false ∧ (∃ sv, Value.slice (some ⟨gg, 0, none⟩) (bs.length + 1) cap = sv ∧ (∀ x, sv.ownBlock = some x → (Value.slice sa bs.length sc).ownBlock = some x ∨ w.heap.size ≤ x) ∧ Wt (w6.setCell ⟨wb, 2, none⟩ (.slice (some ⟨gg, 0, none⟩) (bs.length + 1) cap)) B wb blk (.slice a3 m d3) sv (.slice la (ld cur).length lc) (fbs bs ++ fb cur) ((bs ++ [cur]).map spn) (ld cur) (key1 cur) ∧ Ch (wf wb (.slice a3 m d3) (.slice sa bs.length sc) (.slice la (ld cur).length lc)) W4 (w6.setCell ⟨wb, 2, none⟩ (.slice (some ⟨gg, 0, none⟩) (bs.length + 1) cap)))) := by
        intro o w6 gg cap hg hr hat
        have hc6 : Ch (fun x => (Value.slice sa bs.length sc).ownBlock = some x) W4 w6 := (((Ch.refl _ W4).alloc o).drew).trans (Ch.of_grown hg (fun k e _ => e))
        have g2 := hc6.obj H4.out.hd (fun e => H4.out.s_wb e rfl)
        have hn6 : ∀ x, (Value.slice (some ⟨gg, 0, none⟩) (bs.length + 1) cap).ownBlock = some x → (Value.slice sa bs.length sc).ownBlock = some x ∨ W4.heap.size ≤ x := fun x hx => by
          obtain rfl : gg = x := by simpa [Value.ownBlock] using hx
          exact hat.imp id (fun e => by omega)
        obtain ⟨h7, hc7⟩ := H4.out.setS hc6 (sv' := .slice (some ⟨gg, 0, none⟩) (bs.length + 1) cap) (sp' := (bs ++ [cur]).map spn) (by
          rw [List.map_append, List.length_append, List.length_map]; exact (spc_snoc (bs.map spn) (spn cur)) ▸ hr) hn6
        have hsz := Nat.le_trans HB2.out.size HC4.out.size
        exact ⟨by simp [World.cell?, g2], by simp [World.frozen?, g2], _, rfl, fun x hx => (hn6 x hx).imp id (fun e => by omega), h7, hc7⟩
      go_region_law (refine step_append_lies _ (by rfl) _ _ _ (by rfl) B 97 i0 _ 2 24 Try.underlying78 hi0 hz0 hz1 hz2 rfl (by decide) (.slice sa bs.length sc) bs.length (spc (bs.map spn)) (by rfl) (show (World.drew (W4.alloc _)).ownsRow B 97 2 (.slice sa bs.length sc) bs.length (spc (bs.map spn)) from HR4.out.alloc _) ⟨W4.heap.size, 0, none⟩ 1 1 [.int .i64 ((fb cur).length : Int), .string (S (key1 cur))] (by rfl) (by rfl) (two_new _ _ rfl _ _ _) (by simp [Value.oneCell']) (by decide) (by unfold maxLen; omega) (by omega) (by simp; omega) (W4.heap.size + 1) (by simp) ?_; intro gg cap w6 hown6 hgrow6 hat hlt6; obtain ⟨p1, p2, sv6, hsv6, p3, p4, p5⟩ := HK.out _ w6 gg cap hgrow6 hown6 hat; have P4 : Hid _ := p4; have P5 : Hid _ := p5; have P3 : Hid _ := p3; have P6 : Hid _ := hsv6; clear p3 p4 p5 hsv6 hown6 hgrow6 hat)
      all_goals
        have m3 := P4.out.c3
        have m4 := P4.out.fro 3
        have HF : Hid _ := fin.out _ _ _ (bs ++ [cur]) (key1 cur) (by rw [fbs_snoc]; exact P4.out) ((((Ch.of_below HB2.out).join HC4.out (fun x hx h => h)).join P5.out (fun x hx h => by
          rcases h with h | h | h | h
          · exact .inl h
          · exact (HN.out x h).elim (fun e => .inr (.inl e)) (fun e => by have := HB2.out.size; omega)
          · exact .inr (.inr (.inl h))
          · exact .inr (.inr (.inr h))))) (fun x hx => (HN.out x hx).imp id (fun e => Nat.le_trans HB2.out.size e)) P3.out
        go_wp2
        go_end0
        exact ⟨⟨_, rfl⟩, by rw [HE.out]; exact HF.out⟩
end Go.Proofs.Ytiaeicfmdnmeeaa

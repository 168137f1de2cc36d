/-
  A log, and a slice of strings in a box beside it: what SeglogReads has gathered.
-/
import Derived.Test.YteifkkceldlfnaaGreatDoorG6Num
import Derived.Test.YteifkkceldlfnaaGreatDoorG6Col
import Derived.Test.YteifkkceldlfnaaGreatDoorG6Pn
import Derived.Maps.AppendAt
namespace Go.Proofs.YteifkkceldlfnaaGreatDoor
open Go.RowKit Go.Shelf Go.Sort
open Go.Lib hiding intOf

theorem Gv.up {B B' : Nat} {w : World} (h : Gv B w) (hb : B ≤ B') : Gv B' w := fun W hW => h W (hW.mono hb)
structure Ra (W0 wr : World) (N lb d : Nat) (lg : Lg) (st : Ab) (all : List (List UInt8)) (v : Value) : Prop where
  bx : Bx wr N v 35
  row : wr.ownsRow W0.heap.size 9 1 v all.length (strCs all)
  ls : Ls (fun x => W0.heap.size ≤ x ∧ x ≠ N ∧ v.ownBlock ≠ some x) wr W0.heap.size lb d lg st
  bw : Below W0.heap.size W0 wr
  lo : W0.heap.size ≤ N
section
variable {W0 wr w' u w1 : World} {N lb d k : Nat} {lg : Lg} {st : Ab} {all l : List (List UInt8)} {v v1 av : Value}
theorem Ra.below (h : Ra W0 wr N lb d lg st all v) (hb : Below wr.heap.size wr w') : Ra W0 w' N lb d lg st all v :=
  ⟨h.bx.below hb h.bx.lt, (show Ch (fun _ => False) wr w' from Ch.of_below hb).row h.row (fun _ _ => id), h.ls.below hb, h.bw.trans (hb.mono h.bw.size), h.lo⟩
theorem Ra.far (h : Ra W0 wr N lb d lg st all v) {x : Nat} (hx : v.ownBlock = some x) : x < wr.heap.size ∧ x ≠ N := by
  obtain ⟨_, cur, h1⟩ := row_obj h.row hx
  exact ⟨(Array.getElem?_eq_some_iff.1 h1).1, fun e => row_box h.row h.bx (by decide) hx e⟩
theorem Ra.append (h : Ra W0 wr N lb d lg st all v) (hp : Pn lg all) (hv : Gv W0.heap.size W0) (hs : Strs W0 av l) (hl : l.length ≤ 9223372036854775807) :
    ∃ (po : Nat) (er : Int) (lg' : Lg) (st' : Ab), (er = 0 → Pn lg' (all ++ l) ∧ l ≠ [] ∧ all.length + l.length ≤ 1099511627777) ∧ (er ≠ 0 → Pn lg' all) ∧
    Calls Tryz.prog 24 #[.pointer (some ⟨lb, 0, none⟩), av] wr (fun e w' => e = .returned (.tuple #[.int .u64 (po : Int), .int .i64 er]) ∧ Ra W0 w' N lb d lg' st' all v) := by
  have hpa := hp.append st l
  have hA := gAppend_any h.ls (hv.below h.bw) (fun x hx => hx.1) (hs.below h.bw (Nat.le_refl _)) (fun h0 b o m c e hx => by
    obtain ⟨a, c', rfl, h1⟩ := hs
    rcases h1 with h1 | ⟨b', o', rfl, hb', _⟩
    · exact absurd h1 h0
    · cases e
      have := hx.1
      omega) hl
  have hok : Ok (gAppend lg st l).2.1 := gAppend_ok h.ls.ok
  refine ⟨(gAppend lg st l).1.1, (gAppend lg st l).1.2, (gAppend lg st l).2.1, (gAppend lg st l).2.2, fun he => ?_, fun he => ?_, hA.mono fun e w' x => ⟨x.1, ?_⟩⟩
  · rw [if_pos he] at hpa
    obtain ⟨-, h2, -⟩ := gApp_took he
    have h3 := (isB_iff.1 h2).1.1
    have h4 := hpa.n
    have h5 := hok.next.2
    rw [List.length_append] at h4
    exact ⟨hpa, fun e => by rw [e] at h3; simp at h3, by omega⟩
  · rw [if_neg he] at hpa; exact hpa
  · obtain ⟨L, c⟩ := x.2
    have hz := c.size
    have hN := h.bx.lt
    refine ⟨h.bx.ch c (fun e => e.2.1 rfl), c.row h.row (fun k hk e => e.2.2 hk), L.mono (fun x hx => ?_), h.bw.trans (c.below h.bw.size (fun k hk e => by omega)), h.lo⟩
    rcases hx with hx | hx
    · exact hx
    · exact ⟨by have := h.bw.size; omega, by omega, fun e => by have := (h.far e).1; omega⟩
/-- the batch is gathered -/
theorem Ra.gather (h : Ra W0 u N lb d lg st all v) {ad : Addr} {c : Nat} (hc : ∀ j w, (strCs l)[j]? = some w → u.cell? (ad.add j) = some w) (hb : all.length + l.length ≤ 1099511627777) :
    ∃ a1 c1 w1, (Builtin.append_ #[35, 35] 35 #[v, .slice (some ad) l.length c]).run Tryz.prog u = .ok (.slice a1 (all.length + l.length) c1) w1 ∧ w1.cell? ⟨N, 0, none⟩ = some v ∧ w1.frozen? ⟨N, 0, none⟩ = false ∧ Ra W0 (w1.setCell ⟨N, 0, none⟩ (.slice a1 (all.length + l.length) c1)) N lb d lg st (all ++ l) (.slice a1 (all.length + l.length) c1) := by
  obtain ⟨i0, hi0, hz0, hz1, hz2⟩ := info_parts infoStr
  obtain ⟨v1, w1, r1, r2, r3, -, r5⟩ := run_append_own_at (P := Tryz.prog) (w := u) W0.heap.size 35 35 9 i0 (.string ⟨#[]⟩) 1 16 Tryz.underlying35 hi0 hz0 hz1 hz2 rfl (by decide) v all.length _ h.row ad l.length c (strCs l) (by rw [strCs_length]; simp) hc (by intro x hx; obtain ⟨y, _, rfl⟩ := List.mem_map.1 hx; rfl) (by unfold maxLen; omega) (by omega) h.bw.size
  have c1 : Ch (fun k => v.ownBlock = some k) u w1 := Ch.of_grown r3 (fun k e _ => e)
  have hN := h.bx.lt
  have b1 := h.bx.ch c1 (fun e => (h.far e).2 rfl)
  have c2 : Ch (fun k => k = N) w1 (w1.setCell ⟨N, 0, none⟩ v1) := (Ch.refl _ w1).setCell _ _ (fun _ => rfl)
  have c3 : Ch (fun k => k = N ∨ v.ownBlock = some k) u (w1.setCell ⟨N, 0, none⟩ v1) := (c1.mono (fun k _ h => .inr h)).joinG c2 (fun k _ h => .inl h)
  have hv1 : ∀ x, v1.ownBlock = some x → v.ownBlock = some x ∨ x = u.heap.size := fun x hx => by
    rcases r5 with e | e
    · exact .inl (e ▸ hx)
    · rw [e] at hx; cases hx; exact .inr rfl
  obtain ⟨a1, k1, rfl, -⟩ := row_slice r2
  refine ⟨a1, k1, w1, r1, b1.cell, b1.fro, ⟨one0 b1 _, ?_, ?_, h.bw.trans (c3.below h.bw.size (fun k hk e => ?_)), h.lo⟩⟩
  · rw [List.length_append, show strCs (all ++ l) = strCs all ++ strCs l by simp [strCs]]
    exact c2.row r2 (fun x hx e => by
      rcases hv1 x hx with e2 | e2
      · exact (h.far e2).2 e
      · omega)
  · refine (h.ls.tight.ch c3 (fun x hx e => ?_)).mono (fun x hx => ⟨hx.1.1, hx.1.2.1, fun e => ?_⟩)
    · rcases e with e | e
      · exact hx.1.2.1 e
      · exact hx.1.2.2 e
    · rcases hv1 x e with e2 | e2
      · exact hx.1.2.2 e2
      · have := hx.2; omega
  · rcases e with e | e
    · have := h.lo; omega
    · have := (row_obj h.row e).1; omega
/-- what a range tells at a place -/
theorem from_get {lg : Lg} {all : List (List UInt8)} (h : Pn lg all) {k j : Nat} {x : Nat × List UInt8} (hx : (gFrom lg k)[j]? = some x) : k ≤ x.1 ∧ 1 ≤ x.1 ∧ x.1 ≤ all.length ∧ all[x.1 - 1]? = some x.2 := by
  unfold gFrom at hx
  rw [h.f, h.a, ent_get, List.getElem?_drop] at hx
  obtain ⟨r, hr, rfl⟩ := Option.map_eq_some_iff.1 hx
  have hlt := (List.getElem?_eq_some_iff.1 hr).1
  refine ⟨by simp only; omega, by simp only; omega, by simp only; omega, ?_⟩
  simp only
  rw [show max k 1 + j - 1 = k - 1 + j by omega]
  exact hr
theorem from_count {lg : Lg} {all : List (List UInt8)} (h : Pn lg all) (k : Nat) : (gFrom lg k).length = all.length - (k - 1) := by
  unfold gFrom
  rw [ent_length, List.length_drop, h.f, h.a]
theorem read_at {lg : Lg} {all : List (List UInt8)} (h : Pn lg all) {i : Nat} (hi : i < all.length) : gRead lg (i + 1) = (all[i], 0) := by
  unfold gRead
  rw [h.f, h.n, h.a, if_neg (by omega), Nat.add_sub_cancel, List.getElem?_eq_getElem hi]
  rfl
theorem read_no {lg : Lg} {all : List (List UInt8)} (h : Pn lg all) {i : Nat} (hi : i = 0 ∨ all.length < i) : gRead lg i = ([], 5) := by
  unfold gRead
  rw [h.f, h.n, if_pos (by omega)]
theorem row_str {W : World} {B : Nat} {all : List (List UInt8)} {v : Value} (h : W.ownsRow B 9 1 v all.length (strCs all)) {i : Nat} (hi : i < all.length) : ∃ g c, v = .slice (some ⟨g, 0, none⟩) all.length c ∧ W.cell? ⟨g, i, none⟩ = some (.string (S all[i])) := by
  rcases h.2 with ⟨e, h0⟩ | ⟨g, cap', cur, e, -⟩
  · omega
  · refine ⟨g, cap', e, ?_⟩
    rw [e] at h
    refine row_cell h ?_
    unfold strCs
    rw [List.getElem?_map, List.getElem?_eq_getElem hi]
    rfl
theorem Ra.cell (h : Ra W0 wr N lb d lg st all v) {i : Nat} (hi : i < all.length) : ∃ g c, v = .slice (some ⟨g, 0, none⟩) all.length c ∧ wr.cell? ⟨g, i, none⟩ = some (.string (S all[i])) := by
  rcases h.row.2 with ⟨e, h0⟩ | ⟨g, cap', cur, e, -⟩
  · omega
  · refine ⟨g, cap', e, ?_⟩
    have hr := h.row
    rw [e] at hr
    refine row_cell hr ?_
    unfold strCs
    rw [List.getElem?_map, List.getElem?_eq_getElem hi]
    rfl
/-- 'for k, v := range f { .. }', k and v plain variables, never left -/
theorem range_sqR2 {α : Type} {e1 e2 : α → Value} {g : Operand} {p1 p2 : Tmp} {assign body : Code} {Q : Exit → Act → World → Prop} {a : Act} {w : World} {n : Nat} {f : Value} {l : List α} {X : Nat → Prop} (s1 s2 : Nat)
    (hg : a.eval g = f) (hS : SqR (fun x => #[e1 x, e2 x]) w f l X)
    (I : (Nat → Prop) → List α → World → Prop)
    (hI : ∀ (R R' : Nat → Prop) pre W W', I R pre W → Sr w.heap.size R W W' → (∀ k, R' k → R k ∨ (W.heap.size ≤ k ∧ k < W'.heap.size)) → I R' pre W')
    (hstart : ∀ W0, Below w.heap.size w W0 → w.heap.size + 2 ≤ W0.heap.size → I (fun k => w.heap.size + 2 ≤ k ∧ k < W0.heap.size) [] W0)
    (hassign : ∀ (m l' : Nat) (x : α) (W : World) (K : Act → World → Prop), K { tmps := (((a.tmps.setIfInBounds p1 (e1 x)).setIfInBounds p2 (e2 x)).setIfInBounds s1 (e1 x)).setIfInBounds s2 (e2 x), defers := [] } W →
      assign.wpIn (Fence.wide.inRound l') m Tryz.prog (Exit.then K (fun _ _ _ => False)) { tmps := (a.tmps.setIfInBounds p1 (e1 x)).setIfInBounds p2 (e2 x), defers := [] } W)
    (hbody : ∀ (m l' : Nat) (R : Nat → Prop) (pre : List α) (x : α) (W : World), I R pre W → pre ++ [x] <+: l → body.wpIn (Fence.wide.inRound l') m Tryz.prog (ownPostX w.heap.size (Kq (fun k => X k ∨ R k)) (I R) (fun _ _ _ => False) (pre ++ [x]) W) { tmps := (((a.tmps.setIfInBounds p1 (e1 x)).setIfInBounds p2 (e2 x)).setIfInBounds s1 (e1 x)).setIfInBounds s2 (e2 x), defers := [] } W)
    (hdone : ∀ (R : Nat → Prop) (W : World), I R l W → W.heap[w.heap.size]? = some (.deferred (some [])) → Q .normal { a with defers := { target := .collected w.heap.size, args := #[] } :: a.defers } W) :
    (Code.rangeFunc g #[p1, p2] assign body).wpIn Fence.wide n Tryz.prog Q a w :=
  range_sqR (fun x => (((a.tmps.setIfInBounds p1 (e1 x)).setIfInBounds p2 (e2 x)).setIfInBounds s1 (e1 x)).setIfInBounds s2 (e2 x)) hg hS I (fun _ _ _ _ => False) hI (fun _ _ _ _ _ h _ => h) hstart hassign hbody hdone (fun _ _ _ _ h _ => h.elim)
/-- a counter in block b; all else below the range's beginning is as it was -/
structure Ct (w7 : World) (b : Nat) (R : Nat → Prop) (n : Nat) (W : World) : Prop where
  bx : Bx W b (.int .i64 (n : Int)) 3
  rr : ∀ k, R k → w7.heap.size ≤ k
  ch : Ch (fun k => k = b ∨ w7.heap.size ≤ k) w7 W
theorem Ct.sr {w7 W W' : World} {b n : Nat} {R R' : Nat → Prop} (h : Ct w7 b R n W) (hb : b < w7.heap.size) (hs : Sr w7.heap.size R W W') (hr : ∀ k, R' k → R k ∨ (W.heap.size ≤ k ∧ k < W'.heap.size)) : Ct w7 b R' n W' := by
  have hz := h.ch.size
  refine ⟨hs.bx h.bx (.inl hb), fun k hk => ?_, h.ch.joinG hs (fun k _ hk => .inr hk.1)⟩
  rcases hr k hk with e | e
  · exact h.rr k e
  · omega
theorem Ct.step {w7 W : World} {b n : Nat} {R X : Nat → Prop} (h : Ct w7 b R n W) (hb : b < w7.heap.size) (hX : ∀ k, X k → k ≠ b) (y : Value) (hy : y = .int .i64 ((n + 1 : Nat) : Int)) : KeepsFrom w7.heap.size W (W.setCell ⟨b, 0, none⟩ y) ∧ Kq (fun k => X k ∨ R k) W (W.setCell ⟨b, 0, none⟩ y) ∧ Ct w7 b R (n + 1) (W.setCell ⟨b, 0, none⟩ y) := by
  subst hy
  have c : Ch (fun k => k = b) W (W.setCell ⟨b, 0, none⟩ (.int .i64 ((n + 1 : Nat) : Int))) := (Ch.refl _ W).setCell _ _ (fun _ => rfl)
  refine ⟨KeepsFrom.of_ch c (fun k e => by subst e; exact ⟨_, h.bx, rfl⟩), Kq.of_ch c (fun k hk e => ?_), one0 h.bx _, h.rr, h.ch.joinG c (fun k _ e => .inl e)⟩
  rcases hk with hk | hk
  · exact hX k hk e
  · have := h.rr k hk; omega
theorem get_pre {α : Type} {l pre : List α} {x : α} (h : pre ++ [x] <+: l) : l[pre.length]? = some x ∧ pre.length + 1 ≤ l.length := by
  refine ⟨?_, by have := h.length_le; simpa using this⟩
  obtain ⟨t, ht⟩ := h
  rw [← ht]; simp
end
end Go.Proofs.YteifkkceldlfnaaGreatDoor

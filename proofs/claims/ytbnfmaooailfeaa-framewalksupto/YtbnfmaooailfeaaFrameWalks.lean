/-
  Proved: for every text and every most of bounded bulk FrameWalks answers true, and changes nothing that was there before the call: whatever bytes there are, the frames that stand in them are told one by one, again when they are asked for again, and as far as they are asked for, as the document says. Condition: what is read of the arguments is of at most 1048576 values and letters.
-/
import Derived.Test.YtbnfmaooailfeaaF5Shown
import Derived.Test.YtbnfmaooailfeaaF5Walk2
import Derived.Test.YtbnfmaooailfeaaF5RefW
import Derived.Test.YtbnfmaooailfeaaXSeq2
import Derived.Test.YtbnfmaooailfeaaF5Args
import Derived.JoinedCond
namespace Go.Proofs.Ytbnfmaooailfeaa.frameWalks
open Go.RowKit Go.Shelf Go.Sort
open Go.Lib hiding intOf

attribute [local go_sem] Oper.semAt_some

/-- what the call has laid: how many, the answer, the document's rows -/
structure Fw (w : World) (most : Int) (n6 : Nat) (v : Value) (l : List Fr) (W : World) : Prop where
  m : Bx W w.heap.size (.int .i64 most) 3
  r : Bx W (w.heap.size + 1) (.bool false) 4
  o : Bx W n6 v 36
  row : W.ownsRow w.heap.size 43 2 v l.length (rcs l)
  low : ∀ k, v.ownBlock = some k → k < n6
  b : Below w.heap.size w W
  n : w.heap.size + 2 ≤ n6
theorem Fw.ch {w W W' : World} {most : Int} {n6 : Nat} {v : Value} {l : List Fr} {X : Nat → Prop} (h : Fw w most n6 v l W) (hc : Ch X W W') (hX : ∀ k, X k → n6 < k) : Fw w most n6 v l W' := by
  have hn := h.n
  exact ⟨h.m.ch hc (fun h => by have := hX _ h; omega), h.r.ch hc (fun h => by have := hX _ h; omega), h.o.ch hc (fun h => by have := hX _ h; omega), Ch.row hc h.row (fun k hk hx => by have := h.low k hk; have := hX _ hx; omega), h.low, h.b.trans (hc.below h.b.size (fun k hk hx => by have := hX _ hx; omega)), h.n⟩
theorem Fw.below {w W W' : World} {most : Int} {n6 : Nat} {v : Value} {l : List Fr} (h : Fw w most n6 v l W) (hb : Below W.heap.size W W') : Fw w most n6 v l W' := h.ch (X := fun _ => False) (Ch.of_below hb) (fun _ h => h.elim)
theorem Fw.sb {w W W' : World} {most : Int} {n6 n s : Nat} {v : Value} {l : List Fr} (h : Fw w most n6 v l W) (hs : Sb n s W W') (hn : n6 < n) : Fw w most n6 v l W' := h.ch hs (fun k hk => by have := hk.1; omega)
theorem bx_step {W : World} {b : Nat} {x : Value} {t : TypeId} (h : Bx W b x t) (y : Value) (B : Nat) (X : Nat → Prop) (hX : ∀ k, X k → k ≠ b) : KeepsFrom B W (W.setCell ⟨b, 0, none⟩ y) ∧ Kq X W (W.setCell ⟨b, 0, none⟩ y) ∧ Bx (W.setCell ⟨b, 0, none⟩ y) b y t := by
  have hc : Ch (fun k => k = b) W (W.setCell ⟨b, 0, none⟩ y) := (Ch.refl _ W).setCell _ _ (fun _ => rfl)
  exact ⟨KeepsFrom.of_ch hc (fun k e => by subst e; exact ⟨_, h, rfl⟩), Kq.of_ch hc (fun k hk e => hX k hk e), one0 h _⟩
/-- in the first round: as many as were told so far -/
def I1 (w : World) (most : Int) (n6 n8 n9 : Nat) (v : Value) (l : List Fr) (s0 : Nat) (s : Nat) (pre : List Fr) (W : World) : Prop :=
  Fw w most n6 v l W ∧ Bx W n8 (.int .i64 0) 3 ∧ Bx W n9 (.int .i64 (pre.length : Int)) 3 ∧ s0 ≤ s ∧ (1 ≤ most → (pre.length : Int) < most)
/-- left -/
def B1 (w : World) (most : Int) (n6 n8 n9 : Nat) (v : Value) (l : List Fr) (W : World) : Prop :=
  Fw w most n6 v l W ∧ Bx W n8 (.int .i64 0) 3 ∧ ∃ i : Nat, Bx W n9 (.int .i64 (i : Int)) 3 ∧ i ≤ l.length ∧ ((most < 1 ∨ (l.length : Int) < most) → i = l.length)

theorem I1.sb {w W W' : World} {most : Int} {n6 n8 n9 s0 s n : Nat} {v : Value} {l pre : List Fr} (h : I1 w most n6 n8 n9 v l s0 s pre W) (hs : Sb n s W W') (h8 : n8 < n) (h9 : n9 < n) (h6 : n6 < n) : I1 w most n6 n8 n9 v l s0 s pre W' :=
  ⟨h.1.sb hs h6, hs.bx h.2.1 (.inl h8), hs.bx h.2.2.1 (.inl h9), h.2.2.2.1, h.2.2.2.2⟩
theorem B1.sb {w W W' : World} {most : Int} {n6 n8 n9 s n : Nat} {v : Value} {l : List Fr} (h : B1 w most n6 n8 n9 v l W) (hs : Sb n s W W') (h8 : n8 < n) (h9 : n9 < n) (h6 : n6 < n) : B1 w most n6 n8 n9 v l W' := by
  obtain ⟨h1, h2, i, h3, h4⟩ := h
  exact ⟨h1.sb hs h6, hs.bx h2 (.inl h8), i, hs.bx h3 (.inl h9), h4⟩
/-- the row's cells at a place -/
theorem row_at {w W : World} {most : Int} {n6 : Nat} {va : Option Addr} {vc : Nat} {l pre : List Fr} {x : Fr} (h : Fw w most n6 (.slice va l.length vc) l W) (hx : l[pre.length]? = some x) : ∃ g, va = some ⟨g, 0, none⟩ ∧ W.cell? ⟨g, pre.length * 2, none⟩ = some (.int .u8 (x.1.toNat : Int)) ∧ W.cell? ⟨g, pre.length * 2 + 1, none⟩ = some (.string (S x.2.1)) := by
  obtain ⟨hlt, hxe⟩ := List.getElem?_eq_some_iff.1 hx
  obtain ⟨g, hg⟩ : ∃ g, va = some ⟨g, 0, none⟩ := by
    rcases h.row.2 with ⟨e, h0⟩ | ⟨g, cap', cur, e, -⟩
    · omega
    · cases e; exact ⟨g, rfl⟩
  subst hg
  obtain ⟨h1, h2⟩ := rcs_get l pre.length hlt
  rw [hxe] at h1 h2
  exact ⟨g, rfl, row_cell h.row h1, row_cell h.row h2⟩
theorem get_of_pre {l pre : List Fr} {x : Fr} (h : pre ++ [x] <+: l) : l[pre.length]? = some x ∧ pre.length + 1 ≤ l.length := by
  refine ⟨?_, by have := h.length_le; simpa using this⟩
  obtain ⟨t, ht⟩ := h
  rw [← ht]; simp

/-- in the second round -/
def I2 (w : World) (most : Int) (n6 n8 n9 d7 : Nat) (v : Value) (l : List Fr) (s0 : Nat) (s : Nat) (pre : List Fr) (W : World) : Prop :=
  Fw w most n6 v l W ∧ Bx W n8 (.int .i64 1) 3 ∧ Bx W n9 (.int .i64 (pre.length : Int)) 3 ∧ s0 ≤ s ∧ W.heap[d7]? = some (.deferred (some []))
theorem I2.sb {w W W' : World} {most : Int} {n6 n8 n9 d7 s0 s n : Nat} {v : Value} {l pre : List Fr} (h : I2 w most n6 n8 n9 d7 v l s0 s pre W) (hs : Sb n s W W') (h8 : n8 < n) (h9 : n9 < n) (h6 : n6 < n) (h7 : d7 < n) : I2 w most n6 n8 n9 d7 v l s0 s pre W' :=
  ⟨h.1.sb hs h6, hs.bx h.2.1 (.inl h8), hs.bx h.2.2.1 (.inl h9), h.2.2.2.1, Ch.obj hs h.2.2.2.2 (fun h => by omega)⟩

set_option maxHeartbeats 8000000 in
set_option maxRecDepth 100000 in
theorem walk (l : List UInt8) (most : Int) (hm1 : -9223372036854775808 ≤ most) (hm2 : most ≤ 9223372036854775807) (hl : l.length ≤ 1048576) (w : World) :
    Calls Try.prog 5 #[.string (S l), .int .i64 most] w fun r w' => r = .returned (.bool true) ∧ Below w.heap.size w w' := by
  have hwkf := fun w => Walk_any l (by omega) w
  have hgdf := fun w => Good_any l (by omega) w
  have hflf := fra_len _ l (Nat.le_refl _)
  have hrw := fun w => rWalk_any l hl w
  refine (callsIn_wide (n := 9)).1 ?_
  refine callsIn_of_wp_marks Try.func5 rfl trivial ?_ rfl
  simp only [Try.ntmps5, List.size_toArray, List.length_cons, List.length_nil, Nat.reduceAdd, Nat.reduceSub, Array.replicate_succ, Array.replicate_zero, List.push_toArray, List.append_toArray, List.nil_append, List.cons_append]
  obtain ⟨W2, hW2⟩ : ∃ W2, W2 = (w.alloc (.cells #[.int .i64 most] 3)).alloc (.cells #[.bool false] 4) := ⟨_, rfl⟩
  have hs2 : W2.heap.size = w.heap.size + 1 + 1 := by rw [hW2]; simp
  have hB2 : Below w.heap.size w W2 := by rw [hW2]; exact ((Below.refl _ w).alloc (Nat.le_refl _) _).alloc (by simp) _
  have bm2 : Bx W2 w.heap.size (.int .i64 most) 3 := by rw [hW2]; exact (Bx.new w _ _).alloc _
  have br2 : Bx W2 (w.heap.size + 1) (.bool false) 4 := by
    rw [hW2]
    have := Bx.new (w.alloc (.cells #[.int .i64 most] 3)) (.bool false) 4
    rwa [World.size_alloc] at this
  gi_wp2_with (first
    | (refine ⟨trivial, ?_⟩; gi_at_call 9; rw [← hW2]; refine (callsIn_wide.2 (shown_any _)).mono ?_; rintro e w3 ⟨rfl, hB3⟩)
    | (refine ⟨trivial, ?_⟩; gi_at_call 16; refine (callsIn_wide.2 (hrw _)).mono ?_; rintro e w4 ⟨v, rfl, hrow, hB4⟩; clear hrw; obtain ⟨va, vc, rfl, -⟩ := row_slice hrow))
  have hB24 : Below W2.heap.size W2 w4 := hB3.trans (hB4.mono hB3.size)
  have hs4 := hB24.size
  obtain ⟨n6, hn6⟩ : ∃ n6, w4.heap.size = n6 := ⟨_, rfl⟩
  obtain ⟨W6, hW6⟩ : ∃ W6, W6 = (w4.alloc (.cells #[.slice va (fra l).length vc] 36)).alloc (.cells #[.int .i64 0] 3) := ⟨_, rfl⟩
  have hs6 : W6.heap.size = n6 + 2 := by rw [hW6, ← hn6]; simp
  have hB6 : Below w4.heap.size w4 W6 := by rw [hW6]; exact ((Below.refl _ w4).alloc (Nat.le_refl _) _).alloc (by simp) _
  have b8 : Bx W6 (n6 + 1) (.int .i64 0) 3 := by
    rw [hW6, ← hn6]
    have := Bx.new (w4.alloc (.cells #[.slice va (fra l).length vc] 36)) (.int .i64 0) 3
    rwa [World.size_alloc] at this
  have F6 : Fw w most n6 (.slice va (fra l).length vc) (fra l) W6 := by
    have hb := hB24.trans (hB6.mono hs4)
    have hlo := Nat.le_trans (Nat.le_trans hB2.size hs4) (Nat.le_refl _)
    refine ⟨bm2.below hb (by omega), br2.below hb (by omega), ?_, row_low (row_bel hrow hB6) (Nat.le_trans hB2.size hB3.size), ?_, hB2.trans (hb.mono hB2.size), by omega⟩
    · rw [hW6, ← hn6]; exact (Bx.new w4 _ _).alloc _
    · intro k hk
      obtain ⟨_, cur, hx⟩ := row_obj hrow hk
      have := (Array.getElem?_eq_some_iff.1 hx).1
      omega
  rw [hn6, ← hW6]
  clear hrow hB6 hB24 bm2 br2 hW6 hW2
  generalize fra l = L at *
  refine wpIn_loop_rounds 3 ?_
  rw [roundsIn_succ]
  obtain ⟨Wi, hWi⟩ : ∃ Wi, Wi = W6.alloc (.cells #[.int .i64 0] 3) := ⟨_, rfl⟩
  have hBi : Below W6.heap.size W6 Wi := by rw [hWi]; exact (Below.refl _ W6).alloc (Nat.le_refl _) _
  have hsi : Wi.heap.size = n6 + 2 + 1 := by rw [hWi, ← hs6]; simp
  have bi : Bx Wi (n6 + 2) (.int .i64 0) 3 := by rw [hWi, ← hs6]; exact Bx.new W6 _ _
  have Fi := F6.below hBi
  have b8i := b8.below hBi b8.lt
  have c8 := b8.cell
  clear F6 b8 hBi
  gi_wp2_with (first
    | (refine ⟨trivial, ?_⟩; gi_at_call 17; rw [← hWi]; refine (callsIn_wide.2 (hwkf _)).mono ?_; rintro e w7 ⟨rfl, hS7, hB7, hz7⟩; rw [hsi] at hS7 hz7; have hz7' : n6 + 4 ≤ w7.heap.size := (by omega); clear hz7))
  have F7 := Fi.below hB7
  have b87 := b8i.below hB7 b8i.lt
  have bi7 := bi.below hB7 bi.lt
  clear Fi b8i bi c8
  refine range_sq2B (r1 := 10) (r2 := 11) (e1 := fun x : Fr => .int .u8 (x.1.toNat : Int)) (e2 := fun x : Fr => .string (S x.2.1)) rfl hS7
    (I1 w most n6 (n6 + 1) (n6 + 2) (.slice va L.length vc) L (w7.heap.size + 2))
    (fun _ _ W => B1 w most n6 (n6 + 1) (n6 + 2) (.slice va L.length vc) L W)
    (fun W => B1 w most n6 (n6 + 1) (n6 + 2) (.slice va L.length vc) L W)
    (fun s pre A B h hs => h.sb hs (by omega) (by omega) (by omega)) (fun s pre A B h hs => h.sb hs (by omega) (by omega) (by omega)) ?start ?assign ?body ?done (fun _ _ _ h => h) ?fin
  case start =>
    intro W0 hB h0
    exact ⟨F7.below hB, b87.below hB b87.lt, bi7.below hB bi7.lt, h0, fun h => by simp; omega⟩
  case assign =>
    intro mm l' x W K hK
    gi_wp2
    exact hK
  case done =>
    rintro s W ⟨h1, h2, h3, h4, h5⟩
    exact ⟨h1, h2, L.length, h3, Nat.le_refl _, fun _ => rfl⟩
  case body =>
    rintro mm l' s pre x Wp W hI hsb hnx
    have hwl := hI.2.2.1.lt
    obtain ⟨h1, h2, h3, h4, h5⟩ := hI.sb hsb (by omega) (by omega) (by omega)
    obtain ⟨hxg, hpl⟩ := get_of_pre hnx
    obtain ⟨g, rfl, m1, m2⟩ := row_at h1 hxg
    have c6 := h1.o.cell
    have cm := h1.m.cell
    have c8 := h2.cell
    have c9 := h3.cell
    have f9 := h3.fro
    have hp0 : (pre.length : Int) < (L.length : Int) := by omega
    have hp1 : ¬ (L.length : Int) ≤ (pre.length : Int) := by omega
    have fin : Hid (∀ y : Value, y = .int .i64 ((pre ++ [x]).length : Int) → KeepsFrom w7.heap.size W (W.setCell ⟨n6 + 2, 0, none⟩ y) ∧ Kq (fun k => k = n6 + 2 + 1 ∨ (w7.heap.size + 2 ≤ k ∧ k < s) ∨ (Wp.heap.size ≤ k ∧ k < W.heap.size)) W (W.setCell ⟨n6 + 2, 0, none⟩ y) ∧ Fw w most n6 (.slice (some ⟨g, 0, none⟩) L.length vc) L (W.setCell ⟨n6 + 2, 0, none⟩ y) ∧ Bx (W.setCell ⟨n6 + 2, 0, none⟩ y) (n6 + 1) (.int .i64 0) 3 ∧ Bx (W.setCell ⟨n6 + 2, 0, none⟩ y) (n6 + 2) (.int .i64 ((pre ++ [x]).length : Int)) 3) := by
      rintro y rfl
      have hc : Ch (fun k => k = n6 + 2) W (W.setCell ⟨n6 + 2, 0, none⟩ (.int .i64 ((pre ++ [x]).length : Int))) := (Ch.refl _ W).setCell _ _ (fun _ => rfl)
      obtain ⟨f1, f2, f3⟩ := bx_step h3 (.int .i64 ((pre ++ [x]).length : Int)) w7.heap.size (fun k => k = n6 + 2 + 1 ∨ (w7.heap.size + 2 ≤ k ∧ k < s) ∨ (Wp.heap.size ≤ k ∧ k < W.heap.size)) (fun k hk => by omega)
      exact ⟨f1, f2, h1.ch hc (fun k hk => by omega), h2.ch hc (by omega), f3⟩
    obtain ⟨q1, q2, q3, q4, q5⟩ := fin.out (.int .i64 ((pre.length : Int) + 1)) (by simp)
    have d8 := q4.cell
    have dm := q3.m.cell
    have HQ : Hid _ := And.intro q1 (And.intro q2 (And.intro q3 (And.intro q4 q5)))
    simp only [List.setIfInBounds_toArray, List.set_cons_succ, List.set_cons_zero]
    clear h1 h2 h3 hxg hnx q1 q2 q3 q4 q5 fin hI hsb
    generalize x.1 = xk at *
    generalize x.2.1 = xl at *
    by_cases hbk : (pre.length : Int) + 1 = most
    · have hbe : ((pre.length : Int) + 1 == most) = true := by simpa using hbk
      have HBK : Hid ((pre.length : Int) + 1 = most) := hbk
      clear hbk
      gi_wp2
      obtain ⟨q1, q2, q3, q4, q5⟩ := HQ.out
      exact ⟨q1, q2, rfl, q3, q4, pre.length + 1, by simpa using q5, by omega, fun h => by have := HBK.out; omega⟩
    · have hbe : ((pre.length : Int) + 1 == most) = false := by simpa using hbk
      gi_wp2
      obtain ⟨q1, q2, q3, q4, q5⟩ := HQ.out
      exact ⟨q1, q2, q3, q4, q5, h4, fun h => by have := h5 h; simp; omega⟩
  case fin =>
    rintro W ⟨h1, h2, i, h3, h4, h5⟩ hD
    have c6 := h1.o.cell
    have cm := h1.m.cell
    have c8 := h2.cell
    have c9 := h3.cell
    have H1 : Hid (Fw w most n6 (.slice va L.length vc) L W ∧ W.heap[w7.heap.size]? = some (.deferred (some []))) := ⟨h1, hD⟩
    have hwl := h3.lt
    have hcase : (most < 1 ∧ i = L.length) ∨ (¬ most < 1 ∧ (L.length : Int) < most ∧ i = L.length) ∨ (¬ most < 1 ∧ ¬ (L.length : Int) < most) := by
      by_cases a1 : most < 1
      · exact .inl ⟨a1, h5 (.inl a1)⟩
      · by_cases a2 : (L.length : Int) < most
        · exact .inr (.inl ⟨a1, a2, h5 (.inr a2)⟩)
        · exact .inr (.inr ⟨a1, a2⟩)
    obtain ⟨nt, hnt⟩ : ∃ nt, W.heap.size = nt := ⟨_, rfl⟩
    obtain ⟨Wt, hWt⟩ : ∃ Wt, Wt = W.alloc (.cells #[.int .i64 1] 3) := ⟨_, rfl⟩
    obtain ⟨Wj, hWj⟩ : ∃ Wj, Wj = Wt.alloc (.cells #[.int .i64 0] 3) := ⟨_, rfl⟩
    have hst : Wt.heap.size = nt + 1 := by rw [hWt, ← hnt]; simp
    have hsj : Wj.heap.size = nt + 1 + 1 := by rw [hWj, ← hst]; simp
    have hBt : Below W.heap.size W Wt := by rw [hWt]; exact (Below.refl _ W).alloc (Nat.le_refl _) _
    have hBj : Below Wt.heap.size Wt Wj := by rw [hWj]; exact (Below.refl _ Wt).alloc (Nat.le_refl _) _
    have bt : Bx Wt nt (.int .i64 1) 3 := by rw [hWt, ← hnt]; exact Bx.new W _ _
    have ct := bt.cell
    have btj := bt.below hBj bt.lt
    have bj : Bx Wj (nt + 1) (.int .i64 0) 3 := by rw [hWj, ← hst]; exact Bx.new Wt _ _
    have hDl := (Array.getElem?_eq_some_iff.1 hD).1
    have Fj := (h1.below hBt).below hBj
    have hDj : Wj.heap[w7.heap.size]? = some (.deferred (some [])) := (hBj.block _ (by omega)).trans ((hBt.block _ hDl).trans hD)
    have HWt : Hid (Wt = W.alloc (.cells #[.int .i64 1] 3)) := hWt
    have HWj : Hid (Wj = Wt.alloc (.cells #[.int .i64 0] 3)) := hWj
    clear h1 h2 h3 hD h5 F7 b87 bi7 hWt hWj hBt hBj bt
    rcases hcase with ⟨a1, rfl⟩ | ⟨a1, a2, rfl⟩ | ⟨a1, a2⟩
    all_goals
      gi_wp2
      rw [← HWt.out, roundsIn_succ]
      gi_wp2_with (first
        | (refine ⟨trivial, ?_⟩; gi_at_call 17; rw [← HWj.out]; refine (callsIn_wide.2 (hwkf _)).mono ?_; rintro e w8 ⟨rfl, hS8, hB8, hz8⟩; rw [hsj] at hS8 hz8; have hz8' : nt + 3 ≤ w8.heap.size := (by omega); clear hz8))
      have F8 := Fj.below hB8
      have bt8 := btj.below hB8 btj.lt
      have bj8 := bj.below hB8 bj.lt
      have hd78 : w7.heap.size < nt := by omega
      have hD8 := (hB8.block _ (by omega)).trans hDj
      clear Fj btj bj ct hDj
      refine range_sq2B (r1 := 10) (r2 := 11) (e1 := fun x : Fr => .int .u8 (x.1.toNat : Int)) (e2 := fun x : Fr => .string (S x.2.1)) rfl hS8
        (I2 w most n6 nt (nt + 1) w7.heap.size (.slice va L.length vc) L (w8.heap.size + 2))
        (fun _ _ _ => False)
        (fun W => ∃ s, I2 w most n6 nt (nt + 1) w7.heap.size (.slice va L.length vc) L (w8.heap.size + 2) s L W)
        (fun s pre A B h hs => h.sb hs (by omega) (by omega) (by omega) (by omega)) (fun s pre A B h hs => h) ?start2 ?assign2 ?body2 (fun s W h => ⟨s, h⟩) (fun _ _ _ h => h.elim) ?fin2
      case start2 =>
        intro W0 hB h0
        exact ⟨F8.below hB, bt8.below hB bt8.lt, bj8.below hB bj8.lt, h0, (hB.block _ (by omega)).trans hD8⟩
      case assign2 =>
        intro mm l' x W K hK
        gi_wp2
        exact hK
      case body2 =>
        rintro mm l' s pre x Wp W hI hsb hnx
        have hwl := hI.2.2.1.lt
        obtain ⟨h1, h2, h3, h4, h5⟩ := hI.sb hsb (by omega) (by omega) (by omega) (by omega)
        obtain ⟨hxg, hpl⟩ := get_of_pre hnx
        obtain ⟨g, rfl, m1, m2⟩ := row_at h1 hxg
        have c6 := h1.o.cell
        have c8 := h2.cell
        have c9 := h3.cell
        have f9 := h3.fro
        have hp0 : (pre.length : Int) < (L.length : Int) := by omega
        have hp1 : ¬ (L.length : Int) ≤ (pre.length : Int) := by omega
        have fin : Hid (∀ y : Value, y = .int .i64 ((pre ++ [x]).length : Int) → KeepsFrom w8.heap.size W (W.setCell ⟨nt + 1, 0, none⟩ y) ∧ Kq (fun k => k = nt + 1 + 1 ∨ (w8.heap.size + 2 ≤ k ∧ k < s) ∨ (Wp.heap.size ≤ k ∧ k < W.heap.size)) W (W.setCell ⟨nt + 1, 0, none⟩ y) ∧ Fw w most n6 (.slice (some ⟨g, 0, none⟩) L.length vc) L (W.setCell ⟨nt + 1, 0, none⟩ y) ∧ Bx (W.setCell ⟨nt + 1, 0, none⟩ y) nt (.int .i64 1) 3 ∧ Bx (W.setCell ⟨nt + 1, 0, none⟩ y) (nt + 1) (.int .i64 ((pre ++ [x]).length : Int)) 3 ∧ (W.setCell ⟨nt + 1, 0, none⟩ y).heap[w7.heap.size]? = some (.deferred (some []))) := by
          rintro y rfl
          have hc : Ch (fun k => k = nt + 1) W (W.setCell ⟨nt + 1, 0, none⟩ (.int .i64 ((pre ++ [x]).length : Int))) := (Ch.refl _ W).setCell _ _ (fun _ => rfl)
          obtain ⟨f1, f2, f3⟩ := bx_step h3 (.int .i64 ((pre ++ [x]).length : Int)) w8.heap.size (fun k => k = nt + 1 + 1 ∨ (w8.heap.size + 2 ≤ k ∧ k < s) ∨ (Wp.heap.size ≤ k ∧ k < W.heap.size)) (fun k hk => by omega)
          exact ⟨f1, f2, h1.ch hc (fun k hk => by omega), h2.ch hc (by omega), f3, hc.obj h5 (by omega)⟩
        obtain ⟨q1, q2, q3, q4, q5, q6⟩ := fin.out (.int .i64 ((pre.length : Int) + 1)) (by simp)
        have d8 := q4.cell
        have HQ : Hid _ := And.intro q1 (And.intro q2 (And.intro q3 (And.intro q4 (And.intro q5 q6))))
        simp only [List.setIfInBounds_toArray, List.set_cons_succ, List.set_cons_zero]
        clear h1 h2 h3 h5 hxg hnx q1 q2 q3 q4 q5 q6 fin hI hsb
        generalize x.1 = xk at *
        generalize x.2.1 = xl at *
        gi_wp2
        obtain ⟨q1, q2, q3, q4, q5, q6⟩ := HQ.out
        exact ⟨q1, q2, q3, q4, q5, h4, q6⟩
      case fin2 =>
        rintro W ⟨s, h1, h2, h3, h4, h5⟩ hD
        have c6 := h1.o.cell
        have c8 := h2.cell
        have c9 := h3.cell
        have hDl := (Array.getElem?_eq_some_iff.1 hD).1
        obtain ⟨Wz, hWz⟩ : ∃ Wz, Wz = W.alloc (.cells #[.int .i64 2] 3) := ⟨_, rfl⟩
        have hBz : Below W.heap.size W Wz := by rw [hWz]; exact (Below.refl _ W).alloc (Nat.le_refl _) _
        have bz : Bx Wz W.heap.size (.int .i64 2) 3 := by rw [hWz]; exact Bx.new W _ _
        have cz := bz.cell
        have Hz : Hid (Fw w most n6 (.slice va L.length vc) L Wz ∧ Wz.heap[w7.heap.size]? = some (.deferred (some [])) ∧ Wz.heap[w8.heap.size]? = some (.deferred (some []))) := ⟨h1.below hBz, (hBz.block _ (by omega)).trans h5, (hBz.block _ hDl).trans hD⟩
        have HWz : Hid (Wz = W.alloc (.cells #[.int .i64 2] 3)) := hWz
        clear h1 h2 h3 h5 hD hWz hBz bz F8 bt8 bj8 hD8 HWt HWj
        gi_wp2
        rw [← HWz.out, roundsIn_succ]
        gi_wp2_with (first
          | (refine ⟨trivial, ?_⟩; gi_at_call 18; refine (callsIn_wide.2 (hgdf _)).mono ?_; rintro e w9 ⟨rfl, hB9⟩; have F9 := Hz.out.1.below hB9; have cr9 := F9.r.cell; have fr9 := F9.r.fro; have HF9 : Hid (Fw w most n6 (.slice va L.length vc) L w9) := F9; clear F9))
        have hc9 : Ch (fun k => k = w.heap.size + 1) w9 (w9.setCell ⟨w.heap.size + 1, 0, none⟩ (.bool true)) := (Ch.refl _ w9).setCell _ _ (fun _ => rfl)
        have hn6 := HF9.out.n
        have up : ∀ k, Wz.heap[k]? = some (.deferred (some [])) → w.heap.size + 2 ≤ k → (w9.setCell ⟨w.heap.size + 1, 0, none⟩ (.bool true)).heap[k]? = some (.deferred (some [])) := fun k hk hkw => by
          have hkl := (Array.getElem?_eq_some_iff.1 hk).1
          exact hc9.obj ((hB9.block _ hkl).trans hk) (by omega)
        have hd1 := up _ Hz.out.2.2 (by omega)
        have hd2 := up _ Hz.out.2.1 (by omega)
        have hd2' := (World.putObj_heap_other (o := .deferred none) (show w7.heap.size ≠ w8.heap.size by omega)).trans hd2
        have hr9 := one0 HF9.out.r (.bool true)
        have hr9' : Bx (((w9.setCell ⟨w.heap.size + 1, 0, none⟩ (.bool true)).putObj w8.heap.size (.deferred none)).putObj w7.heap.size (.deferred none)) (w.heap.size + 1) (.bool true) 4 := (World.putObj_heap_other (by omega)).trans ((World.putObj_heap_other (by omega)).trans hr9)
        have c10 := hr9'.cell
        refine ⟨by simp, .inl ⟨_, _, rfl, takes hd1, ?_⟩⟩
        refine ⟨by simp, .inl ⟨_, _, rfl, takes hd2', ?_⟩⟩
        refine ⟨.bool true, ?res, rfl, below_take (below_take (HF9.out.b.setCell (by simp) _) (Nat.le_refl _) (by omega) _) (Nat.le_refl _) (by omega) _⟩
        case res => simp [results, Try.results5, go_sem, c10]

open Go.ChangeShapes Go.WideShapes Go.ChangeAt
open Go.ChangeMaps (open_string shut_string)
theorem own : ownKnob Try.prog.godebug = none := by kernel_rfl

set_option maxRecDepth 100000 in
theorem lifted (os : Os) (started : os.Started) (H : Type) (enc : TypeId × Value → H) (F : Stop.Interp) :
    ReturnsInHanded {} Try.checked os 5 .any ((Rows.OpenSpec.upto Rows.frameWalksSpec).pre6 enc Try.prog Try.f5 Rows.frameWalksUptoRow.domain false) (((Rows.OpenSpec.upto Rows.frameWalksSpec).at F).post enc Try.prog Try.f5 false true false false) := by
  refine returnsInHanded_of_cond (C := Try.checked) (s := Rows.OpenSpec.upto Rows.frameWalksSpec) (k := Rows.uptoSmall) rfl own started (by kernel_rfl) Try.func5
    (OpenSpec.witness (enc := enc) (C := Try.checked) (s := Rows.OpenSpec.upto Rows.frameWalksSpec) (k := Rows.uptoSmall) rfl false ⟨#[], #[.string .empty, .int .i64 0], []⟩ 8 (by kernel_rfl) (by kernel_rfl) (by kernel_rfl)
      (x := ([.lit (.string []), .lit (.int .i64 0)], [], [])) (by kernel_rfl) rfl (by kernel_rfl)) ?_
  intro W base args ds gs before hval0 hW _ hk _
  have hval : ∀ (j : Nat) t v, Try.f5.params[j]? = some t → args[j]? = some v → Value.okWide Try.prog W .any base t v := hval0
  have hW' := hW
  obtain ⟨p, q, hA0, hV, rfl, hfz, hnd⟩ := hW
  have hA : DataW.TrodAll enc Try.prog W 0 (fun _ => true) true Try.f5.params.toList args.toList ds p := hA0
  rw [Try.params5] at hA hval
  obtain ⟨v0, vs0, d0, ds0, p0, q0, hargs, rfl, rfl, h0, r0⟩ := trodAll_cons hA
  obtain ⟨v1, vs1, d1, ds1, p1, q1, rfl, rfl, rfl, h1, r1⟩ := trodAll_cons r0
  obtain ⟨rfl, rfl, rfl⟩ := trodAll_nil r1
  obtain rfl : args = #[v0, v1] := by cases args; simp_all
  obtain ⟨rfl, rfl⟩ := trodVars_none hV
  obtain ⟨a0, rfl, rfl, rfl, w0⟩ := open_string Try.underlying9 (hval 0 9 v0 rfl rfl) h0
  obtain ⟨a1, rfl, rfl, rfl, w1⟩ := open_int Try.underlying3 (hval 1 3 v1 rfl rfl) h1
  have hsmall : Rows.uptoBulkAll ([DataW.lit (.string a0.data.toList), .lit (.int .i64 a1)] ++ []) ≤ 1048576 := of_decide_eq_true hk
  simp only [List.append_nil, Rows.uptoBulkAll, Rows.uptoBulk] at hsmall
  have hb1 := bounds_i64 w1
  clear hA0 hval0
  have hwk := walk a0.data.toList a1 hb1.1 hb1.2 (by omega) W
  rw [S_of] at hwk
  refine hwk.mono fun e W' ⟨he, bel⟩ => ?_
  subst he
  exact ⟨_, rfl, _, _, _, [], _, [], hW', trodAll_mk1 (shut_bool Try.underlying4 _), (trodAll_cons_mk (shut_string Try.underlying9 w0) (trodAll_cons_mk (shut_int Try.underlying3 w1) trodAll_mk0)), rfl, bel.frame _, fun h => by cases h⟩

theorem proved : Rows.FrameWalksUptoSaid :=
  OpenClaim.holds_of_cond 5 Try.f5 rfl rfl rfl rfl rfl rfl rfl ⟨rfl, rfl, rfl, rfl, rfl⟩ rfl rfl rfl rfl rfl (by kernel_rfl) Try.func5 (by kernel_rfl)
    (of_decide_eq_true (by kernel_rfl)) (by unfold Func.isWrapper; first | (rw [if_pos (by decide +kernel)]; kernel_rfl) | (rw [if_neg (by decide +kernel)]; exact ⟨rfl, rfl⟩))
    (fun os started H enc _ F => lifted os started H enc F)
end Go.Proofs.Ytbnfmaooailfeaa.frameWalks

/-
  Proved: for every slice of acts and every two acts DiskClones answers true, and changes nothing that was there before the call: a disk's clone is the same, and neither sees what becomes of the other. No condition.
-/
import Derived.Test.YtedcabnjcbdkaaaD6Pair
import Derived.SizedLaws
namespace Go.Proofs.Ytedcabnjcbdkaaa.diskClones
open Go.ChangeShapes Go.WideShapes Go.ChangeAt Go.RowKit

/-- a pair takes no block that is not there yet -/
theorem Pr.lt {X : Nat → Prop} {w : World} {B d r : Nat} {st : Ab} (h : Pr X w B d r st) : Pr (fun x => X x ∧ x < w.heap.size) w B d r st := by
  obtain ⟨es, mo, sv, L, e, k, hr, h1, h2⟩ := h
  refine ⟨es, mo, sv, L, e, k, hr, fun x hx => ⟨h1 x hx, (L.foot_lt hx).1⟩, fun x hx => ⟨h2 x hx, ?_⟩⟩
  rcases hx with rfl | hx
  · exact k.lt
  · exact row_lt k.row hx
/-- what stands in the first loop -/
def JP (w : World) (d r : Nat) (wr : World) : Prop := (∃ st, Pb wr w.heap.size d r st) ∧ Below w.heap.size w wr
/-- two pairs that share no memory -/
def Two (W : World) (d r m c q : Nat) (st st' : Ab) (w' : World) : Prop :=
  ∃ X Y : Nat → Prop, Pr X w' W.heap.size d r st ∧ Pr Y w' m c q st' ∧ (∀ x, X x → ¬ Y x) ∧ W.heap.size ≤ m ∧ (∀ x, X x → W.heap.size ≤ x) ∧ (∀ x, Y x → W.heap.size ≤ x) ∧ Below W.heap.size W w'
variable {W w1 w2 : World} {d r m c q : Nat} {st st' : Ab}
theorem Two.below (h : Two W d r m c q st st' w1) (hb : Below w1.heap.size w1 w2) : Two W d r m c q st st' w2 := by
  obtain ⟨X, Y, P, Q, hd, hm, hX, hY, hB⟩ := h
  exact ⟨X, Y, P.below hb, Q.below hb, hd, hm, hX, hY, hB.trans (hb.mono hB.size)⟩
theorem Two.bel (h : Two W d r m c q st st' w1) : Below W.heap.size W w1 := by
  obtain ⟨X, Y, P, Q, hd, hm, hX, hY, hB⟩ := h
  exact hB
theorem Two.fst (h : Two W d r m c q st st' w1) : ∃ X, Pr X w1 W.heap.size d r st := by
  obtain ⟨X, Y, P, Q, hd, hm, hX, hY, hB⟩ := h
  exact ⟨X, P⟩
theorem Two.snd (h : Two W d r m c q st st' w1) : ∃ X, Pr X w1 m c q st' := by
  obtain ⟨X, Y, P, Q, hd, hm, hX, hY, hB⟩ := h
  exact ⟨Y, Q⟩
/-- the first does an act -/
theorem Two.one {a : Ac} (h : Two W d r m c q st st' w1) (ok : AcOk W W.heap.size a) : Calls Try.prog 14 #[.pointer (some ⟨d, 0, none⟩), .pointer (some ⟨r, 0, none⟩), .agg a.cs] w1 fun e w2 => e = .returned (.bool true) ∧ ∃ st2, Two W d r m c q st2 st' w2 := by
  obtain ⟨X, Y, P, Q, hd, hm, hX, hY, hB⟩ := h
  refine (does_any P (ok.below hB)).mono fun e w2 ⟨he, st2, P2, C⟩ => ⟨he, st2, ?_⟩
  refine ⟨fun x => X x ∨ w1.heap.size ≤ x, fun x => Y x ∧ x < w1.heap.size, P2, (Pr.lt Q).ch C (fun x hx hx2 => hd x hx2 hx.1), ?_, hm, ?_, fun x hx => hY x hx.1, hB.trans (C.below hB.size (fun k hk hx => by have := hX k hx; omega))⟩
  · rintro x (hx | hx) ⟨hy, hlt⟩
    · exact hd x hx hy
    · omega
  · rintro x (hx | hx)
    · exact hX x hx
    · exact Nat.le_trans hB.size hx
/-- the second does an act -/
theorem Two.two {a : Ac} (h : Two W d r m c q st st' w1) (ok : AcOk W W.heap.size a) : Calls Try.prog 14 #[.pointer (some ⟨c, 0, none⟩), .pointer (some ⟨q, 0, none⟩), .agg a.cs] w1 fun e w2 => e = .returned (.bool true) ∧ ∃ st2, Two W d r m c q st st2 w2 := by
  obtain ⟨X, Y, P, Q, hd, hm, hX, hY, hB⟩ := h
  have ok' : AcOk w1 m a := by
    have := ok.below hB
    exact ⟨this.ks, fun h a e => Nat.lt_of_lt_of_le (this.low h a e) hm, this.n, this.name, this.s⟩
  refine (does_any Q ok').mono fun e w2 ⟨he, st2, Q2, C⟩ => ⟨he, st2, ?_⟩
  refine ⟨fun x => X x ∧ x < w1.heap.size, fun x => Y x ∨ w1.heap.size ≤ x, (Pr.lt P).ch C (fun x hx hx2 => hd x hx.1 hx2), Q2, ?_, hm, fun x hx => hX x hx.1, ?_, hB.trans (C.below hB.size (fun k hk hx => by have := hY k hx; omega))⟩
  · rintro x ⟨hx, hlt⟩ (hy | hy)
    · exact hd x hx hy
    · omega
  · rintro x (hx | hx)
    · exact hY x hx
    · exact Nat.le_trans hB.size hx
/-- the clones are made -/
theorem Two.make {wr wa wb : World} {sv : Value} (P : Pb wr W.heap.size d r st) (hB : Below W.heap.size W wr) (S : St wa wr.heap.size wr.heap.size st) (Ba : Below wr.heap.size wr wa) (K : Dk wb wa.heap.size wa.heap.size st.1 st.2.1 st.2.2 sv) (Bb : Below wa.heap.size wa wb) :
    Two W d r wr.heap.size wr.heap.size wa.heap.size st st wb := by
  refine ⟨fun x => W.heap.size ≤ x ∧ x < wr.heap.size, fun x => wr.heap.size ≤ x, ((Pr.lt P).below Ba).below Bb, Pb.make (S.below Bb) (K.weak Ba.size) Ba.size, fun x hx hy => ?_, hB.size, fun x hx => hx.1, fun x hx => Nat.le_trans hB.size hx, (hB.trans (Ba.mono hB.size)).trans (Bb.mono (Nat.le_trans hB.size Ba.size))⟩
  have := hx.2
  omega

/-- a file of the document's disk, and its name -/
theorem name_at {w : World} {B db : Nat} {fs : List Fil} {p : Int} {off : Bool} {g n c : Nat} (h : Dk w db B fs p off (.slice (some ⟨g, 0, none⟩) n c)) {i : Nat} (hi : i < fs.length) : w.cell? ⟨g, i * 3, none⟩ = some (.string fs[i].1) := by
  obtain ⟨a, c', e, -⟩ := row_slice h.row
  cases e
  exact row_cell h.row (fcells_at fs i hi).1

set_option maxRecDepth 100000 in
set_option maxHeartbeats 16000000 in
theorem walk (va : Value) (ql : List Ac) (hql : ql.length ≤ 4398046510976) (w : World) (hs : Acs w va ql) (k1 n1 : Int) (m1 s1 : ByteArray) (a1 : Option Addr) (l1 : List Int) (c1 : Nat) (ok1 : AcOk w w.heap.size ⟨k1, n1, m1, s1, a1, l1, c1⟩) (k2 n2 : Int) (m2 s2 : ByteArray) (a2 : Option Addr) (l2 : List Int) (c2 : Nat) (ok2 : AcOk w w.heap.size ⟨k2, n2, m2, s2, a2, l2, c2⟩) :
    Calls Try.prog 5 #[va, .agg #[.int .i64 k1, .int .i64 n1, .string m1, .string s1, .slice a1 l1.length c1], .agg #[.int .i64 k2, .int .i64 n2, .string m2, .string s2, .slice a2 l2.length c2]] w fun r w' => r = .returned (.bool true) ∧ Below w.heap.size w w' := by
  obtain ⟨a, cap, rfl, hs⟩ := hs
  have hb0 : Below w.heap.size w ((w.alloc (.cells #[.int .i64 k1, .int .i64 n1, .string m1, .string s1, .slice a1 l1.length c1] 30)).alloc (.cells #[.int .i64 k2, .int .i64 n2, .string m2, .string s2, .slice a2 l2.length c2] 30)) := ((Below.refl _ w).alloc (Nat.le_refl _) _).alloc (by simp) _
  have hsz : ((w.alloc (.cells #[.int .i64 k1, .int .i64 n1, .string m1, .string s1, .slice a1 l1.length c1] 30)).alloc (.cells #[.int .i64 k2, .int .i64 n2, .string m2, .string s2, .slice a2 l2.length c2] 30)).heap.size = w.heap.size + 2 := by simp
  have hs1 : (w.alloc (.cells #[.int .i64 k1, .int .i64 n1, .string m1, .string s1, .slice a1 l1.length c1] 30)).heap.size = w.heap.size + 1 := by simp
  have o1 : ((w.alloc (.cells #[.int .i64 k1, .int .i64 n1, .string m1, .string s1, .slice a1 l1.length c1] 30)).alloc (.cells #[.int .i64 k2, .int .i64 n2, .string m2, .string s2, .slice a2 l2.length c2] 30)).heap[w.heap.size]? = some (.cells #[.int .i64 k1, .int .i64 n1, .string m1, .string s1, .slice a1 l1.length c1] 30) :=
    (((Below.refl _ (w.alloc (.cells #[.int .i64 k1, .int .i64 n1, .string m1, .string s1, .slice a1 l1.length c1] 30))).alloc (Nat.le_refl _) _).block w.heap.size (by rw [hs1]; omega)).trans (heap_alloc_new w _)
  have o2 : ((w.alloc (.cells #[.int .i64 k1, .int .i64 n1, .string m1, .string s1, .slice a1 l1.length c1] 30)).alloc (.cells #[.int .i64 k2, .int .i64 n2, .string m2, .string s2, .slice a2 l2.length c2] 30)).heap[w.heap.size + 1]? = some (.cells #[.int .i64 k2, .int .i64 n2, .string m2, .string s2, .slice a2 l2.length c2] 30) := by
    have := heap_alloc_new (w.alloc (.cells #[.int .i64 k1, .int .i64 n1, .string m1, .string s1, .slice a1 l1.length c1] 30)) (.cells #[.int .i64 k2, .int .i64 n2, .string m2, .string s2, .slice a2 l2.length c2] 30)
    rw [hs1] at this
    exact this
  go_enter Try.func5, Try.ntmps5
  go_wp2_with fail
  generalize (w.alloc (.cells #[.int .i64 k1, .int .i64 n1, .string m1, .string s1, .slice a1 l1.length c1] 30)).alloc (.cells #[.int .i64 k2, .int .i64 n2, .string m2, .string s2, .slice a2 l2.length c2] 30) = W at *
  clear hs1
  have okW : ∀ x : Ac, AcOk w w.heap.size x → AcOk W W.heap.size x := fun x h => by
    have := h.below hb0
    exact ⟨this.ks, fun h a e => Nat.lt_of_lt_of_le (this.low h a e) hb0.size, this.n, this.name, this.s⟩
  have HA : Hid (∀ V, Below W.heap.size W V → V.cell? ⟨w.heap.size, 0, none⟩ = some (.int .i64 k1) ∧ V.cell? ⟨w.heap.size, 1, none⟩ = some (.int .i64 n1) ∧ V.cell? ⟨w.heap.size, 2, none⟩ = some (.string m1) ∧ V.cell? ⟨w.heap.size, 3, none⟩ = some (.string s1) ∧ V.cell? ⟨w.heap.size, 4, none⟩ = some (.slice a1 l1.length c1)) := fun V h => by
    have hx := (h.block w.heap.size (by omega)).trans o1
    exact ⟨cell_of_row _ _ _ _ _ _ hx, cell_of_row _ _ _ _ _ _ hx, cell_of_row _ _ _ _ _ _ hx, cell_of_row _ _ _ _ _ _ hx, cell_of_row _ _ _ _ _ _ hx⟩
  have HA2 : Hid (∀ V, Below W.heap.size W V → V.cell? ⟨w.heap.size + 1, 0, none⟩ = some (.int .i64 k2) ∧ V.cell? ⟨w.heap.size + 1, 1, none⟩ = some (.int .i64 n2) ∧ V.cell? ⟨w.heap.size + 1, 2, none⟩ = some (.string m2) ∧ V.cell? ⟨w.heap.size + 1, 3, none⟩ = some (.string s2) ∧ V.cell? ⟨w.heap.size + 1, 4, none⟩ = some (.slice a2 l2.length c2)) := fun V h => by
    have hx := (h.block (w.heap.size + 1) (by omega)).trans o2
    exact ⟨cell_of_row _ _ _ _ _ _ hx, cell_of_row _ _ _ _ _ _ hx, cell_of_row _ _ _ _ _ _ hx, cell_of_row _ _ _ _ _ _ hx, cell_of_row _ _ _ _ _ _ hx⟩
  have HO : Hid (AcOk W W.heap.size ⟨k1, n1, m1, s1, a1, l1, c1⟩ ∧ AcOk W W.heap.size ⟨k2, n2, m2, s2, a2, l2, c2⟩ ∧ (∀ x : Ac, AcOk w w.heap.size x → AcOk W W.heap.size x) ∧ Below w.heap.size w W) := ⟨okW _ ok1, okW _ ok2, okW, hb0⟩
  clear okW ok1 ok2 o1 o2 hb0
  refine (shown_any W).mono ?_
  rintro e w1 ⟨rfl, B1⟩
  have HB : Hid (Below W.heap.size W w1 ∧ True) := ⟨B1, trivial⟩
  have hN := sNew W.heap.size w1 B1.size
  clear B1
  go_wp2_with (first
    | (go_at_call 10; refine hN.mono ?_; rintro e w2 ⟨rfl, S2, B2⟩; have HB2 : Hid (St w2 W.heap.size w1.heap.size ([], -1, false) ∧ Below W.heap.size W w2) := ⟨S2, HB.out.1.trans (B2.mono HB.out.1.size)⟩; have hD := dNew W.heap.size w2 HB2.out.2.size; clear S2 B2 hN HB)
    | (go_at_call 11; refine hD.mono ?_; rintro e w3 ⟨rfl, D3, B3⟩; have HJ : Hid (JP W w1.heap.size w2.heap.size w3) := ⟨⟨_, Pb.make (HB2.out.1.below B3) D3 HB2.out.2.size⟩, HB2.out.2.trans (B3.mono HB2.out.2.size)⟩; clear D3 B3 hD HB2))
  generalize hdd : w1.heap.size = d at HJ ⊢
  generalize hrr : w2.heap.size = r at HJ ⊢
  clear hdd hrr
  go_loopw [10] (fun v10 wr => ∃ (i : Nat), v10 = .int .i64 i ∧ i ≤ ql.length ∧ JP W d r wr) (fun v10 _ => ql.length - (intOf v10).toNat)
  case atStart => exact ⟨0, rfl, Nat.zero_le _, HJ.out⟩
  case round =>
    obtain ⟨i, rfl, hi, hJ⟩ := hrel
    by_cases hl : i < ql.length
    · have hli : (i : Int) < (ql.length : Int) := by omega
      have hi0 : (0 : Int) ≤ (i : Int) := Int.natCast_nonneg _
      rcases hs with hs | ⟨b, off, rfl, hlt, hc⟩
      · rw [hs] at hl; simp at hl
      obtain ⟨⟨kind, n, nm, s, ka, ks, kc⟩, ht⟩ : ∃ t, ql[i]? = some t := ⟨_, List.getElem?_eq_getElem hl⟩
      obtain ⟨hcs, hok⟩ := hc i _ ht
      obtain ⟨⟨st, P⟩, bel⟩ := hJ
      have bw : Below w.heap.size w wr := HO.out.2.2.2.trans (bel.mono HO.out.2.2.2.size)
      have m0 := (bw.cell (p := ⟨b, off + i * 5, none⟩) hlt).trans (hcs 0 _ rfl)
      have m1 := (bw.cell (p := ⟨b, off + i * 5 + 1, none⟩) hlt).trans (hcs 1 _ rfl)
      have m2 := (bw.cell (p := ⟨b, off + i * 5 + 2, none⟩) hlt).trans (hcs 2 _ rfl)
      have m3 := (bw.cell (p := ⟨b, off + i * 5 + 3, none⟩) hlt).trans (hcs 3 _ rfl)
      have m4 := (bw.cell (p := ⟨b, off + i * 5 + 4, none⟩) hlt).trans (hcs 4 _ rfl)
      have HP : Hid (Pb wr W.heap.size d r st ∧ Below W.heap.size W wr) := ⟨P, bel⟩
      have cD := does_any (a := ⟨kind, n, nm, s, ka, ks, kc⟩) P ((HO.out.2.2.1 _ hok).below bel)
      clear P bel hok hcs hc ht HJ bw
      go_wp2_with (first
        | (go_at_call 14; refine cD.mono ?_; rintro e w4 ⟨rfl, L4⟩; obtain ⟨st4, P4, B4⟩ := L4.pb HP.out.1.base; have H4 : Hid (JP W d r w4) := ⟨⟨st4, P4⟩, HP.out.2.trans B4⟩; clear cD L4 P4 B4))
      exact ⟨⟨i + 1, by go_num, by omega, H4.out⟩, by simp [intOf]; omega⟩
    · have hli : ¬ (i : Int) < (ql.length : Int) := by omega
      obtain ⟨⟨st, P⟩, bel⟩ := hJ
      have HP : Hid (Pb wr W.heap.size d r st ∧ Below W.heap.size W wr) := ⟨P, bel⟩
      have cC := sClone P.sd
      clear P bel HJ hs
      go_wp2_with (first
        | (go_at_call 12; refine cC.mono ?_; rintro e wa ⟨rfl, Sa, Ba⟩; obtain ⟨sva, Ka⟩ := HP.out.1.dk; have cK := dClone (Ka.below Ba) HP.out.1.sd.wf.few; have HS : Hid (St wa wr.heap.size wr.heap.size st ∧ Below wr.heap.size wr wa) := ⟨Sa, Ba⟩; clear cC Sa Ba Ka)
        | (go_at_call 13; refine cK.mono ?_; rintro e wb ⟨svb, rfl, Kb, Bb⟩; have HT : Hid (Two W d r wr.heap.size wr.heap.size wa.heap.size st st wb) := Two.make HP.out.1 HP.out.2 HS.out.1 HS.out.2 Kb Bb; (obtain ⟨x0, x1, x2, x3, x4⟩ := HA.out wb HT.out.bel); have cD := HT.out.one HO.out.1; clear cK Kb Bb HS HP))
      refine cD.mono ?_
      rintro e w4 ⟨rfl, st4, T4⟩
      obtain ⟨y0, y1, y2, y3, y4⟩ := HA2.out w4 T4.bel
      have HT4 : Hid (Two W d r wr.heap.size wr.heap.size wa.heap.size st4 st w4) := T4
      clear cD T4 x0 x1 x2 x3 x4 HT
      go_wp2_with fail
      refine (HT4.out.two HO.out.2.1).mono ?_
      rintro e w5 ⟨rfl, st5, T5⟩
      have HT5 : Hid (Two W d r wr.heap.size wr.heap.size wa.heap.size st4 st5 w5) := T5
      clear T5 y0 y1 y2 y3 y4 HT4
      go_wp2_with fail
      obtain ⟨X5, P5⟩ := HT5.out.fst
      refine (names1 P5).mono ?_
      rintro e w6 ⟨v6, rfl, r6, B6⟩
      have HT6 : Hid (Two W d r wr.heap.size wr.heap.size wa.heap.size st4 st5 w6 ∧ w6.ownsRow w5.heap.size 9 1 v6 st4.1.length (nms st4.1)) := ⟨HT5.out.below B6, r6⟩
      clear P5 HT5 r6 B6
      go_wp2_with fail
      obtain ⟨X6, P6⟩ := HT6.out.1.fst
      refine (names2 P6).mono ?_
      rintro e w7 ⟨v7, rfl, r7, B7⟩
      have hS7 := Same_names (row_below HT6.out.2 B7) r7 P6.sd.wf.few
      have HT7 : Hid (Two W d r wr.heap.size wr.heap.size wa.heap.size st4 st5 w7) := HT6.out.1.below B7
      clear P6 HT6 r7 B7
      go_wp2_with fail
      refine hS7.mono ?_
      rintro e w8 ⟨rfl, B8⟩
      have HT8 : Hid (Two W d r wr.heap.size wr.heap.size wa.heap.size st4 st5 w8) := HT7.out.below B8
      clear HT7 B8 hS7
      go_wp2_with fail
      obtain ⟨X8, P8⟩ := HT8.out.snd
      refine (names1 P8).mono ?_
      rintro e w9 ⟨v9, rfl, r9, B9⟩
      have HT9 : Hid (Two W d r wr.heap.size wr.heap.size wa.heap.size st4 st5 w9 ∧ w9.ownsRow w8.heap.size 9 1 v9 st5.1.length (nms st5.1)) := ⟨HT8.out.below B9, r9⟩
      clear P8 HT8 r9 B9
      go_wp2_with fail
      obtain ⟨X9, P9⟩ := HT9.out.1.snd
      refine (names2 P9).mono ?_
      rintro e w10 ⟨v10, rfl, r10, B10⟩
      have hS10 := Same_names (row_below HT9.out.2 B10) r10 P9.sd.wf.few
      have HT10 : Hid (Two W d r wr.heap.size wr.heap.size wa.heap.size st4 st5 w10) := HT9.out.1.below B10
      clear P9 HT9 r10 B10
      go_wp2_with fail
      refine hS10.mono ?_
      rintro e w11 ⟨rfl, B11⟩
      have HT11 : Hid (Two W d r wr.heap.size wr.heap.size wa.heap.size st4 st5 w11) := HT10.out.below B11
      clear HT10 B11 hS10
      go_wp2_with fail
      generalize hcc : wr.heap.size = c at HT11 ⊢
      generalize hqq : wa.heap.size = qb at HT11 ⊢
      clear hcc hqq
      go_loopw [17] (fun v17 wz => ∃ (i : Nat), v17 = .int .i64 i ∧ i ≤ st5.1.length ∧ Two W d r c c qb st4 st5 wz) (fun v17 _ => st5.1.length - (intOf v17).toNat)
      case atStart => exact ⟨0, rfl, Nat.zero_le _, HT11.out⟩
      case round =>
        obtain ⟨j, rfl, hj, T⟩ := hrel
        clear HT11
        obtain ⟨Y, Q⟩ := T.snd
        obtain ⟨sv, K⟩ := Q.dk
        have wf := Q.sd.wf
        have hfew := wf.few
        have HZ : Hid (Two W d r c c qb st4 st5 wr) := T
        obtain ⟨fs, p, off⟩ := st5
        by_cases hjl : j < fs.length
        · have hjl' : (j : Int) < (fs.length : Int) := by omega
          have hj0 : (0 : Int) ≤ (j : Int) := Int.natCast_nonneg _
          obtain ⟨g, cc, rfl⟩ := K.slice (by omega)
          have k0 := K.c0
          have nm := name_at K hjl
          have hsz32 := (wf.small _ (List.getElem_mem hjl)).1
          have cR := sRead Q.sd fs[j].1 (by omega)
          have cD := dRead K wf fs[j].1
          generalize fs[j].1 = name at *
          generalize aRead (fs, p, off) name = qq at *
          obtain ⟨q1, q2⟩ := qq
          clear T Q K wf
          go_wp2_with (first
            | (go_at_call 22; refine cR.mono ?_; rintro e wx ⟨rfl, rfl⟩; clear cR)
            | (go_at_call 23; refine cD.mono ?_; rintro e wy ⟨rfl, N, rfl⟩; clear cD))
          exact ⟨⟨j + 1, by go_num, by omega, HZ.out.below (Below.drewN (Below.refl _ _) N)⟩, by simp [intOf]; omega⟩
        · have hjl' : ¬ (j : Int) < (fs.length : Int) := by omega
          obtain ⟨a0, cc, rfl, -⟩ := row_slice K.row
          have k0 := K.c0
          clear T Q K wf
          go_wp2
          go_ret
          exact ⟨rfl, HO.out.2.2.2.trans (HZ.out.bel.mono HO.out.2.2.2.size)⟩
set_option maxRecDepth 100000 in
/-- an act by value -/
theorem openAgg {H : Type} {enc : TypeId × Value → H} {W : World} {v : Value} {d : DataW H} {p : List MemPlace} {base : Nat} (hok : Value.okWide Try.prog W .any base 30 v)
    (h : DataW.Trod enc Try.prog W 0 (fun _ => true) true 30 v d p) (hw : (d.weights Try.prog 30).all (· ≤ reachBytes) = true) : ∃ a : Ac, v = .agg a.cs ∧ AcOk W W.heap.size a := by
  obtain ⟨cs, rfl, hsz⟩ := okWide_struct Try.underlying30 hok
  obtain ⟨fuel, hf⟩ := h
  have hc5 : Try.prog.cellsOf 30 = 5 := by kernel_rfl
  rw [hc5] at hsz
  obtain ⟨a, e, hac, hwt⟩ := openAc (cs := cs.toList) (by simpa using hsz) (by simpa [Value.cells] using hf)
  have e' : cs = a.cs := Array.toList_inj.1 e
  subst e'
  have hr : reachBytes = 140737488351232 := rfl
  have h2 := List.all_eq_true.1 hw _ hwt
  simp only [decide_eq_true_eq] at h2
  exact ⟨a, rfl, hac (by omega)⟩
set_option maxRecDepth 100000 in
theorem lifted (os : Os) (started : os.Started) (H : Type) (enc : TypeId × Value → H) :
    ReturnsInHanded {} Try.checked os 5 .any (Rows.diskClonesSpec.pre6 enc Try.prog Try.f5 Rows.diskClonesRow.domain false) (Rows.diskClonesSpec.post enc Try.prog Try.f5 false true false false) := by
  refine returnsInHanded_of_change_sized (C := Try.checked) own started (by kernel_rfl) Try.func5
    (ChangeSpec.witness6 (enc := enc) (C := Try.checked) false ⟨#[], #[.slice none 0 0, .agg #[.int .i64 0, .int .i64 0, .string .empty, .string .empty, .slice none 0 0], .agg #[.int .i64 0, .int .i64 0, .string .empty, .string .empty, .slice none 0 0]], []⟩ 8 (by kernel_rfl) (by kernel_rfl) (by kernel_rfl) (by kernel_rfl)) ?_
  intro W base args ds gs before hval0 hW hcnd hsz0 _
  have hval : ∀ (j : Nat) t v, Try.f5.params[j]? = some t → args[j]? = some v → Value.okWide Try.prog W .any base t v := hval0
  have hsz : (DataW.weightsEach Try.prog (Try.f5.params.toList ++ Rows.diskClonesSpec.plain.varTypes Try.prog) (ds ++ gs)).all (· ≤ reachBytes) = true := hsz0
  have hW' := hW
  obtain ⟨p, q, hA0, hV, rfl, hfz, hnd⟩ := hW
  have hA : DataW.TrodAll enc Try.prog W 0 (fun _ => true) true Try.f5.params.toList args.toList ds p := hA0
  rw [Try.params5] at hA hval hsz
  obtain ⟨v0, vs0, d0, ds0, p0, q0, hargs, rfl, rfl, h0, r0⟩ := trodAll_cons hA
  obtain ⟨v1, vs1, d1, ds1, p1, q1, rfl, rfl, rfl, h1, r1⟩ := trodAll_cons r0
  obtain ⟨v2, vs2, d2, ds2, p2, q2, rfl, rfl, rfl, h2, r2⟩ := trodAll_cons r1
  obtain ⟨rfl, rfl, rfl⟩ := trodAll_nil r2
  obtain rfl : args = #[v0, v1, v2] := by cases args; simp_all
  obtain ⟨rfl, rfl⟩ := trodVars_none hV
  have k0 := h0
  have k1 := h1
  have k2 := h2
  have lt0 : ∀ x ∈ p0, x.block < W.heap.size := by obtain ⟨m, hm⟩ := k0; exact DataW.trod_lt m _ _ _ hm
  have lt1 : ∀ x ∈ p1, x.block < W.heap.size := by obtain ⟨m, hm⟩ := k1; exact DataW.trod_lt m _ _ _ hm
  have lt2 : ∀ x ∈ p2, x.block < W.heap.size := by obtain ⟨m, hm⟩ := k2; exact DataW.trod_lt m _ _ _ hm
  simp only [List.cons_append, DataW.weightsEach, List.all_append, Bool.and_eq_true] at hsz
  obtain ⟨qs, hqs, hql⟩ := openActs (hval 0 22 v0 rfl rfl) h0 hsz.1
  obtain ⟨⟨k1', n1, m1, s1, a1, l1, c1⟩, rfl, ok1⟩ := openAgg (hval 1 30 v1 rfl rfl) h1 hsz.2.1
  obtain ⟨⟨k2', n2, m2, s2, a2, l2, c2⟩, rfl, ok2⟩ := openAgg (hval 2 30 v2 rfl rfl) h2 hsz.2.2.1
  clear hA0 hval0
  refine (walk v0 qs hql W hqs k1' n1 m1 s1 a1 l1 c1 ok1 k2' n2 m2 s2 a2 l2 c2 ok2).mono fun e W' ⟨he, bel⟩ => ?_
  subst he
  exact ⟨_, rfl, _, _, _, [], _, [], hW', trodAll_mk1 (shut_bool Try.underlying4 _), (trodAll_cons_mk (Below.trod laidOut (by kernel_rfl) (of_decide_eq_true (by kernel_rfl)) k0 bel lt0) (trodAll_cons_mk (Below.trod laidOut (by kernel_rfl) (of_decide_eq_true (by kernel_rfl)) k1 bel lt1) (trodAll_cons_mk (Below.trod laidOut (by kernel_rfl) (of_decide_eq_true (by kernel_rfl)) k2 bel lt2) trodAll_mk0))), rfl, bel.frame _, fun h => by cases h⟩

theorem proved : Rows.DiskClonesSaid :=
  OpenClaim.holds_of_wide 5 Try.f5 rfl rfl rfl rfl rfl rfl rfl ⟨rfl, rfl, rfl, rfl, rfl⟩ rfl rfl rfl rfl rfl (by kernel_rfl) Try.func5 (by kernel_rfl)
    (of_decide_eq_true (by kernel_rfl)) (by unfold Func.isWrapper; first | (rw [if_pos (by decide +kernel)]; kernel_rfl) | (rw [if_neg (by decide +kernel)]; exact ⟨rfl, rfl⟩))
    (fun os started H enc _ => lifted os started H enc)
end Go.Proofs.Ytedcabnjcbdkaaa.diskClones

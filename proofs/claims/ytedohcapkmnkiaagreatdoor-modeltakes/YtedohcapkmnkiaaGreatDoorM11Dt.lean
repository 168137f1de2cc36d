/-
  The document's Take of a process: what it comes to.
-/
import Derived.Test.YtedohcapkmnkiaaGreatDoorGDoc
import Derived.Test.YtedohcapkmnkiaaGreatDoorM11Tke
namespace Go.Proofs.YtedohcapkmnkiaaGreatDoor.m11
open Go.Proofs.YtedohcapkmnkiaaGreatDoor.x10
open Go.RowKit Go.Shelf Go.Sort
open Go.Lib hiding intOf

/-- while the document takes a process, since world W0: its reader in block rb, the process in block pb -/
structure Dw (W0 W : World) (rb pb : Nat) (d : Ds) (cs : Array Value) : Prop where
  ch : Ch (fun b => b = rb ∨ b = pb) W0 W
  rd : Rd W rb d.1 d.2
  le : d.1.length ≤ 8192
  po : Bo 26 W pb cs
  ne : rb ≠ pb
  l1 : rb < W0.heap.size
  l2 : pb < W0.heap.size
theorem Dw.but {W0 W W1 : World} {rb pb : Nat} {d d2 : Ds} {cs : Array Value} (h : Dw W0 W rb pb d cs) (hb : But rb W W1) (hr : Rd W1 rb d2.1 d2.2) (hl : d2.1.length ≤ 8192) : Dw W0 W1 rb pb d2 cs :=
  ⟨h.ch.trans (but_ch hb (.inl rfl)), hr, hl, (hb.block pb h.po.lt h.ne.symm).trans h.po, h.ne, h.l1, h.l2⟩
theorem Dw.below {W0 W W1 : World} {rb pb : Nat} {d : Ds} {cs : Array Value} (h : Dw W0 W rb pb d cs) (hb : Below W0.heap.size W W1) : Dw W0 W1 rb pb d cs :=
  ⟨ch_below h.ch hb (Nat.le_refl _), rd_of h.rd (hb.block rb h.l1) hb.size, h.le, (hb.block pb h.l2).trans h.po, h.ne, h.l1, h.l2⟩
theorem Dw.put {W0 W : World} {rb pb : Nat} {d : Ds} {cs : Array Value} (h : Dw W0 W rb pb d cs) (i : Nat) (v : Value) : Dw W0 (W.setCell ⟨pb, i, none⟩ v) rb pb d (cs.setIfInBounds i v) :=
  ⟨h.ch.setCell ⟨pb, i, none⟩ v (fun _ => .inr rfl), rd_of h.rd (heap_setCell_other W _ rb v h.ne) (by simp), h.le, h.po.set i v, h.ne, h.l1, h.l2⟩
theorem Dw.far {W0 W : World} {rb pb : Nat} {d : Ds} {cs : Array Value} (h : Dw W0 W rb pb d cs) {nb : Nat} (hn : W0.heap.size ≤ nb) (i : Nat) (v : Value) : Dw W0 (W.setCell ⟨nb, i, none⟩ v) rb pb d cs := by
  have h1 := h.l1
  have h2 := h.l2
  exact ⟨h.ch.setCell ⟨nb, i, none⟩ v (fun e => absurd e (by simp only; omega)), rd_of h.rd (heap_setCell_other W _ rb v (by simp only; omega)) (by simp), h.le, h.po.far (by omega) i v, h.ne, h.l1, h.l2⟩
theorem dNum_le (d : Ds) : (dNum d).2.1.length ≤ d.1.length := rdU_le d.1 d.2
theorem dInt_le (d : Ds) : (dInt d).2.1.length ≤ d.1.length := rdU_le d.1 d.2
theorem dTxt_le (m : Int) (d : Ds) : (dTxt m d).2.1.length ≤ d.1.length := rdT_le m d.1 d.2
theorem dCnt_le (m : Nat) (d : Ds) : (dCnt m d).2.1.length ≤ d.1.length ∧ (dCnt m d).1 ≤ m := by
  have := rdU_le d.1 d.2
  unfold dCnt
  split
  · split
    · exact ⟨this, Nat.zero_le _⟩
    · exact ⟨this, by simp only; omega⟩
  · exact ⟨this, Nat.zero_le _⟩
theorem cNum {W0 W : World} {rb pb : Nat} {d : Ds} {cs : Array Value} (h : Dw W0 W rb pb d cs) : Calls Tryz.prog 16 #[.pointer (some ⟨rb, 0, none⟩)] W fun e w' => e = .returned (.int .i64 (dNum d).1) ∧ Dw W0 w' rb pb (dNum d).2 cs ∧ But rb W w' :=
  (dsmall_any h.rd h.le).mono fun _ _ ⟨he, hr, hb⟩ => ⟨he, h.but hb hr (Nat.le_trans (dNum_le d) h.le), hb⟩
theorem cInt {W0 W : World} {rb pb : Nat} {d : Ds} {cs : Array Value} (h : Dw W0 W rb pb d cs) : Calls Tryz.prog 17 #[.pointer (some ⟨rb, 0, none⟩)] W fun e w' => e = .returned (.int .i64 (dInt d).1) ∧ Dw W0 w' rb pb (dInt d).2 cs ∧ But rb W w' :=
  (rInt_all h.rd (by have := h.le; omega) (show Hid (rdU d.1 d.2 = ((rdU d.1 d.2).1, (rdU d.1 d.2).2.1, (rdU d.1 d.2).2.2)) from rfl)).mono fun _ _ ⟨he, hr, hb⟩ => ⟨he, h.but (d2 := (dInt d).2) hb hr (Nat.le_trans (dInt_le d) h.le), hb⟩
theorem cTxt {W0 W : World} {rb pb : Nat} {d : Ds} {cs : Array Value} (h : Dw W0 W rb pb d cs) (m : Int) (hm : 0 ≤ m ∧ m ≤ 512) : Calls Tryz.prog 14 #[.pointer (some ⟨rb, 0, none⟩), .int .i64 m] W fun e w' => e = .returned (.string (S (dTxt m d).1)) ∧ Dw W0 w' rb pb (dTxt m d).2 cs ∧ But rb W w' :=
  (rText_all h.rd (by have := h.le; omega) (by omega) (by omega) (show Hid (rdT m d.1 d.2 = ((rdT m d.1 d.2).1, (rdT m d.1 d.2).2.1, (rdT m d.1 d.2).2.2)) from rfl)).mono fun _ _ ⟨he, hr, hb⟩ => ⟨he, h.but (d2 := (dTxt m d).2) hb hr (Nat.le_trans (dTxt_le m d) h.le), hb⟩
theorem cCnt {W0 W : World} {rb pb : Nat} {d : Ds} {cs : Array Value} (h : Dw W0 W rb pb d cs) (most : Nat) (hm : most ≤ 1000) : Calls Tryz.prog 15 #[.pointer (some ⟨rb, 0, none⟩), .int .u64 (most : Int)] W fun e w' => e = .returned (.int .i64 ((dCnt most d).1 : Int)) ∧ Dw W0 w' rb pb (dCnt most d).2 cs ∧ But rb W w' :=
  (dcount_any h.rd h.le hm).mono fun _ _ ⟨he, hr, hb⟩ => ⟨he, h.but hb hr (Nat.le_trans (dCnt_le most d).1 h.le), hb⟩
/-- one element is read into block nb, behind the row of those that there are -/
structure De (W0 W : World) (rb pb nb : Nat) (d : Ds) (cs es : Array Value) (T : TypeId) (sz : Nat) (v : Value) (n : Nat) (xs : List Value) : Prop where
  dw : Dw W0 W rb pb d cs
  bo : Bo T W nb es
  hn : W0.heap.size ≤ nb
  row : W.ownsRow W0.heap.size T sz v n xs
  ob : ∀ k, v.ownBlock = some k → k ≠ nb
theorem De.step {W0 W W1 : World} {rb pb nb : Nat} {d d2 : Ds} {cs es : Array Value} {T : TypeId} {sz : Nat} {v : Value} {n : Nat} {xs : List Value} (h : De W0 W rb pb nb d cs es T sz v n xs) (hd : Dw W0 W1 rb pb d2 cs) (hb : But rb W W1) : De W0 W1 rb pb nb d2 cs es T sz v n xs := by
  have h1 := h.dw.l1
  exact ⟨hd, (hb.block nb h.bo.lt (by have := h.hn; omega)).trans h.bo, h.hn, (but_ch (X := fun k => k = rb) hb rfl).row h.row (fun k hk e => by have := (World.ownsRow.lt h.row k hk).1; omega), h.ob⟩
theorem De.set {W0 W : World} {rb pb nb : Nat} {d : Ds} {cs es : Array Value} {T : TypeId} {sz : Nat} {v : Value} {n : Nat} {xs : List Value} (h : De W0 W rb pb nb d cs es T sz v n xs) (i : Nat) (u : Value) : De W0 (W.setCell ⟨nb, i, none⟩ u) rb pb nb d cs (es.setIfInBounds i u) T sz v n xs :=
  ⟨h.dw.far h.hn i u, h.bo.set i u, h.hn, ((Ch.refl (fun k => k = nb) W).setCell ⟨nb, i, none⟩ u (fun _ => rfl)).row h.row (fun k hk e => h.ob k hk e), h.ob⟩
theorem De.new {W0 W : World} {rb pb : Nat} {d : Ds} {cs : Array Value} {T : TypeId} {sz : Nat} {v : Value} {n : Nat} {xs : List Value} (h : Dw W0 W rb pb d cs) (hr : W.ownsRow W0.heap.size T sz v n xs) (es : Array Value) : De W0 (W.alloc (.cells es T)) rb pb W.heap.size d cs es T sz v n xs :=
  ⟨h.below ((Below.refl _ W).alloc h.ch.size _), Array.getElem?_push_size, h.ch.size, hr.alloc _, fun k hk e => by have := (World.ownsRow.lt hr k hk).2; omega⟩
/-- the row has grown, and is laid into the process -/
theorem De.grown {W0 W w5 : World} {rb pb nb : Nat} {d : Ds} {cs es : Array Value} {T : TypeId} {sz : Nat} {v v5 : Value} {n n5 : Nat} {xs xs5 : List Value} {o : Obj} (h : De W0 W rb pb nb d cs es T sz v n xs) (hg : (W.alloc o).grownBy w5 v.ownBlock) (ho : w5.ownsRow W0.heap.size T sz v5 n5 xs5) (i : Nat) : Dw W0 (w5.setCell ⟨pb, i, none⟩ v5) rb pb d (cs.setIfInBounds i v5) ∧ (w5.setCell ⟨pb, i, none⟩ v5).ownsRow W0.heap.size T sz v5 n5 xs5 ∧ Bo 26 w5 pb cs := by
  have hb : Below W0.heap.size W w5 := ((Below.refl W0.heap.size W).alloc h.dw.ch.size o).grown hg (by have := h.dw.ch.size; simp; omega) (fun k hk => (World.ownsRow.lt h.row k hk).1)
  have hd := h.dw.below hb
  exact ⟨hd.put i v5, row_far ho h.dw.l2 i v5, hd.po⟩
theorem dLoop_stop {α : Type} {f : Ds → α × Ds} {n : Nat} {d : Ds} (h : d.2 ≠ 0) : dLoop f n d = ([], d) := by
  cases n with
  | zero => rfl
  | succ n => rw [dLoop, if_pos h]
theorem dLoop_go {α : Type} {f : Ds → α × Ds} {n : Nat} {d : Ds} (h : d.2 = 0) : dLoop f (n + 1) d = ((f d).1 :: (dLoop f n (f d).2).1, (dLoop f n (f d).2).2) := by
  rw [dLoop, if_neg (by omega)]
theorem Dw.keep {w W0 W : World} {rb pb : Nat} {d : Ds} {cs z : Array Value} (h : Dw W0 W rb pb d cs) (h0 : Below w.heap.size w W0) (hA : Bo 26 W0 w.heap.size z) (h1 : w.heap.size < rb) (h2 : w.heap.size < pb) : Below w.heap.size w W ∧ Bo 26 W w.heap.size z :=
  ⟨h0.trans (h.ch.below h0.size (fun k hk e => by omega)), hA.ch h.ch (fun e => by omega)⟩
theorem Dw.start {W : World} {rb pb : Nat} {d : Ds} {cs : Array Value} (hr : Rd W rb d.1 d.2) (hl : d.1.length ≤ 8192) (hp : Bo 26 W pb cs) (hne : rb ≠ pb) : Dw W W rb pb d cs := ⟨Ch.refl _ _, hr, hl, hp, hne, hr.lt, hp.lt⟩

set_option maxRecDepth 100000 in
set_option maxHeartbeats 8000000 in
theorem dTake_main (l : List UInt8) (hlong : ¬ 8192 < l.length) (w : World) : Calls Tryz.prog 6 #[.string (S l)] w (TkR w (dkP l)) := by
  obtain ⟨i0, hi0, hz0, hz1, hz2⟩ := info_parts infoN
  obtain ⟨j0, hj0, hy0, hy1, hy2⟩ := info_parts infoF
  have hss := S_size l
  have hlong' : ¬ (8192 : Int) < (l.length : Int) := by omega
  obtain ⟨id, d1, h1⟩ : ∃ id d1, dTxt 32 (l, 0) = (id, d1) := ⟨_, _, rfl⟩
  obtain ⟨m1, d2, h2⟩ : ∃ m1 d2, dCnt 40 d1 = (m1, d2) := ⟨_, _, rfl⟩
  obtain ⟨R1, hR1⟩ : ∃ R, dLoop dNode m1 d2 = R := ⟨_, rfl⟩
  have hm1 : m1 ≤ 40 := by have := (dCnt_le 40 d1).2; rw [h2] at this; exact this
  have HR1 : Hid ((([] : List Nd) ++ (dLoop dNode m1 d2).1, (dLoop dNode m1 d2).2) = R1) := by show _ = _; rw [hR1]; rfl
  have hl1 : d1.1.length ≤ 8192 := by have := dTxt_le 32 (l, 0); rw [h1] at this; simp only at this; omega
  have hd1 : rdT 32 l 0 = (id, d1.1, d1.2) := by have h := h1; unfold dTxt at h; simp only [Prod.mk.injEq] at h; obtain ⟨g1, g2⟩ := h; rw [← g1, ← g2]
  have CT := rText_all (w := (w.alloc (.cells #[.string ⟨#[]⟩, .slice none 0 0, .slice none 0 0] 26)).alloc (.cells #[.string (S l), .int .i64 0] 46)) (b := w.heap.size + 1) (l := l) (e := 0) (most := 32) ⟨by go_simp, by go_simp, by go_simp, by go_simp, by simp⟩ (by omega) (by omega) (by omega) (show Hid _ from hd1)
  have HB1 : Hid (∀ w1, But (w.heap.size + 1) ((w.alloc (.cells #[.string ⟨#[]⟩, .slice none 0 0, .slice none 0 0] 26)).alloc (.cells #[.string (S l), .int .i64 0] 46)) w1 → Below w.heap.size w w1 ∧ Bo 26 w1 w.heap.size #[.string ⟨#[]⟩, .slice none 0 0, .slice none 0 0] ∧ w.heap.size + 1 < w1.heap.size) := fun w1 hb => by
    have hz := hb.size
    simp only [World.size_alloc] at hz
    refine ⟨(((Below.refl _ w).alloc (Nat.le_refl _) _).alloc (by rw [World.size_alloc]; omega) _).trans (hb.below (by omega) (by simp; omega)), ?_, by omega⟩
    have h0 : Bo 26 ((w.alloc (.cells #[.string ⟨#[]⟩, .slice none 0 0, .slice none 0 0] 26)).alloc (.cells #[.string (S l), .int .i64 0] 46)) w.heap.size #[.string ⟨#[]⟩, .slice none 0 0, .slice none 0 0] := (((Below.refl _ _).alloc (Nat.le_refl _) _).block w.heap.size (by simp)).trans Array.getElem?_push_size
    exact (hb.block w.heap.size (by simp; omega) (by omega)).trans h0
  have HC1 : Hid (∀ w1, Rd w1 (w.heap.size + 1) d1.1 d1.2 → w.heap.size + 1 < w1.heap.size → Dw (w1.alloc (.cells #[.string (S id), .slice none 0 0, .slice none 0 0] 26)) (w1.alloc (.cells #[.string (S id), .slice none 0 0, .slice none 0 0] 26)) (w.heap.size + 1) w1.heap.size d1 #[.string (S id), .slice none 0 0, .slice none 0 0]) := fun w1 hr hz => Dw.start (rd_of hr ((((Below.refl _ w1).alloc (Nat.le_refl _) _).block _ hr.lt)) (by simp)) hl1 Array.getElem?_push_size (by omega)
  clear hd1
  go_enter Tryz.func6, Tryz.ntmps6
  go_wp2_with (first
    | (go_at_call 14; refine CT.mono ?_; rintro e w1 ⟨rfl, r1, b1⟩; (have HB := HB1.out w1 b1); (have hwp : Hid (w.heap.size < w1.heap.size) := by show _ < _; omega); (have hwz : Hid (w.heap.size + 1 < w1.heap.size) := HB.2.2); (have CC0 := cCnt (HC1.out w1 r1 HB.2.2) 40 (by omega)); rw [h2] at CC0; (have CC : Calls Tryz.prog 15 #[.pointer (some ⟨w.heap.size + 1, 0, none⟩), .int .u64 40] (w1.alloc (.cells #[.string (S id), .slice none 0 0, .slice none 0 0] 26)) _ := CC0); (have HB1' : Hid (Below w.heap.size w (w1.alloc (.cells #[.string (S id), .slice none 0 0, .slice none 0 0] 26)) ∧ Bo 26 (w1.alloc (.cells #[.string (S id), .slice none 0 0, .slice none 0 0] 26)) w.heap.size #[.string ⟨#[]⟩, .slice none 0 0, .slice none 0 0]) := ⟨HB.1.alloc HB.1.size _, (((Below.refl _ w1).alloc (Nat.le_refl _) _).block _ HB.2.1.lt).trans HB.2.1⟩); clear r1 b1 CT HB HB1 HC1 CC0)
    | (go_at_call 15; refine CC.mono ?_; rintro e w2 ⟨rfl, q2, b2⟩; (have hk := q2.keep HB1'.out.1 HB1'.out.2 (by omega) hwp.out); (have HA : Hid (Dw w2 w2 (w.heap.size + 1) w1.heap.size d2 #[.string (S id), .slice none 0 0, .slice none 0 0]) := Dw.start q2.rd q2.le q2.po q2.ne); (have HB2 : Hid (Below w.heap.size w w2 ∧ Bo 26 w2 w.heap.size #[.string ⟨#[]⟩, .slice none 0 0, .slice none 0 0]) := hk); (have hb2 : Hid (w1.heap.size < w2.heap.size ∧ w.heap.size + 1 < w1.heap.size) := ⟨q2.po.lt, hwz.out⟩); clear q2 b2 hk CC HB1'))
  go_loopw [7] (fun vi wr => ∃ (i : Nat) (f : List Nd) (fa : Option Addr) (fc : Nat) (d : Ds), vi = .int .i64 (i : Int) ∧ i ≤ m1 ∧ f.length = i ∧ Hid (Dw w2 wr (w.heap.size + 1) w1.heap.size d #[.string (S id), .slice fa f.length fc, .slice none 0 0] ∧ wr.ownsRow w2.heap.size 51 7 (.slice fa f.length fc) f.length (ncs f)) ∧ Hid ((f ++ (dLoop dNode (m1 - i) d).1, (dLoop dNode (m1 - i) d).2) = R1)) (fun vi _ => m1 - (intOf vi).toNat)
  case atStart => exact ⟨0, [], none, 0, _, rfl, Nat.zero_le _, rfl, ⟨HA.out, ⟨rfl, .inl ⟨rfl, rfl⟩⟩⟩, by show _ = _; rw [Nat.sub_zero]; exact HR1.out⟩
  case round =>
    obtain ⟨i, f, fa, fc, d, rfl, hi, hf, HK, HP⟩ := hrel
    have HFL : Hid (f.length = i) := hf
    have hfl : f.length ≤ 100 := by omega
    clear hf
    have ce := HK.out.1.rd.err
    by_cases hil : i < m1
    · have hil' : (i : Int) < (m1 : Int) := by omega
      by_cases hd : d.2 = 0
      · rw [hd] at ce
        have hne2 : w1.heap.size < wr.heap.size := by have h8 := HK.out.1.l2; have h9 := HK.out.1.ch.size; omega
        have hne : ¬ w1.heap.size = wr.heap.size := by omega
        obtain ⟨x0, d1, hx0⟩ : ∃ x d1, dNum d = (x, d1) := ⟨_, _, rfl⟩
        obtain ⟨x1, d2, hx1⟩ : ∃ x d2, dNum d1 = (x, d2) := ⟨_, _, rfl⟩
        obtain ⟨x2, d3, hx2⟩ : ∃ x d3, dNum d2 = (x, d3) := ⟨_, _, rfl⟩
        obtain ⟨x3, d4, hx3⟩ : ∃ x d4, dTxt 32 d3 = (x, d4) := ⟨_, _, rfl⟩
        obtain ⟨x4, d5, hx4⟩ : ∃ x d5, dTxt 32 d4 = (x, d5) := ⟨_, _, rfl⟩
        obtain ⟨x5, d6, hx5⟩ : ∃ x d6, dTxt 512 d5 = (x, d6) := ⟨_, _, rfl⟩
        obtain ⟨x6, d7, hx6⟩ : ∃ x d7, dInt d6 = (x, d7) := ⟨_, _, rfl⟩
        have hx : dNode d = ((⟨x0, x1, x2, x3, x4, x5, x6⟩ : Nd), d7) := by unfold dNode; simp only [hx0, hx1, hx2, hx3, hx4, hx5, hx6]
        have H0 : Hid (∀ W, De w2 W (w.heap.size + 1) w1.heap.size wr.heap.size d #[.string (S id), .slice fa f.length fc, .slice none 0 0] #[.int .i64 0, .int .i64 0, .int .i64 0, .string ⟨#[]⟩, .string ⟨#[]⟩, .string ⟨#[]⟩, .int .i64 0] 51 7 (.slice fa f.length fc) f.length (ncs f) → Calls Tryz.prog 16 #[.pointer (some ⟨w.heap.size + 1, 0, none⟩)] W fun e w' => e = .returned (.int .i64 x0) ∧ De w2 w' (w.heap.size + 1) w1.heap.size wr.heap.size d1 #[.string (S id), .slice fa f.length fc, .slice none 0 0] #[.int .i64 0, .int .i64 0, .int .i64 0, .string ⟨#[]⟩, .string ⟨#[]⟩, .string ⟨#[]⟩, .int .i64 0] 51 7 (.slice fa f.length fc) f.length (ncs f)) := fun W q => by
          have c := cNum q.dw
          rw [hx0] at c
          exact c.mono fun _ _ ⟨he, h1, h2⟩ => ⟨he, q.step h1 h2⟩
        have H1 : Hid (∀ W, De w2 W (w.heap.size + 1) w1.heap.size wr.heap.size d1 #[.string (S id), .slice fa f.length fc, .slice none 0 0] #[.int .i64 x0, .int .i64 0, .int .i64 0, .string ⟨#[]⟩, .string ⟨#[]⟩, .string ⟨#[]⟩, .int .i64 0] 51 7 (.slice fa f.length fc) f.length (ncs f) → Calls Tryz.prog 16 #[.pointer (some ⟨w.heap.size + 1, 0, none⟩)] W fun e w' => e = .returned (.int .i64 x1) ∧ De w2 w' (w.heap.size + 1) w1.heap.size wr.heap.size d2 #[.string (S id), .slice fa f.length fc, .slice none 0 0] #[.int .i64 x0, .int .i64 0, .int .i64 0, .string ⟨#[]⟩, .string ⟨#[]⟩, .string ⟨#[]⟩, .int .i64 0] 51 7 (.slice fa f.length fc) f.length (ncs f)) := fun W q => by
          have c := cNum q.dw
          rw [hx1] at c
          exact c.mono fun _ _ ⟨he, h1, h2⟩ => ⟨he, q.step h1 h2⟩
        have H2 : Hid (∀ W, De w2 W (w.heap.size + 1) w1.heap.size wr.heap.size d2 #[.string (S id), .slice fa f.length fc, .slice none 0 0] #[.int .i64 x0, .int .i64 x1, .int .i64 0, .string ⟨#[]⟩, .string ⟨#[]⟩, .string ⟨#[]⟩, .int .i64 0] 51 7 (.slice fa f.length fc) f.length (ncs f) → Calls Tryz.prog 16 #[.pointer (some ⟨w.heap.size + 1, 0, none⟩)] W fun e w' => e = .returned (.int .i64 x2) ∧ De w2 w' (w.heap.size + 1) w1.heap.size wr.heap.size d3 #[.string (S id), .slice fa f.length fc, .slice none 0 0] #[.int .i64 x0, .int .i64 x1, .int .i64 0, .string ⟨#[]⟩, .string ⟨#[]⟩, .string ⟨#[]⟩, .int .i64 0] 51 7 (.slice fa f.length fc) f.length (ncs f)) := fun W q => by
          have c := cNum q.dw
          rw [hx2] at c
          exact c.mono fun _ _ ⟨he, h1, h2⟩ => ⟨he, q.step h1 h2⟩
        have H3 : Hid (∀ W, De w2 W (w.heap.size + 1) w1.heap.size wr.heap.size d3 #[.string (S id), .slice fa f.length fc, .slice none 0 0] #[.int .i64 x0, .int .i64 x1, .int .i64 x2, .string ⟨#[]⟩, .string ⟨#[]⟩, .string ⟨#[]⟩, .int .i64 0] 51 7 (.slice fa f.length fc) f.length (ncs f) → Calls Tryz.prog 14 #[.pointer (some ⟨w.heap.size + 1, 0, none⟩), .int .i64 32] W fun e w' => e = .returned (.string (S x3)) ∧ De w2 w' (w.heap.size + 1) w1.heap.size wr.heap.size d4 #[.string (S id), .slice fa f.length fc, .slice none 0 0] #[.int .i64 x0, .int .i64 x1, .int .i64 x2, .string ⟨#[]⟩, .string ⟨#[]⟩, .string ⟨#[]⟩, .int .i64 0] 51 7 (.slice fa f.length fc) f.length (ncs f)) := fun W q => by
          have c := cTxt q.dw 32 (by omega)
          rw [hx3] at c
          exact c.mono fun _ _ ⟨he, h1, h2⟩ => ⟨he, q.step h1 h2⟩
        have H4 : Hid (∀ W, De w2 W (w.heap.size + 1) w1.heap.size wr.heap.size d4 #[.string (S id), .slice fa f.length fc, .slice none 0 0] #[.int .i64 x0, .int .i64 x1, .int .i64 x2, .string (S x3), .string ⟨#[]⟩, .string ⟨#[]⟩, .int .i64 0] 51 7 (.slice fa f.length fc) f.length (ncs f) → Calls Tryz.prog 14 #[.pointer (some ⟨w.heap.size + 1, 0, none⟩), .int .i64 32] W fun e w' => e = .returned (.string (S x4)) ∧ De w2 w' (w.heap.size + 1) w1.heap.size wr.heap.size d5 #[.string (S id), .slice fa f.length fc, .slice none 0 0] #[.int .i64 x0, .int .i64 x1, .int .i64 x2, .string (S x3), .string ⟨#[]⟩, .string ⟨#[]⟩, .int .i64 0] 51 7 (.slice fa f.length fc) f.length (ncs f)) := fun W q => by
          have c := cTxt q.dw 32 (by omega)
          rw [hx4] at c
          exact c.mono fun _ _ ⟨he, h1, h2⟩ => ⟨he, q.step h1 h2⟩
        have H5 : Hid (∀ W, De w2 W (w.heap.size + 1) w1.heap.size wr.heap.size d5 #[.string (S id), .slice fa f.length fc, .slice none 0 0] #[.int .i64 x0, .int .i64 x1, .int .i64 x2, .string (S x3), .string (S x4), .string ⟨#[]⟩, .int .i64 0] 51 7 (.slice fa f.length fc) f.length (ncs f) → Calls Tryz.prog 14 #[.pointer (some ⟨w.heap.size + 1, 0, none⟩), .int .i64 512] W fun e w' => e = .returned (.string (S x5)) ∧ De w2 w' (w.heap.size + 1) w1.heap.size wr.heap.size d6 #[.string (S id), .slice fa f.length fc, .slice none 0 0] #[.int .i64 x0, .int .i64 x1, .int .i64 x2, .string (S x3), .string (S x4), .string ⟨#[]⟩, .int .i64 0] 51 7 (.slice fa f.length fc) f.length (ncs f)) := fun W q => by
          have c := cTxt q.dw 512 (by omega)
          rw [hx5] at c
          exact c.mono fun _ _ ⟨he, h1, h2⟩ => ⟨he, q.step h1 h2⟩
        have H6 : Hid (∀ W, De w2 W (w.heap.size + 1) w1.heap.size wr.heap.size d6 #[.string (S id), .slice fa f.length fc, .slice none 0 0] #[.int .i64 x0, .int .i64 x1, .int .i64 x2, .string (S x3), .string (S x4), .string (S x5), .int .i64 0] 51 7 (.slice fa f.length fc) f.length (ncs f) → Calls Tryz.prog 17 #[.pointer (some ⟨w.heap.size + 1, 0, none⟩)] W fun e w' => e = .returned (.int .i64 x6) ∧ De w2 w' (w.heap.size + 1) w1.heap.size wr.heap.size d7 #[.string (S id), .slice fa f.length fc, .slice none 0 0] #[.int .i64 x0, .int .i64 x1, .int .i64 x2, .string (S x3), .string (S x4), .string (S x5), .int .i64 0] 51 7 (.slice fa f.length fc) f.length (ncs f)) := fun W q => by
          have c := cInt q.dw
          rw [hx6] at c
          exact c.mono fun _ _ ⟨he, h1, h2⟩ => ⟨he, q.step h1 h2⟩
        have Q0 : Hid (De w2 (wr.alloc (.cells #[.int .i64 0, .int .i64 0, .int .i64 0, .string ⟨#[]⟩, .string ⟨#[]⟩, .string ⟨#[]⟩, .int .i64 0] 51)) (w.heap.size + 1) w1.heap.size wr.heap.size d #[.string (S id), .slice fa f.length fc, .slice none 0 0] #[.int .i64 0, .int .i64 0, .int .i64 0, .string ⟨#[]⟩, .string ⟨#[]⟩, .string ⟨#[]⟩, .int .i64 0] 51 7 (.slice fa f.length fc) f.length (ncs f)) := De.new HK.out.1 HK.out.2 _
        have HN : Hid ((f ++ [(⟨x0, x1, x2, x3, x4, x5, x6⟩ : Nd)] ++ (dLoop dNode (m1 - (i + 1)) d7).1, (dLoop dNode (m1 - (i + 1)) d7).2) = R1) := by
          show _ = _
          rw [← HP.out, show m1 - i = (m1 - (i + 1)) + 1 by omega, dLoop_go hd, hx]
          simp
        clear HP hd hx hx0 hx1 hx2 hx3 hx4 hx5 hx6
        go_wp2_with (first
          | (go_at_call 16; refine (H0.out _ Q0.out).mono ?_; rintro e w90 ⟨rfl, q0⟩; (have k0 : w90.cell? ⟨wr.heap.size, 0, none⟩ = some (.int .i64 0) := q0.bo.c 0); (have f0 := q0.bo.f 0); (have Q1 : Hid (De w2 (w90.setCell ⟨wr.heap.size, 0, none⟩ (.int .i64 x0)) (w.heap.size + 1) w1.heap.size wr.heap.size d1 #[.string (S id), .slice fa f.length fc, .slice none 0 0] #[.int .i64 x0, .int .i64 0, .int .i64 0, .string ⟨#[]⟩, .string ⟨#[]⟩, .string ⟨#[]⟩, .int .i64 0] 51 7 (.slice fa f.length fc) f.length (ncs f)) := q0.set 0 _); clear q0 Q0 H0)
          | (go_at_call 16; refine (H1.out _ Q1.out).mono ?_; rintro e w91 ⟨rfl, q1⟩; (have k1 : w91.cell? ⟨wr.heap.size, 1, none⟩ = some (.int .i64 0) := q1.bo.c 1); (have f1 := q1.bo.f 1); (have Q2 : Hid (De w2 (w91.setCell ⟨wr.heap.size, 1, none⟩ (.int .i64 x1)) (w.heap.size + 1) w1.heap.size wr.heap.size d2 #[.string (S id), .slice fa f.length fc, .slice none 0 0] #[.int .i64 x0, .int .i64 x1, .int .i64 0, .string ⟨#[]⟩, .string ⟨#[]⟩, .string ⟨#[]⟩, .int .i64 0] 51 7 (.slice fa f.length fc) f.length (ncs f)) := q1.set 1 _); clear q1 Q1 H1 k0 f0)
          | (go_at_call 16; refine (H2.out _ Q2.out).mono ?_; rintro e w92 ⟨rfl, q2⟩; (have k2 : w92.cell? ⟨wr.heap.size, 2, none⟩ = some (.int .i64 0) := q2.bo.c 2); (have f2 := q2.bo.f 2); (have Q3 : Hid (De w2 (w92.setCell ⟨wr.heap.size, 2, none⟩ (.int .i64 x2)) (w.heap.size + 1) w1.heap.size wr.heap.size d3 #[.string (S id), .slice fa f.length fc, .slice none 0 0] #[.int .i64 x0, .int .i64 x1, .int .i64 x2, .string ⟨#[]⟩, .string ⟨#[]⟩, .string ⟨#[]⟩, .int .i64 0] 51 7 (.slice fa f.length fc) f.length (ncs f)) := q2.set 2 _); clear q2 Q2 H2 k1 f1)
          | (go_at_call 14; refine (H3.out _ Q3.out).mono ?_; rintro e w93 ⟨rfl, q3⟩; (have k3 : w93.cell? ⟨wr.heap.size, 3, none⟩ = some (.string ⟨#[]⟩) := q3.bo.c 3); (have f3 := q3.bo.f 3); (have Q4 : Hid (De w2 (w93.setCell ⟨wr.heap.size, 3, none⟩ (.string (S x3))) (w.heap.size + 1) w1.heap.size wr.heap.size d4 #[.string (S id), .slice fa f.length fc, .slice none 0 0] #[.int .i64 x0, .int .i64 x1, .int .i64 x2, .string (S x3), .string ⟨#[]⟩, .string ⟨#[]⟩, .int .i64 0] 51 7 (.slice fa f.length fc) f.length (ncs f)) := q3.set 3 _); clear q3 Q3 H3 k2 f2)
          | (go_at_call 14; refine (H4.out _ Q4.out).mono ?_; rintro e w94 ⟨rfl, q4⟩; (have k4 : w94.cell? ⟨wr.heap.size, 4, none⟩ = some (.string ⟨#[]⟩) := q4.bo.c 4); (have f4 := q4.bo.f 4); (have Q5 : Hid (De w2 (w94.setCell ⟨wr.heap.size, 4, none⟩ (.string (S x4))) (w.heap.size + 1) w1.heap.size wr.heap.size d5 #[.string (S id), .slice fa f.length fc, .slice none 0 0] #[.int .i64 x0, .int .i64 x1, .int .i64 x2, .string (S x3), .string (S x4), .string ⟨#[]⟩, .int .i64 0] 51 7 (.slice fa f.length fc) f.length (ncs f)) := q4.set 4 _); clear q4 Q4 H4 k3 f3)
          | (go_at_call 14; refine (H5.out _ Q5.out).mono ?_; rintro e w95 ⟨rfl, q5⟩; (have k5 : w95.cell? ⟨wr.heap.size, 5, none⟩ = some (.string ⟨#[]⟩) := q5.bo.c 5); (have f5 := q5.bo.f 5); (have Q6 : Hid (De w2 (w95.setCell ⟨wr.heap.size, 5, none⟩ (.string (S x5))) (w.heap.size + 1) w1.heap.size wr.heap.size d6 #[.string (S id), .slice fa f.length fc, .slice none 0 0] #[.int .i64 x0, .int .i64 x1, .int .i64 x2, .string (S x3), .string (S x4), .string (S x5), .int .i64 0] 51 7 (.slice fa f.length fc) f.length (ncs f)) := q5.set 5 _); clear q5 Q5 H5 k4 f4)
          | (go_at_call 17; refine (H6.out _ Q6.out).mono ?_; rintro e w96 ⟨rfl, q6⟩; (have k6 : w96.cell? ⟨wr.heap.size, 6, none⟩ = some (.int .i64 0) := q6.bo.c 6); (have f6 := q6.bo.f 6); (have Q7 : Hid (De w2 (w96.setCell ⟨wr.heap.size, 6, none⟩ (.int .i64 x6)) (w.heap.size + 1) w1.heap.size wr.heap.size d7 #[.string (S id), .slice fa f.length fc, .slice none 0 0] #[.int .i64 x0, .int .i64 x1, .int .i64 x2, .string (S x3), .string (S x4), .string (S x5), .int .i64 x6] 51 7 (.slice fa f.length fc) f.length (ncs f)) := q6.set 6 _); (have pc : w96.cell? ⟨w1.heap.size, 1, none⟩ = some (.slice fa f.length fc) := q6.dw.po.c 1); (have y0 : w96.cell? ⟨wr.heap.size, 0, none⟩ = some (.int .i64 x0) := q6.bo.c 0); (have y1 : w96.cell? ⟨wr.heap.size, 1, none⟩ = some (.int .i64 x1) := q6.bo.c 1); (have y2 : w96.cell? ⟨wr.heap.size, 2, none⟩ = some (.int .i64 x2) := q6.bo.c 2); (have y3 : w96.cell? ⟨wr.heap.size, 3, none⟩ = some (.string (S x3)) := q6.bo.c 3); (have y4 : w96.cell? ⟨wr.heap.size, 4, none⟩ = some (.string (S x4)) := q6.bo.c 4); (have y5 : w96.cell? ⟨wr.heap.size, 5, none⟩ = some (.string (S x5)) := q6.bo.c 5); clear q6 Q6 H6 k5 f5)
          | (at_builtin; refine wpList_append_own _ rfl _ _ 23 rfl w2.heap.size 51 i0 _ 7 80 Tryz.underlying23 hi0 hz0 hz1 hz2 rfl (by decide) _ f.length (ncs f) rfl (Q7.out.row.alloc _) ⟨w96.heap.size, 0, none⟩ 1 1 [.int .i64 x0, .int .i64 x1, .int .i64 x2, .string (S x3), .string (S x4), .string (S x5), .int .i64 x6] rfl rfl (new_many _ _ (by simp) #[.int .i64 x0, .int .i64 x1, .int .i64 x2, .string (S x3), .string (S x4), .string (S x5), .int .i64 x6] _) (by simp [Value.oneCell']) (by unfold maxLen; omega) (by omega) (by have := Q7.out.dw.ch.size; simp at this; simp; omega) ?_; intro v5 w5 ho5 hg5 _; (have HG5 := Q7.out.grown hg5 ho5 1); (have g5 : w5.cell? ⟨w1.heap.size, 1, none⟩ = some (.slice fa f.length fc) := HG5.2.2.c 1); (have f5 := HG5.2.2.f 1); obtain ⟨a5, c5', rfl, -⟩ := row_slice ho5; (have HH5 : Hid _ := And.intro HG5.1 HG5.2.1); clear ho5 hg5 HG5))
        go_roundw
        case rel =>
          have hlen : (f ++ [(⟨x0, x1, x2, x3, x4, x5, x6⟩ : Nd)]).length = f.length + 1 := by rw [List.length_append, List.length_singleton]
          refine ⟨i + 1, f ++ [(⟨x0, x1, x2, x3, x4, x5, x6⟩ : Nd)], a5, c5', d7, by simp, by omega, by rw [hlen, HFL.out], ?_, HN.out⟩
          rw [hlen, ncs_snoc]
          exact HH5.out
        case measure => simp [intOf]; omega
      · have hE : ((d.2 : Int) == 0) = false := beq_eq_false_iff_ne.2 (by omega)
        have HE : Hid (R1 = (f, d)) := by show _ = _; rw [← HP.out, dLoop_stop hd]; simp
        clear HP hd
        have HL0 : Hid (R1 = (f, d)) := HE.out
        obtain ⟨m2, d4, h4⟩ : ∃ m2 d4, dCnt 80 d = (m2, d4) := ⟨_, _, rfl⟩
        obtain ⟨R2, hR2⟩ : ∃ R, dLoop dFlow m2 d4 = R := ⟨_, rfl⟩
        have hm2 : m2 ≤ 80 := by have := (dCnt_le 80 d).2; rw [h4] at this; exact this
        have HR2 : Hid ((([] : List Fl) ++ (dLoop dFlow m2 d4).1, (dLoop dFlow m2 d4).2) = R2) := by show _ = _; rw [hR2]; rfl
        have HFIN : Hid (∀ q, R2 = q → ∀ er, endOf q.2.1 q.2.2 = er → dkP l = if er ≠ 0 then (p0, (er : Int)) else (⟨id, f, q.1⟩, 0)) := fun q hq er her => by
          subst hq
          have hp : dProc (l, 0) = (⟨id, f, R2.1⟩, R2.2) := by
            unfold dProc
            simp only [h1, h2, hR1]
            rw [HL0.out]
            simp only [h4, hR2]
          unfold dkP
          rw [if_neg hlong, hp]
          simp only
          rw [her]
        have CC := cCnt HK.out.1 80 (by omega)
        rw [h4] at CC
        obtain ⟨L, hLL⟩ : ∃ L, f = L := ⟨_, rfl⟩
        have HK1 := HK.out
        rw [hLL] at HK1 HFIN
        obtain ⟨na, nc, hna⟩ : ∃ na nc, (fa, fc) = (na, nc) := ⟨_, _, rfl⟩
        cases hna
        have HS3 : Hid (∀ w3, Dw w2 w3 (w.heap.size + 1) w1.heap.size d4 #[.string (S id), .slice fa L.length fc, .slice none 0 0] → But (w.heap.size + 1) wr w3 → Dw w3 w3 (w.heap.size + 1) w1.heap.size d4 #[.string (S id), .slice fa L.length fc, .slice none 0 0] ∧ w3.ownsRow w2.heap.size 51 7 (.slice fa L.length fc) L.length (ncs L) ∧ Below w.heap.size w w3 ∧ Bo 26 w3 w.heap.size #[.string ⟨#[]⟩, .slice none 0 0, .slice none 0 0] ∧ w2.heap.size ≤ w3.heap.size) := fun w3 h5 h6 => by
          have hk := h5.keep HB2.out.1 HB2.out.2 (by omega) hwp.out
          exact ⟨Dw.start h5.rd h5.le h5.po h5.ne, (but_ch (X := fun k => k = w.heap.size + 1) h6 rfl).row HK1.2 (fun k hk e => by have h7 := (World.ownsRow.lt HK1.2 k hk).1; have h8 := hb2.out; omega), hk.1, hk.2, h5.ch.size⟩
        rw [hLL] at CC
        clear hR1 HE HL0 HR1
        go_wp2_with (go_at_call 15; refine CC.mono ?_; rintro e w3 ⟨rfl, q3, b3⟩; (have HS := HS3.out w3 q3 b3); (have HC : Hid (Dw w3 w3 (w.heap.size + 1) w1.heap.size d4 #[.string (S id), .slice fa L.length fc, .slice none 0 0]) := HS.1); (have HN3 : Hid (w3.ownsRow w2.heap.size 51 7 (.slice fa L.length fc) L.length (ncs L)) := HS.2.1); (have HB3 : Hid (Below w.heap.size w w3 ∧ Bo 26 w3 w.heap.size #[.string ⟨#[]⟩, .slice none 0 0, .slice none 0 0]) := ⟨HS.2.2.1, HS.2.2.2.1⟩); (have hb3 : Hid (w2.heap.size ≤ w3.heap.size) := HS.2.2.2.2); clear q3 b3 HS CC)
        clear ce HK HFL hfl HK1 hLL
        obtain ⟨na, hna⟩ : ∃ na, fa = na := ⟨_, rfl⟩
        obtain ⟨nc, hnc⟩ : ∃ nc, fc = nc := ⟨_, rfl⟩
        rw [hna, hnc] at HC HN3
        clear hna hnc HS3
        go_loopw [9] (fun vi wr => ∃ (i : Nat) (f : List Fl) (fa : Option Addr) (fc : Nat) (d : Ds), vi = .int .i64 (i : Int) ∧ i ≤ m2 ∧ f.length = i ∧ Hid (Dw w3 wr (w.heap.size + 1) w1.heap.size d #[.string (S id), .slice na L.length nc, .slice fa f.length fc] ∧ wr.ownsRow w3.heap.size 55 3 (.slice fa f.length fc) f.length (fcs f)) ∧ Hid ((f ++ (dLoop dFlow (m2 - i) d).1, (dLoop dFlow (m2 - i) d).2) = R2)) (fun vi _ => m2 - (intOf vi).toNat)
        case atStart => exact ⟨0, [], none, 0, _, rfl, Nat.zero_le _, rfl, ⟨HC.out, ⟨rfl, .inl ⟨rfl, rfl⟩⟩⟩, by show _ = _; rw [Nat.sub_zero]; exact HR2.out⟩
        case round =>
          obtain ⟨i, f, fa, fc, d, rfl, hi, hf, HK, HP⟩ := hrel
          have HFL : Hid (f.length = i) := hf
          have hfl : f.length ≤ 100 := by omega
          clear hf
          have ce := HK.out.1.rd.err
          by_cases hil : i < m2
          · have hil' : (i : Int) < (m2 : Int) := by omega
            by_cases hd : d.2 = 0
            · rw [hd] at ce
              have hne2 : w1.heap.size < wr.heap.size := by have h8 := HK.out.1.l2; have h9 := HK.out.1.ch.size; omega
              have hne : ¬ w1.heap.size = wr.heap.size := by omega
              obtain ⟨x0, d1, hx0⟩ : ∃ x d1, dNum d = (x, d1) := ⟨_, _, rfl⟩
              obtain ⟨x1, d2, hx1⟩ : ∃ x d2, dNum d1 = (x, d2) := ⟨_, _, rfl⟩
              obtain ⟨x2, d3, hx2⟩ : ∃ x d3, dTxt 512 d2 = (x, d3) := ⟨_, _, rfl⟩
              have hx : dFlow d = ((⟨x0, x1, x2⟩ : Fl), d3) := by unfold dFlow; simp only [hx0, hx1, hx2]
              have H0 : Hid (∀ W, De w3 W (w.heap.size + 1) w1.heap.size wr.heap.size d #[.string (S id), .slice na L.length nc, .slice fa f.length fc] #[.int .i64 0, .int .i64 0, .string ⟨#[]⟩] 55 3 (.slice fa f.length fc) f.length (fcs f) → Calls Tryz.prog 16 #[.pointer (some ⟨w.heap.size + 1, 0, none⟩)] W fun e w' => e = .returned (.int .i64 x0) ∧ De w3 w' (w.heap.size + 1) w1.heap.size wr.heap.size d1 #[.string (S id), .slice na L.length nc, .slice fa f.length fc] #[.int .i64 0, .int .i64 0, .string ⟨#[]⟩] 55 3 (.slice fa f.length fc) f.length (fcs f)) := fun W q => by
                have c := cNum q.dw
                rw [hx0] at c
                exact c.mono fun _ _ ⟨he, h1, h2⟩ => ⟨he, q.step h1 h2⟩
              have H1 : Hid (∀ W, De w3 W (w.heap.size + 1) w1.heap.size wr.heap.size d1 #[.string (S id), .slice na L.length nc, .slice fa f.length fc] #[.int .i64 x0, .int .i64 0, .string ⟨#[]⟩] 55 3 (.slice fa f.length fc) f.length (fcs f) → Calls Tryz.prog 16 #[.pointer (some ⟨w.heap.size + 1, 0, none⟩)] W fun e w' => e = .returned (.int .i64 x1) ∧ De w3 w' (w.heap.size + 1) w1.heap.size wr.heap.size d2 #[.string (S id), .slice na L.length nc, .slice fa f.length fc] #[.int .i64 x0, .int .i64 0, .string ⟨#[]⟩] 55 3 (.slice fa f.length fc) f.length (fcs f)) := fun W q => by
                have c := cNum q.dw
                rw [hx1] at c
                exact c.mono fun _ _ ⟨he, h1, h2⟩ => ⟨he, q.step h1 h2⟩
              have H2 : Hid (∀ W, De w3 W (w.heap.size + 1) w1.heap.size wr.heap.size d2 #[.string (S id), .slice na L.length nc, .slice fa f.length fc] #[.int .i64 x0, .int .i64 x1, .string ⟨#[]⟩] 55 3 (.slice fa f.length fc) f.length (fcs f) → Calls Tryz.prog 14 #[.pointer (some ⟨w.heap.size + 1, 0, none⟩), .int .i64 512] W fun e w' => e = .returned (.string (S x2)) ∧ De w3 w' (w.heap.size + 1) w1.heap.size wr.heap.size d3 #[.string (S id), .slice na L.length nc, .slice fa f.length fc] #[.int .i64 x0, .int .i64 x1, .string ⟨#[]⟩] 55 3 (.slice fa f.length fc) f.length (fcs f)) := fun W q => by
                have c := cTxt q.dw 512 (by omega)
                rw [hx2] at c
                exact c.mono fun _ _ ⟨he, h1, h2⟩ => ⟨he, q.step h1 h2⟩
              have Q0 : Hid (De w3 (wr.alloc (.cells #[.int .i64 0, .int .i64 0, .string ⟨#[]⟩] 55)) (w.heap.size + 1) w1.heap.size wr.heap.size d #[.string (S id), .slice na L.length nc, .slice fa f.length fc] #[.int .i64 0, .int .i64 0, .string ⟨#[]⟩] 55 3 (.slice fa f.length fc) f.length (fcs f)) := De.new HK.out.1 HK.out.2 _
              have HN : Hid ((f ++ [(⟨x0, x1, x2⟩ : Fl)] ++ (dLoop dFlow (m2 - (i + 1)) d3).1, (dLoop dFlow (m2 - (i + 1)) d3).2) = R2) := by
                show _ = _
                rw [← HP.out, show m2 - i = (m2 - (i + 1)) + 1 by omega, dLoop_go hd, hx]
                simp
              clear HP hd hx hx0 hx1 hx2
              go_wp2_with (first
                | (go_at_call 16; refine (H0.out _ Q0.out).mono ?_; rintro e w90 ⟨rfl, q0⟩; (have k0 : w90.cell? ⟨wr.heap.size, 0, none⟩ = some (.int .i64 0) := q0.bo.c 0); (have f0 := q0.bo.f 0); (have Q1 : Hid (De w3 (w90.setCell ⟨wr.heap.size, 0, none⟩ (.int .i64 x0)) (w.heap.size + 1) w1.heap.size wr.heap.size d1 #[.string (S id), .slice na L.length nc, .slice fa f.length fc] #[.int .i64 x0, .int .i64 0, .string ⟨#[]⟩] 55 3 (.slice fa f.length fc) f.length (fcs f)) := q0.set 0 _); clear q0 Q0 H0)
                | (go_at_call 16; refine (H1.out _ Q1.out).mono ?_; rintro e w91 ⟨rfl, q1⟩; (have k1 : w91.cell? ⟨wr.heap.size, 1, none⟩ = some (.int .i64 0) := q1.bo.c 1); (have f1 := q1.bo.f 1); (have Q2 : Hid (De w3 (w91.setCell ⟨wr.heap.size, 1, none⟩ (.int .i64 x1)) (w.heap.size + 1) w1.heap.size wr.heap.size d2 #[.string (S id), .slice na L.length nc, .slice fa f.length fc] #[.int .i64 x0, .int .i64 x1, .string ⟨#[]⟩] 55 3 (.slice fa f.length fc) f.length (fcs f)) := q1.set 1 _); clear q1 Q1 H1 k0 f0)
                | (go_at_call 14; refine (H2.out _ Q2.out).mono ?_; rintro e w92 ⟨rfl, q2⟩; (have k2 : w92.cell? ⟨wr.heap.size, 2, none⟩ = some (.string ⟨#[]⟩) := q2.bo.c 2); (have f2 := q2.bo.f 2); (have Q3 : Hid (De w3 (w92.setCell ⟨wr.heap.size, 2, none⟩ (.string (S x2))) (w.heap.size + 1) w1.heap.size wr.heap.size d3 #[.string (S id), .slice na L.length nc, .slice fa f.length fc] #[.int .i64 x0, .int .i64 x1, .string (S x2)] 55 3 (.slice fa f.length fc) f.length (fcs f)) := q2.set 2 _); (have pc : w92.cell? ⟨w1.heap.size, 2, none⟩ = some (.slice fa f.length fc) := q2.dw.po.c 2); (have y0 : w92.cell? ⟨wr.heap.size, 0, none⟩ = some (.int .i64 x0) := q2.bo.c 0); (have y1 : w92.cell? ⟨wr.heap.size, 1, none⟩ = some (.int .i64 x1) := q2.bo.c 1); clear q2 Q2 H2 k1 f1)
                | (at_builtin; refine wpList_append_own _ rfl _ _ 24 rfl w3.heap.size 55 j0 _ 3 32 Tryz.underlying24 hj0 hy0 hy1 hy2 rfl (by decide) _ f.length (fcs f) rfl (Q3.out.row.alloc _) ⟨w92.heap.size, 0, none⟩ 1 1 [.int .i64 x0, .int .i64 x1, .string (S x2)] rfl rfl (new_many _ _ (by simp) #[.int .i64 x0, .int .i64 x1, .string (S x2)] _) (by simp [Value.oneCell']) (by unfold maxLen; omega) (by omega) (by have := Q3.out.dw.ch.size; simp at this; simp; omega) ?_; intro v5 w5 ho5 hg5 _; (have HG5 := Q3.out.grown hg5 ho5 2); (have g5 : w5.cell? ⟨w1.heap.size, 2, none⟩ = some (.slice fa f.length fc) := HG5.2.2.c 2); (have f5 := HG5.2.2.f 2); obtain ⟨a5, c5', rfl, -⟩ := row_slice ho5; (have HH5 : Hid _ := And.intro HG5.1 HG5.2.1); clear ho5 hg5 HG5))
              go_roundw
              case rel =>
                have hlen : (f ++ [(⟨x0, x1, x2⟩ : Fl)]).length = f.length + 1 := by rw [List.length_append, List.length_singleton]
                refine ⟨i + 1, f ++ [(⟨x0, x1, x2⟩ : Fl)], a5, c5', d3, by simp, by omega, by rw [hlen, HFL.out], ?_, HN.out⟩
                rw [hlen, fcs_snoc]
                exact HH5.out
              case measure => simp [intOf]; omega
            · have hE : ((d.2 : Int) == 0) = false := beq_eq_false_iff_ne.2 (by omega)
              have HE : Hid (R2 = (f, d)) := by show _ = _; rw [← HP.out, dLoop_stop hd]; simp
              clear HP hd
              have HZ : Hid (R2 = (f, d)) := HE.out
              have hkeep := HK.out.1.keep HB3.out.1 HB3.out.2 (by omega) hwp.out
              have nrow : Hid (wr.ownsRow w2.heap.size 51 7 (.slice na L.length nc) L.length (ncs L)) := HK.out.1.ch.row HN3.out (fun k hk e => by have h5 := (World.ownsRow.lt HN3.out k hk).1; have h6 := hb2.out; omega)
              have HKP : Hid _ := hkeep
              obtain ⟨er, her⟩ : ∃ er, endOf d.1 d.2 = er := ⟨_, rfl⟩
              have CE := rEnd_any HK.out.1.rd
              rw [her] at CE
              have HFN : Hid (dkP l = if er ≠ 0 then (p0, (er : Int)) else (⟨id, L, f⟩, 0)) := HFIN.out (f, d) HZ.out er her
              have g0 : wr.cell? ⟨w.heap.size, 0, none⟩ = some (.string ⟨#[]⟩) := HKP.out.2.c 0
              have g1 : wr.cell? ⟨w.heap.size, 1, none⟩ = some (.slice none 0 0) := HKP.out.2.c 1
              have g2 : wr.cell? ⟨w.heap.size, 2, none⟩ = some (.slice none 0 0) := HKP.out.2.c 2
              have z0 := HKP.out.2.f 0
              have z1 := HKP.out.2.f 1
              have z2 := HKP.out.2.f 2
              have p0' : wr.cell? ⟨w1.heap.size, 0, none⟩ = some (.string (S id)) := HK.out.1.po.c 0
              have p1' : wr.cell? ⟨w1.heap.size, 1, none⟩ = some (.slice na L.length nc) := HK.out.1.po.c 1
              have p2' : wr.cell? ⟨w1.heap.size, 2, none⟩ = some (.slice fa f.length fc) := HK.out.1.po.c 2
              have HPO : Hid (∀ x y z, Po (((wr.setCell ⟨w.heap.size, 0, none⟩ x).setCell ⟨w.heap.size, 1, none⟩ y).setCell ⟨w.heap.size, 2, none⟩ z) (.slice na L.length nc) (.slice fa f.length fc) ⟨id, L, f⟩) := fun x y z => ⟨row_Node (row_far (row_far (row_far nrow.out (by have := hb2.out; omega) 0 x) (by have := hb2.out; omega) 1 y) (by have := hb2.out; omega) 2 z), row_Flow (row_far (row_far (row_far HK.out.2 (by have := hb2.out; have := hb3.out; omega) 0 x) (by have := hb2.out; have := hb3.out; omega) 1 y) (by have := hb2.out; have := hb3.out; omega) 2 z)⟩
              have HBE : Hid (∀ x y z, Below w.heap.size w (((wr.setCell ⟨w.heap.size, 0, none⟩ x).setCell ⟨w.heap.size, 1, none⟩ y).setCell ⟨w.heap.size, 2, none⟩ z)) := fun x y z => set3 HKP.out.1 (Nat.le_refl _)
              clear hkeep HE her
              by_cases h0 : er = 0
              · subst h0
                go_wp2_with (go_at_call 18; refine CE.mono ?_; rintro e w8 ⟨rfl, hw8⟩; rw [hw8]; clear hw8 w8 CE)
                rw [HFN.out]
                exact bodyPost_ret (v := .tuple #[.agg #[.string (S id), .slice na L.length nc, .slice fa f.length fc], .int .i64 0]) (by simp [results, Tryz.results6, go_sem, g0, g1, g2]) rfl ⟨na, nc, fa, fc, rfl, HPO.out _ _ _, HBE.out _ _ _⟩
              · have hb8 : ((er : Int) != 0) = true := bne_iff_ne.2 (by omega)
                have HF2 : Hid (dkP l = (p0, (er : Int))) := HFN.out.trans (by rw [if_pos h0])
                go_wp2_with (go_at_call 18; refine CE.mono ?_; rintro e w8 ⟨rfl, hw8⟩; rw [hw8]; clear hw8 w8 CE)
                rw [HF2.out]
                exact bodyPost_ret (v := .tuple #[.agg #[.string ⟨#[]⟩, .slice none 0 0, .slice none 0 0], .int .i64 (er : Int)]) (by simp [results, Tryz.results6, go_sem, g0, g1, g2]) rfl ⟨none, 0, none, 0, rfl, ⟨Ns.nil _, Fs.nil _⟩, HBE.out _ _ _⟩
          · have hil' : ¬ (i : Int) < (m2 : Int) := by omega
            obtain rfl : i = m2 := by omega
            have HE : Hid (R2 = (f, d)) := by show _ = _; rw [← HP.out, Nat.sub_self]; simp [dLoop]
            clear HP
            have HZ : Hid (R2 = (f, d)) := HE.out
            have hkeep := HK.out.1.keep HB3.out.1 HB3.out.2 (by omega) hwp.out
            have nrow : Hid (wr.ownsRow w2.heap.size 51 7 (.slice na L.length nc) L.length (ncs L)) := HK.out.1.ch.row HN3.out (fun k hk e => by have h5 := (World.ownsRow.lt HN3.out k hk).1; have h6 := hb2.out; omega)
            have HKP : Hid _ := hkeep
            obtain ⟨er, her⟩ : ∃ er, endOf d.1 d.2 = er := ⟨_, rfl⟩
            have CE := rEnd_any HK.out.1.rd
            rw [her] at CE
            have HFN : Hid (dkP l = if er ≠ 0 then (p0, (er : Int)) else (⟨id, L, f⟩, 0)) := HFIN.out (f, d) HZ.out er her
            have g0 : wr.cell? ⟨w.heap.size, 0, none⟩ = some (.string ⟨#[]⟩) := HKP.out.2.c 0
            have g1 : wr.cell? ⟨w.heap.size, 1, none⟩ = some (.slice none 0 0) := HKP.out.2.c 1
            have g2 : wr.cell? ⟨w.heap.size, 2, none⟩ = some (.slice none 0 0) := HKP.out.2.c 2
            have z0 := HKP.out.2.f 0
            have z1 := HKP.out.2.f 1
            have z2 := HKP.out.2.f 2
            have p0' : wr.cell? ⟨w1.heap.size, 0, none⟩ = some (.string (S id)) := HK.out.1.po.c 0
            have p1' : wr.cell? ⟨w1.heap.size, 1, none⟩ = some (.slice na L.length nc) := HK.out.1.po.c 1
            have p2' : wr.cell? ⟨w1.heap.size, 2, none⟩ = some (.slice fa f.length fc) := HK.out.1.po.c 2
            have HPO : Hid (∀ x y z, Po (((wr.setCell ⟨w.heap.size, 0, none⟩ x).setCell ⟨w.heap.size, 1, none⟩ y).setCell ⟨w.heap.size, 2, none⟩ z) (.slice na L.length nc) (.slice fa f.length fc) ⟨id, L, f⟩) := fun x y z => ⟨row_Node (row_far (row_far (row_far nrow.out (by have := hb2.out; omega) 0 x) (by have := hb2.out; omega) 1 y) (by have := hb2.out; omega) 2 z), row_Flow (row_far (row_far (row_far HK.out.2 (by have := hb2.out; have := hb3.out; omega) 0 x) (by have := hb2.out; have := hb3.out; omega) 1 y) (by have := hb2.out; have := hb3.out; omega) 2 z)⟩
            have HBE : Hid (∀ x y z, Below w.heap.size w (((wr.setCell ⟨w.heap.size, 0, none⟩ x).setCell ⟨w.heap.size, 1, none⟩ y).setCell ⟨w.heap.size, 2, none⟩ z)) := fun x y z => set3 HKP.out.1 (Nat.le_refl _)
            clear hkeep HE her
            by_cases h0 : er = 0
            · subst h0
              go_wp2_with (go_at_call 18; refine CE.mono ?_; rintro e w8 ⟨rfl, hw8⟩; rw [hw8]; clear hw8 w8 CE)
              rw [HFN.out]
              exact bodyPost_ret (v := .tuple #[.agg #[.string (S id), .slice na L.length nc, .slice fa f.length fc], .int .i64 0]) (by simp [results, Tryz.results6, go_sem, g0, g1, g2]) rfl ⟨na, nc, fa, fc, rfl, HPO.out _ _ _, HBE.out _ _ _⟩
            · have hb8 : ((er : Int) != 0) = true := bne_iff_ne.2 (by omega)
              have HF2 : Hid (dkP l = (p0, (er : Int))) := HFN.out.trans (by rw [if_pos h0])
              go_wp2_with (go_at_call 18; refine CE.mono ?_; rintro e w8 ⟨rfl, hw8⟩; rw [hw8]; clear hw8 w8 CE)
              rw [HF2.out]
              exact bodyPost_ret (v := .tuple #[.agg #[.string ⟨#[]⟩, .slice none 0 0, .slice none 0 0], .int .i64 (er : Int)]) (by simp [results, Tryz.results6, go_sem, g0, g1, g2]) rfl ⟨none, 0, none, 0, rfl, ⟨Ns.nil _, Fs.nil _⟩, HBE.out _ _ _⟩
    · have hil' : ¬ (i : Int) < (m1 : Int) := by omega
      obtain rfl : i = m1 := by omega
      have HE : Hid (R1 = (f, d)) := by show _ = _; rw [← HP.out, Nat.sub_self]; simp [dLoop]
      clear HP
      have HL0 : Hid (R1 = (f, d)) := HE.out
      obtain ⟨m2, d4, h4⟩ : ∃ m2 d4, dCnt 80 d = (m2, d4) := ⟨_, _, rfl⟩
      obtain ⟨R2, hR2⟩ : ∃ R, dLoop dFlow m2 d4 = R := ⟨_, rfl⟩
      have hm2 : m2 ≤ 80 := by have := (dCnt_le 80 d).2; rw [h4] at this; exact this
      have HR2 : Hid ((([] : List Fl) ++ (dLoop dFlow m2 d4).1, (dLoop dFlow m2 d4).2) = R2) := by show _ = _; rw [hR2]; rfl
      have HFIN : Hid (∀ q, R2 = q → ∀ er, endOf q.2.1 q.2.2 = er → dkP l = if er ≠ 0 then (p0, (er : Int)) else (⟨id, f, q.1⟩, 0)) := fun q hq er her => by
        subst hq
        have hp : dProc (l, 0) = (⟨id, f, R2.1⟩, R2.2) := by
          unfold dProc
          simp only [h1, h2, hR1]
          rw [HL0.out]
          simp only [h4, hR2]
        unfold dkP
        rw [if_neg hlong, hp]
        simp only
        rw [her]
      have CC := cCnt HK.out.1 80 (by omega)
      rw [h4] at CC
      obtain ⟨L, hLL⟩ : ∃ L, f = L := ⟨_, rfl⟩
      have HK1 := HK.out
      rw [hLL] at HK1 HFIN
      obtain ⟨na, nc, hna⟩ : ∃ na nc, (fa, fc) = (na, nc) := ⟨_, _, rfl⟩
      cases hna
      have HS3 : Hid (∀ w3, Dw w2 w3 (w.heap.size + 1) w1.heap.size d4 #[.string (S id), .slice fa L.length fc, .slice none 0 0] → But (w.heap.size + 1) wr w3 → Dw w3 w3 (w.heap.size + 1) w1.heap.size d4 #[.string (S id), .slice fa L.length fc, .slice none 0 0] ∧ w3.ownsRow w2.heap.size 51 7 (.slice fa L.length fc) L.length (ncs L) ∧ Below w.heap.size w w3 ∧ Bo 26 w3 w.heap.size #[.string ⟨#[]⟩, .slice none 0 0, .slice none 0 0] ∧ w2.heap.size ≤ w3.heap.size) := fun w3 h5 h6 => by
        have hk := h5.keep HB2.out.1 HB2.out.2 (by omega) hwp.out
        exact ⟨Dw.start h5.rd h5.le h5.po h5.ne, (but_ch (X := fun k => k = w.heap.size + 1) h6 rfl).row HK1.2 (fun k hk e => by have h7 := (World.ownsRow.lt HK1.2 k hk).1; have h8 := hb2.out; omega), hk.1, hk.2, h5.ch.size⟩
      rw [hLL] at CC
      clear hR1 HE HL0 HR1
      go_wp2_with (go_at_call 15; refine CC.mono ?_; rintro e w3 ⟨rfl, q3, b3⟩; (have HS := HS3.out w3 q3 b3); (have HC : Hid (Dw w3 w3 (w.heap.size + 1) w1.heap.size d4 #[.string (S id), .slice fa L.length fc, .slice none 0 0]) := HS.1); (have HN3 : Hid (w3.ownsRow w2.heap.size 51 7 (.slice fa L.length fc) L.length (ncs L)) := HS.2.1); (have HB3 : Hid (Below w.heap.size w w3 ∧ Bo 26 w3 w.heap.size #[.string ⟨#[]⟩, .slice none 0 0, .slice none 0 0]) := ⟨HS.2.2.1, HS.2.2.2.1⟩); (have hb3 : Hid (w2.heap.size ≤ w3.heap.size) := HS.2.2.2.2); clear q3 b3 HS CC)
      clear ce HK HFL hfl HK1 hLL
      obtain ⟨na, hna⟩ : ∃ na, fa = na := ⟨_, rfl⟩
      obtain ⟨nc, hnc⟩ : ∃ nc, fc = nc := ⟨_, rfl⟩
      rw [hna, hnc] at HC HN3
      clear hna hnc HS3
      go_loopw [9] (fun vi wr => ∃ (i : Nat) (f : List Fl) (fa : Option Addr) (fc : Nat) (d : Ds), vi = .int .i64 (i : Int) ∧ i ≤ m2 ∧ f.length = i ∧ Hid (Dw w3 wr (w.heap.size + 1) w1.heap.size d #[.string (S id), .slice na L.length nc, .slice fa f.length fc] ∧ wr.ownsRow w3.heap.size 55 3 (.slice fa f.length fc) f.length (fcs f)) ∧ Hid ((f ++ (dLoop dFlow (m2 - i) d).1, (dLoop dFlow (m2 - i) d).2) = R2)) (fun vi _ => m2 - (intOf vi).toNat)
      case atStart => exact ⟨0, [], none, 0, _, rfl, Nat.zero_le _, rfl, ⟨HC.out, ⟨rfl, .inl ⟨rfl, rfl⟩⟩⟩, by show _ = _; rw [Nat.sub_zero]; exact HR2.out⟩
      case round =>
        obtain ⟨i, f, fa, fc, d, rfl, hi, hf, HK, HP⟩ := hrel
        have HFL : Hid (f.length = i) := hf
        have hfl : f.length ≤ 100 := by omega
        clear hf
        have ce := HK.out.1.rd.err
        by_cases hil : i < m2
        · have hil' : (i : Int) < (m2 : Int) := by omega
          by_cases hd : d.2 = 0
          · rw [hd] at ce
            have hne2 : w1.heap.size < wr.heap.size := by have h8 := HK.out.1.l2; have h9 := HK.out.1.ch.size; omega
            have hne : ¬ w1.heap.size = wr.heap.size := by omega
            obtain ⟨x0, d1, hx0⟩ : ∃ x d1, dNum d = (x, d1) := ⟨_, _, rfl⟩
            obtain ⟨x1, d2, hx1⟩ : ∃ x d2, dNum d1 = (x, d2) := ⟨_, _, rfl⟩
            obtain ⟨x2, d3, hx2⟩ : ∃ x d3, dTxt 512 d2 = (x, d3) := ⟨_, _, rfl⟩
            have hx : dFlow d = ((⟨x0, x1, x2⟩ : Fl), d3) := by unfold dFlow; simp only [hx0, hx1, hx2]
            have H0 : Hid (∀ W, De w3 W (w.heap.size + 1) w1.heap.size wr.heap.size d #[.string (S id), .slice na L.length nc, .slice fa f.length fc] #[.int .i64 0, .int .i64 0, .string ⟨#[]⟩] 55 3 (.slice fa f.length fc) f.length (fcs f) → Calls Tryz.prog 16 #[.pointer (some ⟨w.heap.size + 1, 0, none⟩)] W fun e w' => e = .returned (.int .i64 x0) ∧ De w3 w' (w.heap.size + 1) w1.heap.size wr.heap.size d1 #[.string (S id), .slice na L.length nc, .slice fa f.length fc] #[.int .i64 0, .int .i64 0, .string ⟨#[]⟩] 55 3 (.slice fa f.length fc) f.length (fcs f)) := fun W q => by
              have c := cNum q.dw
              rw [hx0] at c
              exact c.mono fun _ _ ⟨he, h1, h2⟩ => ⟨he, q.step h1 h2⟩
            have H1 : Hid (∀ W, De w3 W (w.heap.size + 1) w1.heap.size wr.heap.size d1 #[.string (S id), .slice na L.length nc, .slice fa f.length fc] #[.int .i64 x0, .int .i64 0, .string ⟨#[]⟩] 55 3 (.slice fa f.length fc) f.length (fcs f) → Calls Tryz.prog 16 #[.pointer (some ⟨w.heap.size + 1, 0, none⟩)] W fun e w' => e = .returned (.int .i64 x1) ∧ De w3 w' (w.heap.size + 1) w1.heap.size wr.heap.size d2 #[.string (S id), .slice na L.length nc, .slice fa f.length fc] #[.int .i64 x0, .int .i64 0, .string ⟨#[]⟩] 55 3 (.slice fa f.length fc) f.length (fcs f)) := fun W q => by
              have c := cNum q.dw
              rw [hx1] at c
              exact c.mono fun _ _ ⟨he, h1, h2⟩ => ⟨he, q.step h1 h2⟩
            have H2 : Hid (∀ W, De w3 W (w.heap.size + 1) w1.heap.size wr.heap.size d2 #[.string (S id), .slice na L.length nc, .slice fa f.length fc] #[.int .i64 x0, .int .i64 x1, .string ⟨#[]⟩] 55 3 (.slice fa f.length fc) f.length (fcs f) → Calls Tryz.prog 14 #[.pointer (some ⟨w.heap.size + 1, 0, none⟩), .int .i64 512] W fun e w' => e = .returned (.string (S x2)) ∧ De w3 w' (w.heap.size + 1) w1.heap.size wr.heap.size d3 #[.string (S id), .slice na L.length nc, .slice fa f.length fc] #[.int .i64 x0, .int .i64 x1, .string ⟨#[]⟩] 55 3 (.slice fa f.length fc) f.length (fcs f)) := fun W q => by
              have c := cTxt q.dw 512 (by omega)
              rw [hx2] at c
              exact c.mono fun _ _ ⟨he, h1, h2⟩ => ⟨he, q.step h1 h2⟩
            have Q0 : Hid (De w3 (wr.alloc (.cells #[.int .i64 0, .int .i64 0, .string ⟨#[]⟩] 55)) (w.heap.size + 1) w1.heap.size wr.heap.size d #[.string (S id), .slice na L.length nc, .slice fa f.length fc] #[.int .i64 0, .int .i64 0, .string ⟨#[]⟩] 55 3 (.slice fa f.length fc) f.length (fcs f)) := De.new HK.out.1 HK.out.2 _
            have HN : Hid ((f ++ [(⟨x0, x1, x2⟩ : Fl)] ++ (dLoop dFlow (m2 - (i + 1)) d3).1, (dLoop dFlow (m2 - (i + 1)) d3).2) = R2) := by
              show _ = _
              rw [← HP.out, show m2 - i = (m2 - (i + 1)) + 1 by omega, dLoop_go hd, hx]
              simp
            clear HP hd hx hx0 hx1 hx2
            go_wp2_with (first
              | (go_at_call 16; refine (H0.out _ Q0.out).mono ?_; rintro e w90 ⟨rfl, q0⟩; (have k0 : w90.cell? ⟨wr.heap.size, 0, none⟩ = some (.int .i64 0) := q0.bo.c 0); (have f0 := q0.bo.f 0); (have Q1 : Hid (De w3 (w90.setCell ⟨wr.heap.size, 0, none⟩ (.int .i64 x0)) (w.heap.size + 1) w1.heap.size wr.heap.size d1 #[.string (S id), .slice na L.length nc, .slice fa f.length fc] #[.int .i64 x0, .int .i64 0, .string ⟨#[]⟩] 55 3 (.slice fa f.length fc) f.length (fcs f)) := q0.set 0 _); clear q0 Q0 H0)
              | (go_at_call 16; refine (H1.out _ Q1.out).mono ?_; rintro e w91 ⟨rfl, q1⟩; (have k1 : w91.cell? ⟨wr.heap.size, 1, none⟩ = some (.int .i64 0) := q1.bo.c 1); (have f1 := q1.bo.f 1); (have Q2 : Hid (De w3 (w91.setCell ⟨wr.heap.size, 1, none⟩ (.int .i64 x1)) (w.heap.size + 1) w1.heap.size wr.heap.size d2 #[.string (S id), .slice na L.length nc, .slice fa f.length fc] #[.int .i64 x0, .int .i64 x1, .string ⟨#[]⟩] 55 3 (.slice fa f.length fc) f.length (fcs f)) := q1.set 1 _); clear q1 Q1 H1 k0 f0)
              | (go_at_call 14; refine (H2.out _ Q2.out).mono ?_; rintro e w92 ⟨rfl, q2⟩; (have k2 : w92.cell? ⟨wr.heap.size, 2, none⟩ = some (.string ⟨#[]⟩) := q2.bo.c 2); (have f2 := q2.bo.f 2); (have Q3 : Hid (De w3 (w92.setCell ⟨wr.heap.size, 2, none⟩ (.string (S x2))) (w.heap.size + 1) w1.heap.size wr.heap.size d3 #[.string (S id), .slice na L.length nc, .slice fa f.length fc] #[.int .i64 x0, .int .i64 x1, .string (S x2)] 55 3 (.slice fa f.length fc) f.length (fcs f)) := q2.set 2 _); (have pc : w92.cell? ⟨w1.heap.size, 2, none⟩ = some (.slice fa f.length fc) := q2.dw.po.c 2); (have y0 : w92.cell? ⟨wr.heap.size, 0, none⟩ = some (.int .i64 x0) := q2.bo.c 0); (have y1 : w92.cell? ⟨wr.heap.size, 1, none⟩ = some (.int .i64 x1) := q2.bo.c 1); clear q2 Q2 H2 k1 f1)
              | (at_builtin; refine wpList_append_own _ rfl _ _ 24 rfl w3.heap.size 55 j0 _ 3 32 Tryz.underlying24 hj0 hy0 hy1 hy2 rfl (by decide) _ f.length (fcs f) rfl (Q3.out.row.alloc _) ⟨w92.heap.size, 0, none⟩ 1 1 [.int .i64 x0, .int .i64 x1, .string (S x2)] rfl rfl (new_many _ _ (by simp) #[.int .i64 x0, .int .i64 x1, .string (S x2)] _) (by simp [Value.oneCell']) (by unfold maxLen; omega) (by omega) (by have := Q3.out.dw.ch.size; simp at this; simp; omega) ?_; intro v5 w5 ho5 hg5 _; (have HG5 := Q3.out.grown hg5 ho5 2); (have g5 : w5.cell? ⟨w1.heap.size, 2, none⟩ = some (.slice fa f.length fc) := HG5.2.2.c 2); (have f5 := HG5.2.2.f 2); obtain ⟨a5, c5', rfl, -⟩ := row_slice ho5; (have HH5 : Hid _ := And.intro HG5.1 HG5.2.1); clear ho5 hg5 HG5))
            go_roundw
            case rel =>
              have hlen : (f ++ [(⟨x0, x1, x2⟩ : Fl)]).length = f.length + 1 := by rw [List.length_append, List.length_singleton]
              refine ⟨i + 1, f ++ [(⟨x0, x1, x2⟩ : Fl)], a5, c5', d3, by simp, by omega, by rw [hlen, HFL.out], ?_, HN.out⟩
              rw [hlen, fcs_snoc]
              exact HH5.out
            case measure => simp [intOf]; omega
          · have hE : ((d.2 : Int) == 0) = false := beq_eq_false_iff_ne.2 (by omega)
            have HE : Hid (R2 = (f, d)) := by show _ = _; rw [← HP.out, dLoop_stop hd]; simp
            clear HP hd
            have HZ : Hid (R2 = (f, d)) := HE.out
            have hkeep := HK.out.1.keep HB3.out.1 HB3.out.2 (by omega) hwp.out
            have nrow : Hid (wr.ownsRow w2.heap.size 51 7 (.slice na L.length nc) L.length (ncs L)) := HK.out.1.ch.row HN3.out (fun k hk e => by have h5 := (World.ownsRow.lt HN3.out k hk).1; have h6 := hb2.out; omega)
            have HKP : Hid _ := hkeep
            obtain ⟨er, her⟩ : ∃ er, endOf d.1 d.2 = er := ⟨_, rfl⟩
            have CE := rEnd_any HK.out.1.rd
            rw [her] at CE
            have HFN : Hid (dkP l = if er ≠ 0 then (p0, (er : Int)) else (⟨id, L, f⟩, 0)) := HFIN.out (f, d) HZ.out er her
            have g0 : wr.cell? ⟨w.heap.size, 0, none⟩ = some (.string ⟨#[]⟩) := HKP.out.2.c 0
            have g1 : wr.cell? ⟨w.heap.size, 1, none⟩ = some (.slice none 0 0) := HKP.out.2.c 1
            have g2 : wr.cell? ⟨w.heap.size, 2, none⟩ = some (.slice none 0 0) := HKP.out.2.c 2
            have z0 := HKP.out.2.f 0
            have z1 := HKP.out.2.f 1
            have z2 := HKP.out.2.f 2
            have p0' : wr.cell? ⟨w1.heap.size, 0, none⟩ = some (.string (S id)) := HK.out.1.po.c 0
            have p1' : wr.cell? ⟨w1.heap.size, 1, none⟩ = some (.slice na L.length nc) := HK.out.1.po.c 1
            have p2' : wr.cell? ⟨w1.heap.size, 2, none⟩ = some (.slice fa f.length fc) := HK.out.1.po.c 2
            have HPO : Hid (∀ x y z, Po (((wr.setCell ⟨w.heap.size, 0, none⟩ x).setCell ⟨w.heap.size, 1, none⟩ y).setCell ⟨w.heap.size, 2, none⟩ z) (.slice na L.length nc) (.slice fa f.length fc) ⟨id, L, f⟩) := fun x y z => ⟨row_Node (row_far (row_far (row_far nrow.out (by have := hb2.out; omega) 0 x) (by have := hb2.out; omega) 1 y) (by have := hb2.out; omega) 2 z), row_Flow (row_far (row_far (row_far HK.out.2 (by have := hb2.out; have := hb3.out; omega) 0 x) (by have := hb2.out; have := hb3.out; omega) 1 y) (by have := hb2.out; have := hb3.out; omega) 2 z)⟩
            have HBE : Hid (∀ x y z, Below w.heap.size w (((wr.setCell ⟨w.heap.size, 0, none⟩ x).setCell ⟨w.heap.size, 1, none⟩ y).setCell ⟨w.heap.size, 2, none⟩ z)) := fun x y z => set3 HKP.out.1 (Nat.le_refl _)
            clear hkeep HE her
            by_cases h0 : er = 0
            · subst h0
              go_wp2_with (go_at_call 18; refine CE.mono ?_; rintro e w8 ⟨rfl, hw8⟩; rw [hw8]; clear hw8 w8 CE)
              rw [HFN.out]
              exact bodyPost_ret (v := .tuple #[.agg #[.string (S id), .slice na L.length nc, .slice fa f.length fc], .int .i64 0]) (by simp [results, Tryz.results6, go_sem, g0, g1, g2]) rfl ⟨na, nc, fa, fc, rfl, HPO.out _ _ _, HBE.out _ _ _⟩
            · have hb8 : ((er : Int) != 0) = true := bne_iff_ne.2 (by omega)
              have HF2 : Hid (dkP l = (p0, (er : Int))) := HFN.out.trans (by rw [if_pos h0])
              go_wp2_with (go_at_call 18; refine CE.mono ?_; rintro e w8 ⟨rfl, hw8⟩; rw [hw8]; clear hw8 w8 CE)
              rw [HF2.out]
              exact bodyPost_ret (v := .tuple #[.agg #[.string ⟨#[]⟩, .slice none 0 0, .slice none 0 0], .int .i64 (er : Int)]) (by simp [results, Tryz.results6, go_sem, g0, g1, g2]) rfl ⟨none, 0, none, 0, rfl, ⟨Ns.nil _, Fs.nil _⟩, HBE.out _ _ _⟩
        · have hil' : ¬ (i : Int) < (m2 : Int) := by omega
          obtain rfl : i = m2 := by omega
          have HE : Hid (R2 = (f, d)) := by show _ = _; rw [← HP.out, Nat.sub_self]; simp [dLoop]
          clear HP
          have HZ : Hid (R2 = (f, d)) := HE.out
          have hkeep := HK.out.1.keep HB3.out.1 HB3.out.2 (by omega) hwp.out
          have nrow : Hid (wr.ownsRow w2.heap.size 51 7 (.slice na L.length nc) L.length (ncs L)) := HK.out.1.ch.row HN3.out (fun k hk e => by have h5 := (World.ownsRow.lt HN3.out k hk).1; have h6 := hb2.out; omega)
          have HKP : Hid _ := hkeep
          obtain ⟨er, her⟩ : ∃ er, endOf d.1 d.2 = er := ⟨_, rfl⟩
          have CE := rEnd_any HK.out.1.rd
          rw [her] at CE
          have HFN : Hid (dkP l = if er ≠ 0 then (p0, (er : Int)) else (⟨id, L, f⟩, 0)) := HFIN.out (f, d) HZ.out er her
          have g0 : wr.cell? ⟨w.heap.size, 0, none⟩ = some (.string ⟨#[]⟩) := HKP.out.2.c 0
          have g1 : wr.cell? ⟨w.heap.size, 1, none⟩ = some (.slice none 0 0) := HKP.out.2.c 1
          have g2 : wr.cell? ⟨w.heap.size, 2, none⟩ = some (.slice none 0 0) := HKP.out.2.c 2
          have z0 := HKP.out.2.f 0
          have z1 := HKP.out.2.f 1
          have z2 := HKP.out.2.f 2
          have p0' : wr.cell? ⟨w1.heap.size, 0, none⟩ = some (.string (S id)) := HK.out.1.po.c 0
          have p1' : wr.cell? ⟨w1.heap.size, 1, none⟩ = some (.slice na L.length nc) := HK.out.1.po.c 1
          have p2' : wr.cell? ⟨w1.heap.size, 2, none⟩ = some (.slice fa f.length fc) := HK.out.1.po.c 2
          have HPO : Hid (∀ x y z, Po (((wr.setCell ⟨w.heap.size, 0, none⟩ x).setCell ⟨w.heap.size, 1, none⟩ y).setCell ⟨w.heap.size, 2, none⟩ z) (.slice na L.length nc) (.slice fa f.length fc) ⟨id, L, f⟩) := fun x y z => ⟨row_Node (row_far (row_far (row_far nrow.out (by have := hb2.out; omega) 0 x) (by have := hb2.out; omega) 1 y) (by have := hb2.out; omega) 2 z), row_Flow (row_far (row_far (row_far HK.out.2 (by have := hb2.out; have := hb3.out; omega) 0 x) (by have := hb2.out; have := hb3.out; omega) 1 y) (by have := hb2.out; have := hb3.out; omega) 2 z)⟩
          have HBE : Hid (∀ x y z, Below w.heap.size w (((wr.setCell ⟨w.heap.size, 0, none⟩ x).setCell ⟨w.heap.size, 1, none⟩ y).setCell ⟨w.heap.size, 2, none⟩ z)) := fun x y z => set3 HKP.out.1 (Nat.le_refl _)
          clear hkeep HE her
          by_cases h0 : er = 0
          · subst h0
            go_wp2_with (go_at_call 18; refine CE.mono ?_; rintro e w8 ⟨rfl, hw8⟩; rw [hw8]; clear hw8 w8 CE)
            rw [HFN.out]
            exact bodyPost_ret (v := .tuple #[.agg #[.string (S id), .slice na L.length nc, .slice fa f.length fc], .int .i64 0]) (by simp [results, Tryz.results6, go_sem, g0, g1, g2]) rfl ⟨na, nc, fa, fc, rfl, HPO.out _ _ _, HBE.out _ _ _⟩
          · have hb8 : ((er : Int) != 0) = true := bne_iff_ne.2 (by omega)
            have HF2 : Hid (dkP l = (p0, (er : Int))) := HFN.out.trans (by rw [if_pos h0])
            go_wp2_with (go_at_call 18; refine CE.mono ?_; rintro e w8 ⟨rfl, hw8⟩; rw [hw8]; clear hw8 w8 CE)
            rw [HF2.out]
            exact bodyPost_ret (v := .tuple #[.agg #[.string ⟨#[]⟩, .slice none 0 0, .slice none 0 0], .int .i64 (er : Int)]) (by simp [results, Tryz.results6, go_sem, g0, g1, g2]) rfl ⟨none, 0, none, 0, rfl, ⟨Ns.nil _, Fs.nil _⟩, HBE.out _ _ _⟩
theorem dTake_any (l : List UInt8) (w : World) : Calls Tryz.prog 6 #[.string (S l)] w (TkR w (dkP l)) := by
  by_cases hlong : 8192 < l.length
  · have HE : Hid (dkP l = (p0, 13)) := by show _ = _; unfold dkP; rw [if_pos hlong]
    have hss := S_size l
    have hlong' : (8192 : Int) < (l.length : Int) := by omega
    clear hlong
    go_enter Tryz.func6, Tryz.ntmps6
    go_wp2
    rw [HE.out]
    exact bodyPost_ret (v := .tuple #[.agg #[.string ⟨#[]⟩, .slice none 0 0, .slice none 0 0], .int .i64 13]) (by simp [results, Tryz.results6, go_sem]) rfl ⟨none, 0, none, 0, rfl, ⟨Ns.nil _, Fs.nil _⟩, (Below.refl _ w).alloc (Nat.le_refl _) _⟩
  · exact dTake_main l hlong w
end Go.Proofs.YtedohcapkmnkiaaGreatDoor.m11

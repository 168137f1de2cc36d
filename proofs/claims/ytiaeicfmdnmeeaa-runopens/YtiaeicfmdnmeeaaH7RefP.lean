/-
  The document's own Open, whole.
-/
import Derived.Test.YtiaeicfmdnmeeaaH7RefO
import Derived.Test.YtiaeicfmdnmeeaaRLess
import Derived.Test.YtiaeicfmdnmeeaaH7Law
import Derived.BigQuiet
import Derived.IntWalk
namespace Go.Proofs.Ytiaeicfmdnmeeaa
open Go.RowKit Go.Shelf Go.Sort
open Go.Lib hiding intOf
attribute [local go_sem] Oper.semAt_some

theorem four_last {b : List UInt8} {n : Nat} (hn : b.length = n + 4) : ∃ a0 a1 a2 a3, b.drop n = [a0, a1, a2, a3] ∧ b.drop (n + 1) = [a1, a2, a3] ∧ b.drop (n + 2) = [a2, a3] ∧ b.drop (n + 3) = [a3] := by
  have h : (b.drop n).length = 4 := by rw [List.length_drop]; omega
  match hb : b.drop n, h with
  | [a0, a1, a2, a3], _ =>
    refine ⟨a0, a1, a2, a3, rfl, ?_, ?_, ?_⟩ <;> (rw [← List.drop_drop, hb]; rfl)
/-- rows that may, each above the one ahead -/
theorem flt_adj : ∀ (l : List R7) (a : Option (List UInt8)), (∀ x ∈ l, may x = 0) → (∀ k, a = some k → ∀ (h : 0 < l.length), lt (S k) (S l[0].1) = true) → (∀ k (h : k + 1 < l.length), lt (S l[k].1) (S l[k + 1].1) = true) → flt a l = 0
  | [], _, _, _, _ => rfl
  | x :: t, a, hm, h0, h1 => by
    have hc : chk a x = 0 := by
      unfold chk
      rw [if_neg (by simpa using hm x (by simp))]
      cases a with
      | none => rfl
      | some k => simp only; rw [if_pos]; exact h0 k rfl (by simp)
    rw [flt, if_neg (by simpa using hc)]
    refine flt_adj t (some x.1) (fun y hy => hm y (by simp [hy])) ?_ ?_
    · intro k hk h
      injection hk with hk
      subst hk
      exact h1 0 (by simp at h ⊢; omega)
    · intro k h
      have := h1 (k + 1) (by simp at h ⊢; omega)
      simpa using this

theorem rn_tak {b : List UInt8} {bs : List (List R7)} {fin : Nat} (hR : Rn b bs) (hl : b.length ≤ 1048576) (hf : fin + le4 (b.drop (b.length - 4)) + 4 = b.length) : tak ((b.drop fin).take (le4 (b.drop (b.length - 4)))) = (3, ix bs, le4 (b.drop (b.length - 4)), 0) := by
  obtain ⟨t1, t2, t3, t4⟩ := tail_rn hR hl
  have hfin : fin = (fbs bs).length := by omega
  rw [t2, hfin, t4, tak_none 3 (ix bs) hR.2.2.2]
theorem rn_num {b : List UInt8} {bs : List (List R7)} (hR : Rn b bs) : rdU (ix bs) 0 = (bs.length, ixs bs, 0) := by
  have hbl : bs.length < 18446744073709551616 := by
    have h1 := ix_one hR.2.1
    have h2 := hR.2.2.2
    unfold ix at h2
    rw [List.length_append] at h2
    omega
  unfold rdU ix
  rw [numb_back0 hbl]
  simp
theorem rdU_le' {l l2 : List UInt8} {v e2 : Nat} (h : rdU l 0 = (v, l2, e2)) : l2.length ≤ l.length := by
  have hn := numb_le l 0 0
  unfold rdU at h
  rw [if_pos rfl] at h
  split at h <;> simp only [Prod.mk.injEq] at h <;> obtain ⟨_, rfl, _⟩ := h
  · exact hn
  · exact Nat.le_refl _
theorem rdU_sy {b load l1 : List UInt8} {fin many : Nat} (h : rdU load 0 = (many, l1, 0)) : Sy b load fin many [] l1 := by
  refine ⟨?_, rfl, Nat.zero_le _, fun y hy => (by cases hy)⟩
  unfold rdU at h
  rw [if_pos rfl] at h
  by_cases hz : (numb 0 0 load).2.2 = 0
  · rw [if_pos hz] at h
    simp only [Prod.mk.injEq, and_true] at h
    exact numb_one0 (Prod.ext h.1 (Prod.ext h.2 hz))
  · rw [if_neg hz] at h
    simp only [Prod.mk.injEq] at h
    exact absurd h.2.2 hz

theorem rd_new (w : World) (l : List UInt8) : Rd (w.alloc (.cells #[.string (S l), .int .i64 0] 68)) w.heap.size l 0 := by
  have hx := heap_alloc_new w (.cells #[.string (S l), .int .i64 0] 68)
  exact ⟨by simp only [World.cell?, hx]; rfl, by simp only [World.cell?, hx]; rfl, by simp only [World.frozen?, hx]; rfl, by simp only [World.frozen?, hx]; rfl, by simp⟩
theorem below_box {w w1 w2 : World} {o : Obj} (h : Below w.heap.size w w1) (hb : But w1.heap.size (w1.alloc o) w2) : Below w.heap.size w w2 := by
  have ca : Ch (fun k => k = w1.heap.size) (w1.alloc o) w2 := ⟨hb.os, hb.tape, hb.output, hb.size, fun k hk hn => hb.block k hk hn⟩
  exact (h.alloc h.size o).trans (ca.below (by have := h.size; simp; omega) (fun k hk e => by have := h.size; omega))
/-- what stands in the loop (rb: the reader's block) -/
structure Oq (w wr : World) (rb : Nat) (b load : List UInt8) (fin many : Nat) (bs : List (List R7)) (rest : List UInt8) (vo : Value) : Prop where
  rd : Rd wr rb rest 0
  row : wr.ownsRow (rb + 1) 41 3 vo bs.flatten.length (hcs bs.flatten)
  sy : Sy b load fin many bs rest
  bw : Below w.heap.size w wr
  sz : rb + 1 ≤ wr.heap.size
  lo : w.heap.size ≤ rb
  le : bs.length ≤ many
section
variable {w wr w3 w4 : World} {rb fin many len : Nat} {b load rest r1 r2 first : List UInt8} {bs : List (List R7)} {vo vm : Value} {xs : List R7}
theorem Oq.at3 (h : Oq w wr rb b load fin many bs rest vo) (hb : But rb wr w3) : Below w.heap.size w w3 ∧ rb + 1 ≤ w3.heap.size ∧ w3.ownsRow (rb + 1) 41 3 vo bs.flatten.length (hcs bs.flatten) := by
  have hs1 := hb.size
  have hs := h.sz
  have hlo := h.lo
  have ca : Ch (fun k => k = rb) wr w3 := ⟨hb.os, hb.tape, hb.output, hb.size, fun k hk hn => hb.block k hk hn⟩
  exact ⟨h.bw.trans (ca.below h.bw.size (fun k hk e => by omega)), by omega, ca.row h.row (fun k hk e => by have := (row_obj h.row hk).1; omega)⟩
theorem Oq.step (h : Oq w wr rb b load fin many bs rest vo) (hb : But rb wr w3) (hr : Rd w3 rb r2 0) (hb4 : Below w3.heap.size w3 w4) (_hm : w4.ownsRow w3.heap.size 41 3 vm xs.length (hcs xs)) (hlt : bs.length < many) (hsy : Sy b load fin many (bs ++ [xs]) r2) :
    w4.ownsRow (rb + 1) 41 3 vo bs.flatten.length (hcs bs.flatten) ∧ rb + 1 ≤ w4.heap.size ∧ ∀ (w5 : World) (v' : Value), w4.grownBy w5 vo.ownBlock → w5.ownsRow (rb + 1) 41 3 v' (bs.flatten.length + xs.length) (hcs bs.flatten ++ hcs xs) → Oq w w5 rb b load fin many (bs ++ [xs]) r2 v' := by
  obtain ⟨b3, s3, row3⟩ := h.at3 hb
  have hs4 := hb4.size
  have row4 := (show Ch (fun _ => False) w3 w4 from Ch.of_below hb4).row row3 (fun _ _ => id)
  refine ⟨row4, by omega, fun w5 v' hg hr5 => ?_⟩
  have cg : Ch (fun k => rb < k) w4 w5 := Ch.of_grown hg (fun k e _ => by have := (row_obj row4 e).1; omega)
  have hlo := h.lo
  have e : (bs ++ [xs]).flatten = bs.flatten ++ xs := by simp
  refine ⟨?_, ?_, hsy, ?_, by have := cg.size; omega, h.lo, by simp; omega⟩
  · exact (hr.of_block (hb4.block _ (by omega)) hb4.size).of_block (cg.block _ (by omega) (by omega)) cg.size
  · rw [e, List.length_append, hcs_append]; exact hr5
  · exact (b3.trans (hb4.mono b3.size)).trans (cg.below (by omega) (fun k hk e => by omega))
end

set_option maxHeartbeats 4000000 in
set_option maxRecDepth 100000 in
theorem refOpen_any (b : List UInt8) (hl : b.length ≤ 4611686018427387904) (w : World) :
    Calls Try.prog 9 #[.string (S b)] w fun e w' => Below w.heap.size w w' ∧ ROp w b e w' := by
  obtain ⟨i0, hi0, hz0, hz1, hz2⟩ := info_parts infoRow7
  by_cases hsh : b.length < 4 ∨ 1048576 < b.length
  · exact refOpen_short b hl hsh w
  have hs := S_size b
  obtain ⟨n, hn⟩ : ∃ n, b.length = n + 4 := ⟨b.length - 4, by omega⟩
  have hnm : n ≤ 1048572 := by omega
  obtain ⟨a0, a1, a2, a3, d0, d1, d2, d3⟩ := four_last hn
  have s0 := fun h => S_get (l := b) (k := n) d0 h
  have s1 := fun h => S_get (l := b) (k := n + 1) d1 h
  have s2 := fun h => S_get (l := b) (k := n + 2) d2 h
  have s3 := fun h => S_get (l := b) (k := n + 3) d3 h
  have f3 : (3 : Int) ≤ (n : Int) + 4 := by omega
  have f2 : (2 : Int) ≤ (n : Int) + 4 := by omega
  have f1 : (1 : Int) ≤ (n : Int) + 4 := by omega
  have g3 : (n : Int) + 4 - 3 < (n : Int) + 4 := by omega
  have g2 : (n : Int) + 4 - 2 < (n : Int) + 4 := by omega
  have g1 : (n : Int) + 4 - 1 < (n : Int) + 4 := by omega
  have HLE : Hid (le4 (b.drop (b.length - 4)) = a0.toNat + 256 * a1.toNat + 65536 * a2.toNat + 16777216 * a3.toNat) := by
    show le4 _ = _
    rw [show b.length - 4 = n by omega, d0]
    rfl
  have HB : Hid (b.length ≤ 1048576) := by show _ ≤ _; omega
  have ha0 := a0.toNat_lt
  have ha1 := a1.toNat_lt
  have ha2 := a2.toNat_lt
  have ha3 := a3.toNat_lt
  have c1 : decide (((n : Int) + 4) < 4) = false := by rw [decide_eq_false_iff_not]; omega
  have c2 : decide ((1048576 : Int) < (n : Int) + 4) = false := by rw [decide_eq_false_iff_not]; omega
  have c3 : ¬ ((n : Int) + 4) < 4 := by omega
  clear d0 d1 d2 d3 hsh hl
  go_enter Try.func9, Try.ntmps9
  go_wp2
  go_quiet (fail)
  obtain ⟨sz, HZ⟩ : ∃ sz : Nat, Hid (a0.toNat + 256 * a1.toNat + 65536 * a2.toNat + 16777216 * a3.toNat = sz) := ⟨_, show _ = _ from rfl⟩
  have e6 : (a0.toNat : Int) + 256 * (a1.toNat : Int) + 65536 * (a2.toNat : Int) + 16777216 * (a3.toNat : Int) = (sz : Int) := by have := HZ.out; omega
  rw [e6]
  have HLS : Hid (le4 (b.drop (b.length - 4)) = sz) := HLE.out.trans HZ.out
  have HBL : Hid (b.length = n + 4) := hn
  clear e6 s0 s1 s2 s3 ha0 ha1 ha2 ha3 HLE HZ c1 c2 c3
  by_cases hle : sz ≤ n
  · obtain ⟨fin, hfin⟩ : ∃ fin, n = fin + sz := ⟨n - sz, by omega⟩
    have hfe : (n : Int) - (sz : Int) = (fin : Int) := by omega
    have hf1 : fin ≤ n := by omega
    have hf2 : (fin : Int) ≤ (n : Int) := by omega
    have hf0 : (0 : Int) ≤ (fin : Int) := by omega
    have hf3 : (n : Int) ≤ (n : Int) + 4 := by omega
    have hf4 : n ≤ n + 4 := by omega
    have hx : (S b).extract fin n = S ((b.drop fin).take sz) := by rw [S_ext, show n - fin = sz by omega]
    have hsum : fin + le4 (b.drop (b.length - 4)) + 4 = b.length := by have := HLS.out; omega
    have HS : Hid (fin + le4 (b.drop (b.length - 4)) + 4 = b.length) := hsum
    have HF : Hid (n = fin + sz) := hfin
    obtain ⟨tb, HTB⟩ : ∃ tb, Hid ((b.drop fin).take sz = tb) := ⟨_, show _ = _ from rfl⟩
    rw [HTB.out] at hx
    have htl : tb.length ≤ 1048576 := by have := HTB.out; have h2 := congrArg List.length this; rw [List.length_take, List.length_drop] at h2; omega
    have HT := fun W => rTake_any tb (by omega) W
    obtain ⟨kd, load, tk, bad, ht⟩ : ∃ kd l0 n bad, tak tb = (kd, l0, n, bad) := ⟨_, _, _, _, rfl⟩
    rw [ht] at HT
    unfold quad at HT
    simp only at HT
    have HRT : Hid (∀ bs, b.length ≤ 1048576 → Rn b bs → bad = 0 ∧ tk = sz ∧ kd = 3 ∧ load = ix bs) := fun bs h1 h2 => by
      have := rn_tak h2 h1 hsum
      rw [HLS.out, HTB.out, ht] at this
      simp only [Prod.mk.injEq] at this
      exact ⟨this.2.2.2, this.2.2.1, this.1, this.2.1⟩
    by_cases hbad : bad = 0
    · by_cases htk : tk = sz
      · by_cases hkd : kd = 3
        · subst hbad htk hkd
          have hl0 : load.length ≤ 65536 := (tak_one ht).2.2
          have hk3 : ((UInt8.toNat 3 : Nat) : Int) = 3 := rfl
          rw [hk3] at HT
          have HTK : Hid (tak ((b.drop fin).take (le4 (b.drop (b.length - 4)))) = (3, load, le4 (b.drop (b.length - 4)), 0)) := by show _ = _; rw [HLS.out, HTB.out]; exact ht
          obtain ⟨many, l1, e1, h1⟩ : ∃ m l1 e1, rdU load 0 = (m, l1, e1) := ⟨_, _, _, rfl⟩
          have H1 : Hid (rdU load 0 = (many, l1, e1)) := h1
          have hml := rdU_lt H1
          have hl1 := rdU_le' h1
          clear ht hsum hfin hk3 h1
          go_wp2_with (first
            | (go_at_call 24; refine (HT _).mono ?_; rintro e w1 ⟨rfl, b1⟩; (have B1 : Hid (Below w.heap.size w w1) := bel_of (below_drewN (Below.refl _ w) nq) b1 (Nat.le_refl _)); have R0 := rd_new w1 load; clear b1)
            | (go_at_call 25; refine (rUint_all R0 (by omega) H1).mono ?_; rintro e w2 ⟨rfl, r2, b2⟩; (have B2 : Hid (Below w.heap.size w w2) := below_box B1.out b2); have hw2 := b2.size; clear b2 R0))
          clear HT hx htl hle
          by_cases he1 : e1 = 0
          · subst he1
            have hsy : Sy b load fin many [] l1 := rdU_sy H1.out
            have H0 : Hid (Oq w w2 w1.heap.size b load fin many [] l1 (.slice none 0 0)) := ⟨r2, World.ownsRow_nil _ _ _ _, hsy, B2.out, by simp at hw2; omega, B1.out.size, Nat.zero_le _⟩
            clear hsy r2 hw2
            go_loopw [14, 15, 16, 17] (fun vo va vb vi wr => ∃ bs rest, va = .int .i64 ((fbs bs).length : Int) ∧ vb = .int .i64 (bs.length : Int) ∧ vi = .int .u64 (bs.length : Int) ∧ Hid (Oq w wr w1.heap.size b load fin many bs rest vo)) (fun _ _ _ vi _ => many - (intOf vi).toNat)
            case atStart => exact ⟨[], l1, rfl, rfl, rfl, H0⟩
            case round =>
              obtain ⟨bs, rest, rfl, rfl, rfl, HR⟩ := hrel
              clear H0
              obtain ⟨p, HP⟩ : ∃ p, Hid ((fbs bs).length = p) := ⟨_, show _ = _ from rfl⟩
              obtain ⟨k, HK⟩ : ∃ k, Hid (bs.length = k) := ⟨_, show _ = _ from rfl⟩
              obtain ⟨tot, HTT⟩ : ∃ tot, Hid (bs.flatten.length = tot) := ⟨_, show _ = _ from rfl⟩
              obtain ⟨a5, c5, h5, -⟩ := row_slice HR.out.row
              rw [HTT.out] at h5
              subst h5
              rw [HP.out, HK.out]
              have hpf : p ≤ fin := by have := HR.out.sy.le; rw [HP.out] at this; exact this
              have hkm : k ≤ many := by have := HR.out.le; rw [HK.out] at this; exact this
              have htt : tot ≤ p := by have := flat_len (bs := bs); rw [HTT.out, HP.out] at this; exact this
              have hrl : rest.length ≤ 65536 := by
                have := congrArg List.length HR.out.sy.ld
                rw [List.length_append, List.length_append] at this
                omega
              have hkb : k ≤ 65536 := by
                have := congrArg List.length HR.out.sy.ld
                rw [List.length_append, List.length_append] at this
                have h2 := ix_one HR.out.sy.g
                rw [HK.out] at h2
                omega
              have hrd := HR.out.rd
              have g0 := hrd.rest
              have g1' := hrd.err
              have HNO : Hid (∀ bs', b.length ≤ 1048576 → Rn b bs' → ∃ q, bs' = bs ++ q ∧ rest = ixs q ∧ many = bs'.length ∧ fin = (fbs bs').length ∧ load = ix bs') := fun bs' q1 q2 => HR.out.sy.sync q2 q1 hml HS.out HTK.out
              by_cases hkl : k < many
              · have hkl' : (k : Int) < (many : Int) := by omega
                have HCAN : Hid (∀ bs', b.length ≤ 1048576 → Rn b bs' → _) := fun bs' q1 q2 => HR.out.sy.can q2 q1 hml HS.out HTK.out (by rw [HK.out]; exact hkl)
                obtain ⟨len, x1, e1, h1⟩ : ∃ len x1 e1, rdU rest 0 = (len, x1, e1) := ⟨_, _, _, rfl⟩
                obtain ⟨first, x2, e2, h2⟩ : ∃ f x2 e2, rdT 64 x1 e1 = (f, x2, e2) := ⟨_, _, _, rfl⟩
                have HU1 : Hid (rdU rest 0 = (len, x1, e1)) := h1
                have HU2 : Hid (rdT 64 x1 e1 = (first, x2, e2)) := h2
                have q1 := rdU_le' h1
                have q2 := rdT_le h2
                have hll := rdU_lt HU1
                have hee : e2 = 0 → e1 = 0 := fun he => by
                  apply Classical.byContradiction
                  intro hne
                  unfold rdT at h2
                  rw [if_neg hne] at h2
                  simp only [Prod.mk.injEq] at h2
                  omega
                have HA3 : Hid (∀ w3, But w1.heap.size wr w3 → Below w.heap.size w w3) := fun w3 hb => (HR.out.at3 hb).1
                by_cases he2 : e2 = 0
                · have he1 := hee he2
                  subst he1 he2
                  clear hee h1 h2
                  by_cases hlen : len ≤ fin - p
                  · have hlen' : ¬ (fin : Int) - (p : Int) < (len : Int) := by omega
                    have hlb : len ≤ 1048576 := by omega
                    have j1 : (p : Int) ≤ (p : Int) + (len : Int) := by omega
                    have j2 : (p : Int) + (len : Int) ≤ (n : Int) + 4 := by omega
                    have j0 : (0 : Int) ≤ (p : Int) := by omega
                    have j3 : p ≤ p + len := by omega
                    have j4 : p + len ≤ n + 4 := by omega
                    have hx : (S b).extract p (p + len) = S ((b.drop p).take len) := by rw [S_ext, show p + len - p = len by omega]
                    obtain ⟨tq, HTQ⟩ : ∃ tq, Hid ((b.drop p).take len = tq) := ⟨_, show _ = _ from rfl⟩
                    rw [HTQ.out] at hx
                    have htq : tq.length ≤ 1048576 := by have h2 := congrArg List.length HTQ.out; rw [List.length_take, List.length_drop] at h2; omega
                    have HBR := fun W => blockRows_any tq htq W
                    have HNB : Hid (∀ bs', b.length ≤ 1048576 → Rn b bs' → tq = tq ∧ ∃ y, tq = fb y ∧ Gb y ∧ key1 y = first) := fun bs' z1 z2 => by
                      obtain ⟨y, r1, r2, y1, y2, y3, y4, y5⟩ := HCAN.out bs' z1 z2
                      rw [HU1.out] at y1
                      simp only [Prod.mk.injEq] at y1
                      obtain ⟨y6, rfl, -⟩ := y1
                      rw [HU2.out] at y2
                      simp only [Prod.mk.injEq] at y2
                      rw [HP.out, ← y6, HTQ.out] at y4
                      exact ⟨rfl, y, y4, y5, y2.1.symm⟩
                    clear hlen
                    go_wp2_with (first
                        | (go_at_call 25; refine (rUint_all hrd (by omega) HU1).mono ?_; rintro e w3 ⟨rfl, r3, b3⟩; clear hrd)
                        | (go_at_call 26; refine (rText_all r3 (by omega) (by omega) (by omega) HU2).mono ?_; rintro e w4 ⟨rfl, r4, b4⟩; (have HB4 : Hid (But w1.heap.size wr w4) := b3.trans b4); have HR4 : Hid (Rd w4 w1.heap.size x2 0) := r4; have y1 := r4.err; clear r3 r4 b3 b4))
                    refine (HBR _).mono ?_
                    rintro e w5 ⟨hb5, ⟨xs, vm, e1, e2, rfl, hm⟩ | ⟨hN, vm, rfl⟩⟩
                    · have hx0 : 0 < xs.length := List.length_pos_iff.2 e2.1
                      obtain ⟨gm, cm, hmv⟩ : ∃ g c, vm = .slice (some ⟨g, 0, none⟩) xs.length c := by
                        rcases hm.2 with ⟨_, h0⟩ | ⟨g, cap', cur, e, -⟩
                        · omega
                        · exact ⟨g, cap', e⟩
                      subst hmv
                      have kk := row_cell hm (hcs_get hx0).1
                      rw [← key1_head hx0, Nat.zero_mul] at kk
                      obtain ⟨k1, HK1⟩ : ∃ k1, Hid (key1 xs = k1) := ⟨_, show _ = _ from rfl⟩
                      rw [HK1.out] at kk
                      have hxi : (0 : Int) < (xs.length : Int) := by omega
                      have hxl : xs.length ≤ 65536 := by have := ld_count xs; have := e2.2.1; omega
                      by_cases hkf : k1 = first
                      · subst hkf
                        have hfl : (fb xs).length = len := by rw [← e1]; have h2 := congrArg List.length HTQ.out; rw [List.length_take, List.length_drop] at h2; have := HBL.out; omega
                        have hsy := HR.out.sy.step (y := xs) (by have := HBL.out; omega : fin ≤ b.length) HU1.out HU2.out (by rw [HP.out]; omega) (by rw [HP.out, HTQ.out]; exact e1) e2 HK1.out
                        obtain ⟨r1, r2, r3⟩ := HR.out.step HB4.out HR4.out hb5 hm (by rw [HK.out]; exact hkl) hsy
                        have hnews : ∀ j u, (hcs xs)[j]? = some u → w5.cell? ((⟨gm, 0, none⟩ : Addr).add j) = some u := fun j u hj => by rw [Addr.add_lit, Nat.zero_add]; exact row_cell hm hj
                        rw [HTT.out] at r1
                        have R1 : Hid _ := r1
                        have R3 : Hid _ := r3
                        have HNW : Hid _ := hnews
                        have HFL : Hid ((fbs (bs ++ [xs])).length = p + len) := by show _ = _; rw [fbs_snoc, List.length_append, HP.out, hfl]
                        clear r1 r3 hnews e1 e2 hm hb5 HBR HNB HCAN hsy hfl
                        go_wp2_with (at_builtin; refine wpList_append_own _ rfl _ _ 22 rfl (w1.heap.size + 1) 41 i0 _ 3 40 Try.underlying22 hi0 hz0 hz1 hz2 rfl (by decide) (.slice a5 tot c5) tot (hcs bs.flatten) rfl R1.out ⟨gm, 0, none⟩ xs.length cm (hcs xs) rfl (hcs_length xs) HNW.out (hcs_one xs) (by unfold maxLen; omega) (by omega) (by omega) ?_; intro v6 w6 hown6 hgrow6 _; have HFF : Hid _ := R3.out w6 v6 hgrow6 (by rw [HTT.out]; exact hown6); clear hown6 hgrow6)
                        go_roundw
                        case rel => exact ⟨bs ++ [xs], x2, by rw [HFL.out]; simp, by rw [List.length_append, HK.out]; simp, by rw [List.length_append, HK.out]; simp, HFF⟩
                        case measure =>
                          simp [intOf]
                          omega
                      · have HN : Hid (¬ (b.length ≤ 1048576 ∧ ∃ bs, Rn b bs)) := by
                          rintro ⟨z1, bs', z2⟩
                          obtain ⟨-, y, y1, y2, y3⟩ := HNB.out bs' z1 z2
                          have := (fb_inj (r := []) (s := []) e2 y2 (by rw [← e1, ← y1])).1
                          subst this
                          exact hkf (by rw [← HK1.out]; exact y3)
                        have hcmp : ((S k1).toList == (S first).toList) = false := by rw [S_toList, S_toList]; exact beq_eq_false_iff_ne.2 hkf
                        have B5 : Hid (Below w.heap.size w w5) := bel_of (HA3.out w4 HB4.out) hb5 (Nat.le_refl _)
                        clear hkf e1 e2 hm hb5 HR HNO HCAN HNB HBR
                        go_wp2
                        exact bodyPost_ret (v := .tuple #[.slice none 0 0, .int .i64 0, .int .i64 3]) (by simp [results, Try.results9, go_sem]) rfl ⟨B5.out, .inr ⟨HN.out, rfl⟩⟩
                    · have HN : Hid (¬ (b.length ≤ 1048576 ∧ ∃ bs, Rn b bs)) := by
                        rintro ⟨z1, bs', z2⟩
                        obtain ⟨-, y, y1, y2, -⟩ := HNB.out bs' z1 z2
                        exact hN ⟨y, y1, y2⟩
                      have B5 : Hid (Below w.heap.size w w5) := bel_of (HA3.out w4 HB4.out) hb5 (Nat.le_refl _)
                      clear hN hb5 HR HNO HCAN HNB HBR
                      go_wp2
                      exact bodyPost_ret (v := .tuple #[.slice none 0 0, .int .i64 0, .int .i64 3]) (by simp [results, Try.results9, go_sem]) rfl ⟨B5.out, .inr ⟨HN.out, rfl⟩⟩
                  · have HN : Hid (¬ (b.length ≤ 1048576 ∧ ∃ bs, Rn b bs)) := by
                      rintro ⟨z1, bs', z2⟩
                      obtain ⟨y, r1, r2, y1, y2, y3, -⟩ := HCAN.out bs' z1 z2
                      rw [HU1.out] at y1
                      simp only [Prod.mk.injEq] at y1
                      rw [HP.out] at y3
                      omega
                    have hlen' : (fin : Int) - (p : Int) < (len : Int) := by omega
                    clear hlen HR HNO HCAN
                    go_wp2_with (first
                      | (go_at_call 25; refine (rUint_all hrd (by omega) HU1).mono ?_; rintro e w3 ⟨rfl, r3, b3⟩; clear hrd)
                      | (go_at_call 26; refine (rText_all r3 (by omega) (by omega) (by omega) HU2).mono ?_; rintro e w4 ⟨rfl, r4, b4⟩; (have B4 : Hid (Below w.heap.size w w4) := HA3.out w4 (b3.trans b4)); have y1 := r4.err; clear r3 r4 b3 b4))
                    exact bodyPost_ret (v := .tuple #[.slice none 0 0, .int .i64 0, .int .i64 3]) (by simp [results, Try.results9, go_sem]) rfl ⟨B4.out, .inr ⟨HN.out, rfl⟩⟩
                · have HN : Hid (¬ (b.length ≤ 1048576 ∧ ∃ bs, Rn b bs)) := by
                    rintro ⟨z1, bs', z2⟩
                    obtain ⟨y, r1, r2, y1, y2, -⟩ := HCAN.out bs' z1 z2
                    rw [HU1.out] at y1
                    simp only [Prod.mk.injEq] at y1
                    obtain ⟨-, rfl, rfl⟩ := y1
                    rw [HU2.out] at y2
                    simp only [Prod.mk.injEq] at y2
                    exact he2 y2.2.2
                  have hne : ((e2 : Int) != 0) = true := by rw [bne_iff_ne]; omega
                  clear he2 hee HR HNO HCAN h1 h2
                  go_wp2_with (first
                    | (go_at_call 25; refine (rUint_all hrd (by omega) HU1).mono ?_; rintro e w3 ⟨rfl, r3, b3⟩; clear hrd)
                    | (go_at_call 26; refine (rText_all r3 (by omega) (by omega) (by omega) HU2).mono ?_; rintro e w4 ⟨rfl, r4, b4⟩; (have B4 : Hid (Below w.heap.size w w4) := HA3.out w4 (b3.trans b4)); have y1 := r4.err; clear r3 r4 b3 b4))
                  exact bodyPost_ret (v := .tuple #[.slice none 0 0, .int .i64 0, .int .i64 3]) (by simp [results, Try.results9, go_sem]) rfl ⟨B4.out, .inr ⟨HN.out, rfl⟩⟩
              · have hkl' : ¬ (k : Int) < (many : Int) := by omega
                have HK2 : Hid (many = k) := by show _ = _; omega
                have HEQ : Hid (∀ bs', b.length ≤ 1048576 → Rn b bs' → bs' = bs ∧ rest = [] ∧ fin = p) := fun bs' z1 z2 => by
                  obtain ⟨q, q1, q2, q3, q4, q5⟩ := HNO.out bs' z1 z2
                  have hq : q = [] := by
                    rw [q1, List.length_append, HK.out, HK2.out] at q3
                    exact List.eq_nil_of_length_eq_zero (by omega)
                  subst hq
                  rw [List.append_nil] at q1
                  subst q1
                  exact ⟨rfl, q2, by rw [q4, HP.out]⟩
                have hE := rEnd_any hrd
                unfold endOf at hE
                rw [if_pos rfl] at hE
                by_cases hrest : rest = []
                · subst hrest
                  rw [if_pos rfl] at hE
                  by_cases hpe : p = fin
                  · subst hpe
                    have HD : Hid (flt none bs.flatten = 0 → Rn b bs) := fun hf => HR.out.sy.done (by have := HBL.out; omega) HS.out HTK.out (by rw [HK.out, HK2.out]) HP.out hf
                    have HMY : Hid (∀ x ∈ bs.flatten, may x = 0) := fun x hx => by
                      obtain ⟨y, hy, hxy⟩ := List.mem_flatten.1 hx
                      exact (HR.out.sy.g y hy).2.2 x hxy
                    obtain ⟨l7, HL7⟩ : ∃ l7, Hid (bs.flatten = l7) := ⟨_, show _ = _ from rfl⟩
                    have HROW : Hid (wr.ownsRow (w1.heap.size + 1) 41 3 (.slice a5 tot c5) tot (hcs l7)) := by have := HR.out.row; rw [HTT.out, HL7.out] at this; exact this
                    have htl7 : l7.length = tot := by rw [← HL7.out]; exact HTT.out
                    have HBW : Hid (Below w.heap.size w wr) := HR.out.bw
                    have hlo := HR.out.lo
                    rw [HL7.out] at HD HMY
                    clear hrd HR HNO
                    go_wp2_with (go_at_call 28; refine hE.mono ?_; rintro e w3 ⟨rfl, rfl⟩)
                    go_loopw [22] (fun vi w4 => ∃ j : Nat, vi = .int .i64 (j : Int) ∧ 1 ≤ j ∧ (j ≤ tot ∨ j = 1) ∧ Hid (∀ i (h : i + 1 < l7.length), i + 1 < j → lt (S l7[i].1) (S l7[i + 1].1) = true) ∧ Hid (∃ q, w4 = w3.drewN q)) (fun vi _ => tot - (intOf vi).toNat)
                    case atStart => exact ⟨1, rfl, Nat.le_refl _, .inr rfl, fun i h hi => by omega, ⟨0, rfl⟩⟩
                    case round =>
                      obtain ⟨j, rfl, hj1, hj2, HJ, HQ⟩ := hrel
                      have HBQ : Hid (∀ m, Below w.heap.size w (wr.drewN m)) := fun m => by obtain ⟨q, rfl⟩ := HQ.out; exact below_drewN (below_drewN HBW.out q) m
                      have HRQ : Hid (wr.ownsRow (w1.heap.size + 1) 41 3 (.slice a5 tot c5) tot (hcs l7)) := by obtain ⟨q, rfl⟩ := HQ.out; exact HROW.out
                      obtain ⟨i, rfl⟩ : ∃ i, j = i + 1 := ⟨j - 1, by omega⟩
                      by_cases hjt : i + 1 < tot
                      · have hjt' : (i : Int) + 1 < (tot : Int) := by omega
                        have hi0' : (0 : Int) ≤ (i : Int) := by omega
                        have hi1' : (i : Int) < (tot : Int) := by omega
                        have hi2' : (0 : Int) ≤ (i : Int) + 1 := by omega
                        obtain ⟨gm, rfl⟩ : ∃ g, a5 = some ⟨g, 0, none⟩ := by
                          rcases HRQ.out.2 with ⟨_, h0⟩ | ⟨g, cap', cur, e, -⟩
                          · omega
                          · cases e; exact ⟨g, rfl⟩
                        have hil : i < l7.length := by omega
                        have hil2 : i + 1 < l7.length := by omega
                        have m0 := row_cell HRQ.out (hcs_get hil).1
                        have m1 := row_cell HRQ.out (hcs_get hil2).1
                        have y0 := (may_len (HMY.out l7[i] (List.getElem_mem hil))).1
                        have y1 := (may_len (HMY.out l7[i + 1] (List.getElem_mem hil2))).1
                        have HL := fun W => Less_quiet (S l7[i].1) (S l7[i + 1].1) (by rw [S_size]; omega) (by rw [S_size]; omega) W
                        obtain ⟨bl, hbl⟩ : ∃ bl, lt (S l7[i].1) (S l7[i + 1].1) = bl := ⟨_, rfl⟩
                        rw [hbl] at HL
                        have HBLT : Hid (lt (S l7[i].1) (S l7[i + 1].1) = bl) := hbl
                        generalize S l7[i].1 = s0 at m0 HL
                        generalize S l7[i + 1].1 = s1 at m1 HL
                        clear hbl y0 y1
                        go_wp2
                        go_quiet ((go_at_call 17; refine Calls.quiet_of (HL _)))
                        cases bl with
                        | false =>
                          have HN : Hid (¬ (b.length ≤ 1048576 ∧ ∃ bs, Rn b bs)) := by
                            rintro ⟨z1, bs', z2⟩
                            have z3 := (HEQ.out bs' z1 z2).1
                            subst z3
                            have z4 := z2.2.2.1
                            rw [HL7.out] at z4
                            have z5 := rise_lt (flt_rise z4) hil hil2 (Nat.lt_succ_self i)
                            rw [HBLT.out] at z5
                            cases z5
                          go_wp2
                          exact bodyPost_ret (v := .tuple #[.slice none 0 0, .int .i64 0, .int .i64 3]) (by simp [results, Try.results9, go_sem]) rfl ⟨HBQ.out nq, .inr ⟨HN.out, rfl⟩⟩
                        | true =>
                          go_wp2
                          go_roundw
                          case rel =>
                            refine ⟨i + 1 + 1, by simp, by omega, .inl (by omega), fun ii h hi => ?_, by obtain ⟨q, rfl⟩ := HQ.out; exact ⟨q + nq, by rw [World.drewN_drewN]⟩⟩
                            by_cases hii : ii = i
                            · subst hii; exact HBLT.out
                            · exact HJ.out ii h (by omega)
                          case measure =>
                            simp [intOf]
                            omega
                      · have hjt' : ¬ (i : Int) + 1 < (tot : Int) := by omega
                        have HRN : Hid (Rn b bs) := HD.out (flt_adj l7 none HMY.out (fun k hk => by cases hk) (fun ii h => HJ.out ii h (by omega)))
                        clear HD HMY HJ HEQ
                        go_wp2
                        refine bodyPost_ret (v := .tuple #[.slice a5 tot c5, .int .i64 (k : Int), .int .i64 0]) (by simp [results, Try.results9, go_sem]) rfl ⟨HBQ.out 0, .inl ⟨bs, _, HB.out, HRN.out, by rw [HK.out], ?_⟩⟩
                        rw [HL7.out, htl7]
                        exact row_low (base := w1.heap.size + 1) HRQ.out (by omega)
                  · have HN : Hid (¬ (b.length ≤ 1048576 ∧ ∃ bs, Rn b bs)) := fun ⟨z1, bs', z2⟩ => hpe (HEQ.out bs' z1 z2).2.2.symm
                    have hne : ((p : Int) != (fin : Int)) = true := by rw [bne_iff_ne]; omega
                    have B5 : Hid (Below w.heap.size w wr) := HR.out.bw
                    clear hpe hrd HR HNO HEQ
                    go_wp2_with (go_at_call 28; refine hE.mono ?_; rintro e w3 ⟨rfl, rfl⟩)
                    exact bodyPost_ret (v := .tuple #[.slice none 0 0, .int .i64 0, .int .i64 3]) (by simp [results, Try.results9, go_sem]) rfl ⟨B5.out, .inr ⟨HN.out, rfl⟩⟩
                · rw [if_neg hrest] at hE
                  have HN : Hid (¬ (b.length ≤ 1048576 ∧ ∃ bs, Rn b bs)) := fun ⟨z1, bs', z2⟩ => hrest (HEQ.out bs' z1 z2).2.1
                  have B5 : Hid (Below w.heap.size w wr) := HR.out.bw
                  clear hrest hrd HR HNO HEQ
                  go_wp2_with (go_at_call 28; refine hE.mono ?_; rintro e w3 ⟨rfl, rfl⟩)
                  exact bodyPost_ret (v := .tuple #[.slice none 0 0, .int .i64 0, .int .i64 3]) (by simp [results, Try.results9, go_sem]) rfl ⟨B5.out, .inr ⟨HN.out, rfl⟩⟩
          · have hm0 : many = 0 := by
              have h1 := H1.out
              unfold rdU at h1
              rw [if_pos rfl] at h1
              split at h1 <;> simp only [Prod.mk.injEq] at h1
              · exact absurd h1.2.2.symm he1
              · exact h1.1.symm
            have HN : Hid (¬ (b.length ≤ 1048576 ∧ ∃ bs, Rn b bs)) := by
              rintro ⟨q1, bs, q2⟩
              obtain ⟨-, -, -, q3⟩ := HRT.out bs q1 q2
              have h1 := H1.out
              rw [q3, rn_num q2] at h1
              simp only [Prod.mk.injEq] at h1
              exact he1 h1.2.2.symm
            subst hm0
            have hE : Calls Try.prog 28 #[.pointer (some ⟨w1.heap.size, 0, none⟩)] w2 fun r w' => r = .returned (.int .i64 (e1 : Int)) ∧ w' = w2 := by
              have := rEnd_any r2
              unfold endOf at this
              rwa [if_neg he1] at this
            have hne : ((e1 : Int) != 0) = true := by rw [bne_iff_ne]; omega
            have g1' := r2.err
            clear he1 r2 HRT hw2
            go_loopw [14, 15, 16, 17] (fun vo va vb vi wr => vo = .slice none 0 0 ∧ va = .int .i64 0 ∧ vb = .int .i64 0 ∧ vi = .int .u64 0 ∧ wr = w2) (fun _ _ _ _ _ => 0)
            case atStart => exact ⟨rfl, rfl, rfl, rfl, rfl⟩
            case round =>
              obtain ⟨rfl, rfl, rfl, rfl, rfl⟩ := hrel
              go_wp2_with (go_at_call 28; refine hE.mono ?_; rintro e w3 ⟨rfl, rfl⟩)
              exact bodyPost_ret (v := .tuple #[.slice none 0 0, .int .i64 0, .int .i64 3]) (by simp [results, Try.results9, go_sem]) rfl ⟨B2.out, .inr ⟨HN.out, rfl⟩⟩
        · have hne : ((kd.toNat : Int) != 3) = true := by
            rw [bne_iff_ne]
            intro e
            exact hkd (UInt8.toNat_inj.1 (show kd.toNat = 3 by omega))
          have HN : Hid (¬ (b.length ≤ 1048576 ∧ ∃ bs, Rn b bs)) := fun ⟨h1, bs, h2⟩ => hkd (HRT.out bs h1 h2).2.2.1
          subst hbad htk
          clear ht hkd HRT hsum hfin
          go_wp2_with (go_at_call 24; refine (HT _).mono ?_; rintro e w1 ⟨rfl, b1⟩; (have B1 : Hid (Below w.heap.size w w1) := bel_of (below_drewN (Below.refl _ w) nq) b1 (Nat.le_refl _)); clear b1)
          exact bodyPost_ret (v := .tuple #[.slice none 0 0, .int .i64 0, .int .i64 3]) (by simp [results, Try.results9, go_sem]) rfl ⟨B1.out, .inr ⟨HN.out, rfl⟩⟩
      · have hne : ((tk : Int) != (sz : Int)) = true := by rw [bne_iff_ne]; omega
        have HN : Hid (¬ (b.length ≤ 1048576 ∧ ∃ bs, Rn b bs)) := fun ⟨h1, bs, h2⟩ => htk (HRT.out bs h1 h2).2.1
        subst hbad
        clear ht htk HRT hsum hfin
        go_wp2_with (go_at_call 24; refine (HT _).mono ?_; rintro e w1 ⟨rfl, b1⟩; (have B1 : Hid (Below w.heap.size w w1) := bel_of (below_drewN (Below.refl _ w) nq) b1 (Nat.le_refl _)); clear b1)
        exact bodyPost_ret (v := .tuple #[.slice none 0 0, .int .i64 0, .int .i64 3]) (by simp [results, Try.results9, go_sem]) rfl ⟨B1.out, .inr ⟨HN.out, rfl⟩⟩
    · have hne : ((bad : Int) != 0) = true := by rw [bne_iff_ne]; omega
      have HN : Hid (¬ (b.length ≤ 1048576 ∧ ∃ bs, Rn b bs)) := fun ⟨h1, bs, h2⟩ => hbad (HRT.out bs h1 h2).1
      clear ht hbad HRT hsum hfin
      go_wp2_with (go_at_call 24; refine (HT _).mono ?_; rintro e w1 ⟨rfl, b1⟩; (have B1 : Hid (Below w.heap.size w w1) := bel_of (below_drewN (Below.refl _ w) nq) b1 (Nat.le_refl _)); clear b1)
      exact bodyPost_ret (v := .tuple #[.slice none 0 0, .int .i64 0, .int .i64 3]) (by simp [results, Try.results9, go_sem]) rfl ⟨B1.out, .inr ⟨HN.out, rfl⟩⟩
  · have HN : Hid (¬ (b.length ≤ 1048576 ∧ ∃ bs, Rn b bs)) := by
      rintro ⟨h1, bs, h2⟩
      have t := tail_rn h2 h1
      have := HLS.out
      omega
    have g : (n : Int) < (sz : Int) := by omega
    go_wp2
    exact bodyPost_ret (v := .tuple #[.slice none 0 0, .int .i64 0, .int .i64 3]) (by simp [results, Try.results9, go_sem]) rfl ⟨below_drewN (Below.refl _ w) nq, .inr ⟨HN.out, rfl⟩⟩
end Go.Proofs.Ytiaeicfmdnmeeaa

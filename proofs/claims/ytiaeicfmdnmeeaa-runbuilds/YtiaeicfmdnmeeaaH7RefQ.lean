/-
  The document's own Build, of whatever rows, of bounded bulk.
-/
import Derived.Test.YtiaeicfmdnmeeaaH7Ref
import Derived.Test.YtiaeicfmdnmeeaaRLess
import Derived.BigQuiet
import Derived.IntWalk
namespace Go.Proofs.Ytiaeicfmdnmeeaa
open Go.RowKit Go.Shelf Go.Sort
open Go.Lib hiding intOf
attribute [local go_sem] Oper.semAt_some

/-- an append whose run is known -/
theorem wpList_append_run {w : World} {ops : Array Oper} {rest : List Oper} {o : Oper} {a : Act} {Q : Exit → Act → World → Prop} (hgd : o.guard = none) (s x : Operand) (t u : TypeId)
    (ho : o.op = .call { callee := .builtin .append, args := #[s, x], argTypes := #[t, u] }) (v y v' : Value) (w' : World) (hs : a.eval s = v) (hx : a.eval x = y)
    (hr : (Builtin.append_ #[t, u] o.type #[v, y]).run Try.prog w = .ok v' w') (h : wpList Try.prog ops Q rest (a.put o.dst v') w') : wpList Try.prog ops Q (o :: rest) a w := by
  refine wpList_plain hgd fun K hK => ?_
  unfold Oper.wp execOp
  simp only [ho, resolve, invoke, builtin, Sem.run_bind, Sem.run_pure, Result.andThen_ok, List.map_toArray, List.map_cons, List.map_nil, hs, hx, hr]
  exact hK _ _ h

/-- out and index, in memory -/
structure Bd (w wr : World) (D I : List UInt8) (v8 v9 : Value) : Prop where
  ro : wr.ownsRow w.heap.size 5 1 v8 D.length (Lib.byteCells D)
  ri : wr.ownsRow w.heap.size 5 1 v9 I.length (Lib.byteCells I)
  ap : ∀ k, v8.ownBlock = some k → v9.ownBlock = some k → False
  bw : Below w.heap.size w wr
section
variable {w wr w2 : World} {D I : List UInt8} {v8 v9 : Value}
theorem Bd.below (h : Bd w wr D I v8 v9) (hb : Below wr.heap.size wr w2) : Bd w w2 D I v8 v9 :=
  ⟨(show Ch (fun _ => False) wr w2 from Ch.of_below hb).row h.ro (fun _ _ => id), (show Ch (fun _ => False) wr w2 from Ch.of_below hb).row h.ri (fun _ _ => id), h.ap, bel_of h.bw hb (Nat.le_refl _)⟩
theorem Bd.addO (h : Bd w wr D I v8 v9) (s : List UInt8) {m : Nat} (hm : (D ++ s).length = m) (hb : m ≤ 140737488355328) :
    ∃ a' c' w', (Builtin.append_ #[51, 9] 51 #[v8, .string (S s)]).run Try.prog wr = .ok (.slice a' m c') w' ∧ Bd w w' (D ++ s) I (.slice a' m c') v9 := by
  obtain ⟨a', c', w', r1, r2, r3, r4⟩ := row_append_bytes h.ro s hm hb h.bw.size
  have c : Ch (fun x => v8.ownBlock = some x) wr w' := Ch.of_grown r3 (fun k e _ => e)
  refine ⟨a', c', w', r1, r2, c.row h.ri (fun k hk e => h.ap k e hk), fun k h1 h2 => ?_, h.bw.trans (c.below h.bw.size (fun k hk e => by have := (row_obj h.ro e).1; omega))⟩
  rcases r4 k h1 with e | e
  · exact h.ap k e h2
  · have := row_far h.ri h2; omega
theorem Bd.addI (h : Bd w wr D I v8 v9) (s : List UInt8) {m : Nat} (hm : (I ++ s).length = m) (hb : m ≤ 140737488355328) :
    ∃ a' c' w', (Builtin.append_ #[51, 9] 51 #[v9, .string (S s)]).run Try.prog wr = .ok (.slice a' m c') w' ∧ Bd w w' D (I ++ s) v8 (.slice a' m c') := by
  obtain ⟨a', c', w', r1, r2, r3, r4⟩ := row_append_bytes h.ri s hm hb h.bw.size
  have c : Ch (fun x => v9.ownBlock = some x) wr w' := Ch.of_grown r3 (fun k e _ => e)
  refine ⟨a', c', w', r1, c.row h.ro (fun k hk e => h.ap k hk e), r2, fun k h1 h2 => ?_, h.bw.trans (c.below h.bw.size (fun k hk e => by have := (row_obj h.ri e).1; omega))⟩
  rcases r4 k h2 with e | e
  · exact h.ap k h1 e
  · have := row_far h.ro h1; omega
end
theorem ld_append (a b : List R7) : ld (a ++ b) = ld a ++ ld b := by simp [ld]
theorem key1_len (y : List R7) : (key1 y).length ≤ (ld y).length := by
  cases y with
  | nil => simp [key1]
  | cons x t =>
    have := rb_length x
    have := txt_length x.1
    rw [ld_cons, List.length_append]
    simp only [key1, List.headD_cons]
    omega
theorem fbs_len : ∀ (bs : List (List R7)), (ld bs.flatten).length ≤ 1099511627776 → (fbs bs).length ≤ (ld bs.flatten).length + 15 * bs.length ∧ (ixs bs).length ≤ (ld bs.flatten).length + 20 * bs.length
  | [], _ => by simp [fbs, ixs]
  | y :: t, h => by
    rw [List.flatten_cons, ld_append, List.length_append] at h ⊢
    obtain ⟨h1, h2⟩ := fbs_len t (by omega)
    have k1 := key1_len y
    have e1 := Lib.uvarint_length64 (show (ld y).length < 18446744073709551616 by omega)
    have e2 := fb_length y
    have e3 := txt_length (ld y)
    have e4 := Lib.uvarint_length64 (show (fb y).length < 18446744073709551616 by omega)
    have e5 := txt_length (key1 y)
    have e6 := Lib.uvarint_length64 (show (key1 y).length < 18446744073709551616 by omega)
    rw [fbs_cons, ixs_cons, List.length_append, List.length_append, List.length_cons]
    unfold ixe
    rw [List.length_append]
    omega
theorem cut_count : ∀ (bs : List (List R7)), (∀ y ∈ bs, y ≠ []) → bs.length ≤ bs.flatten.length
  | [], _ => by simp
  | y :: t, h => by
    have h1 := cut_count t (fun z hz => h z (by simp [hz]))
    have h2 := List.length_pos_iff.2 (h y (by simp))
    rw [List.flatten_cons, List.length_append, List.length_cons]
    omega
/-- where the outer loop stands -/
structure Bq (l : List R7) (blk : Nat) (bs : List (List R7)) (i : Nat) : Prop where
  cut : cutB blk [] l = bs ++ cutB blk [] (l.drop i)
section
variable {l : List R7} {blk i j : Nat} {bs : List (List R7)} {cur : List R7}
theorem Bq.flat (h : Bq l blk bs i) : bs.flatten = l.take i := by
  have e := congrArg List.flatten h.cut
  rw [cutB_flat, List.nil_append, List.flatten_append, cutB_flat, List.nil_append] at e
  exact List.append_cancel_right (e.symm.trans (List.take_append_drop i l).symm)
/-- what the bounds come to -/
theorem Bq.small (h : Bq l blk bs i) (hb : 0 < blk) (hm : ∀ x ∈ l, may x = 0) (hn : l.length ≤ 1048576) (hD : (ld l).length ≤ 33554432) : bs.length ≤ 1048576 ∧ (fbs bs).length ≤ 67108864 ∧ (ixs bs).length ≤ 67108864 := by
  have e := h.flat
  have h1 := cut_count bs (fun y hy => (cutB_each hb l [] (.inl rfl) hm y (by rw [h.cut]; simp [hy])).1)
  have h2 : (ld bs.flatten).length ≤ (ld l).length := by
    have := congrArg List.length (congrArg ld (List.take_append_drop i l))
    rw [ld_append, List.length_append] at this
    rw [e]; omega
  have h3 := fbs_len bs (by omega)
  rw [e, List.length_take] at h1
  omega
/-- a block ends -/
theorem Bq.step (h : cutB blk [] l = bs ++ cutB blk cur (l.drop j)) (hb : 0 < blk) (hc : cur ≠ []) (he : l.length ≤ j ∨ blk ≤ (ld cur).length) : Bq l blk (bs ++ [cur]) j := by
  refine ⟨?_⟩
  rw [h, List.append_assoc]
  congr 1
  cases hd : l.drop j with
  | nil => rw [cutB_end blk hc, cutB_nil]; rfl
  | cons x t =>
    have hj : j < l.length := by
      have := congrArg List.length hd
      rw [List.length_drop, List.length_cons] at this
      omega
    rw [cutB_full (he.resolve_left (by omega)), cutB_begin hb]; rfl
theorem take_flt (h : flt none (l.take i) = 0) (hi : i < l.length) : flt none (l.take (i + 1)) = chk (las none (l.take i)) l[i] ∧ (chk (las none (l.take i)) l[i] ≠ 0 → flt none l = chk (las none (l.take i)) l[i]) := by
  have e : l = l.take i ++ (l[i] :: l.drop (i + 1)) := by rw [← List.drop_eq_getElem_cons hi, List.take_append_drop]
  refine ⟨?_, fun hne => ?_⟩
  · rw [take_snoc7 hi, flt_ok h]
    simp only [flt]
    by_cases h0 : chk (las none (l.take i)) l[i] = 0
    · rw [h0]; rfl
    · rw [if_pos h0]
  · have : flt none (l.take i ++ (l[i] :: l.drop (i + 1))) = chk (las none (l.take i)) l[i] := by rw [flt_ok h, flt, if_pos hne]
    rwa [← e] at this
theorem las_take (hi : i < l.length) : las none (l.take (i + 1)) = some l[i].1 := by rw [take_snoc7 hi, las_snoc]
end

set_option maxRecDepth 100000 in
set_option maxHeartbeats 2000000 in
theorem refBuild_any {w : World} {v : Value} {l : List R7} (block : Int) (hv : Rw7 w v l) (hn : l.length ≤ 1048576) (hD : (ld l).length ≤ 33554432) (hsm : Sm7 l) :
    Calls Try.prog 7 #[.int .i64 block, v] w fun e w' => e = .returned (.tuple #[.string (S (bld block l).1), .int .i64 ((bld block l).2 : Int)]) ∧ Below w.heap.size w w' := by
  have HCE : Hid (∀ a c, v = .slice a l.length c → l ≠ [] → ∃ vb off, a = some ⟨vb, off, none⟩ ∧ ∀ W, Below w.heap.size w W → ∀ (j : Nat) (h : j < l.length), W.cell? ⟨vb, off + j * 3, none⟩ = some (.string (S l[j].1)) ∧ W.cell? ⟨vb, off + j * 3 + 1, none⟩ = some (.string (S l[j].2.1)) ∧ W.cell? ⟨vb, off + j * 3 + 2, none⟩ = some (.bool l[j].2.2)) := fun a c e hne => by
    obtain ⟨a', c', e', h⟩ := hv
    rw [e'] at e
    cases e
    obtain ⟨vb, off, rfl, hbl, hc⟩ := h.resolve_left hne
    exact ⟨vb, off, rfl, fun W hB j hj => ⟨(hB.cell (p := ⟨vb, off + j * 3, none⟩) hbl).trans (hc j hj).1, (hB.cell (p := ⟨vb, off + j * 3 + 1, none⟩) hbl).trans (hc j hj).2.1, (hB.cell (p := ⟨vb, off + j * 3 + 2, none⟩) hbl).trans (hc j hj).2.2⟩⟩
  obtain ⟨va, cap, rfl, -⟩ := hv
  by_cases h1 : block < 64
  · have hb : bld block l = ([], 1) := by unfold bld; rw [if_pos (.inl h1)]
    rw [hb]
    go_enter Try.func7, Try.ntmps7
    go_wp2
    exact bodyPost_ret (v := .tuple #[.string ⟨#[]⟩, .int .i64 1]) (by simp [results, Try.results7, go_sem]) rfl ⟨rfl, Below.refl _ _⟩
  by_cases h2 : 4096 < block
  · have hb : bld block l = ([], 1) := by unfold bld; rw [if_pos (.inr h2)]
    rw [hb]
    go_enter Try.func7, Try.ntmps7
    go_wp2
    exact bodyPost_ret (v := .tuple #[.string ⟨#[]⟩, .int .i64 1]) (by simp [results, Try.results7, go_sem]) rfl ⟨rfl, Below.refl _ _⟩
  obtain ⟨blk, rfl⟩ : ∃ blk : Nat, block = (blk : Int) := ⟨block.toNat, by omega⟩
  have hb1 : 64 ≤ blk := by omega
  have hb2 : blk ≤ 4096 := by omega
  have HBL : Hid (bld (blk : Int) l = if flt none l ≠ 0 then ([], flt none l) else if 65536 < (ix (cutB blk [] l)).length ∨ 1048576 < (rn (cutB blk [] l)).length then ([], 13) else (rn (cutB blk [] l), 0)) := by
    show _ = _
    unfold bld
    rw [if_neg (by omega)]
    rfl
  go_enter Try.func7, Try.ntmps7
  go_wp2
  go_loopw [6] (fun vi wr => ∃ i : Nat, vi = .int .i64 (i : Int) ∧ i ≤ l.length ∧ Hid (flt none (l.take i) = 0) ∧ Hid (Below w.heap.size w wr)) (fun vi _ => l.length - (intOf vi).toNat)
  case atStart => exact ⟨0, rfl, Nat.zero_le _, rfl, Below.refl _ _⟩
  case round =>
    obtain ⟨i, rfl, hi, HF, HB⟩ := hrel
    by_cases hil : i < l.length
    · have hil' : (i : Int) < (l.length : Int) := by omega
      have hi0' : (0 : Int) ≤ (i : Int) := by omega
      obtain ⟨vb, off, hva, hce⟩ := HCE.out _ _ rfl (fun e => by rw [e] at hil; simp at hil)
      subst hva
      have HC : Hid _ := hce
      obtain ⟨m0, m1, m2⟩ := hce wr HB.out i hil
      clear hce
      have HM := fun W => rMay_any l[i] W
      have HTF : Hid _ := take_flt HF.out hil
      have HCX : Hid _ := fun W hB => HC.out W hB i hil
      obtain ⟨x, HX⟩ : ∃ x, Hid (l[i] = x) := ⟨_, show _ = _ from rfl⟩
      rw [HX.out] at HM HTF m0 m1 m2 HCX
      unfold rv at HM
      by_cases hmy : may x = 0
      · rw [hmy] at HM
        obtain rfl | ⟨j, rfl⟩ : i = 0 ∨ ∃ j, i = j + 1 := by cases i with
          | zero => exact .inl rfl
          | succ j => exact .inr ⟨j, rfl⟩
        · have HN : Hid (flt none (l.take (0 + 1)) = 0) := by
            show _ = _
            rw [HTF.out.1]
            unfold chk las
            rw [if_neg (by simpa using hmy)]
            rfl
          rw [Nat.zero_mul, Nat.add_zero] at m0 m1 m2
          clear hmy
          go_wp2_with (go_at_call 16; refine (HM _).mono ?_; rintro e w2 ⟨rfl, b2⟩; (have B2 : Hid (Below w.heap.size w w2) := bel_of HB.out b2 (Nat.le_refl _)); clear b2)
          go_quiet (fail)
          go_wp2
          go_roundw
          case rel => exact ⟨1, by simp, by omega, HN, below_drewN B2.out _⟩
          case measure =>
            simp [intOf]
            omega
        · have hjl : j < l.length := by omega
          have hcy := fun W hB => HC.out W hB j hjl
          have y1 := (hsm l[j] (List.getElem_mem hjl)).1
          have y2 := (hsm x (by rw [← HX.out]; exact List.getElem_mem hil)).1
          have hla := las_take (i := j) hjl
          obtain ⟨y, HY⟩ : ∃ y, Hid (l[j] = y) := ⟨_, show _ = _ from rfl⟩
          rw [HY.out] at hcy y1 hla
          have HCY : Hid _ := hcy
          have HL := fun W => Less_quiet (S y.1) (S x.1) (by rw [S_size]; omega) (by rw [S_size]; omega) W
          obtain ⟨bl, hbl⟩ : ∃ bl, lt (S y.1) (S x.1) = bl := ⟨_, rfl⟩
          have hj0 : (0 : Int) < (j : Int) + 1 := by omega
          have hj1 : (0 : Int) ≤ (j : Int) := by omega
          have hj2 : (j : Int) < (l.length : Int) := by omega
          have hj3 : (j : Int) + 1 < (l.length : Int) := by omega
          have HCK : Hid (chk (las none (l.take (j + 1))) x = if bl = true then 0 else 8) := by
            show _ = _
            rw [hla]
            unfold chk
            rw [if_neg (by simpa using hmy)]
            simp only [hbl]
          rw [hbl] at HL
          clear hla hbl hmy hcy y1 y2
          go_wp2_with (go_at_call 16; refine (HM _).mono ?_; rintro e w2 ⟨rfl, b2⟩; (have B2 : Hid (Below w.heap.size w w2) := bel_of HB.out b2 (Nat.le_refl _)); have n0 := (HCY.out w2 B2.out).1; have n1 := (HCX.out w2 B2.out).1; clear b2)
          go_quiet ((go_at_call 17; refine Calls.quiet_of (HL _)))
          cases bl with
          | false =>
            have HR : Hid (bld (blk : Int) l = ([], 8)) := by
              show _ = _
              have hc := HCK.out
              rw [if_neg (by decide)] at hc
              have := HTF.out.2 (by rw [hc]; decide)
              rw [HBL.out, this, hc, if_pos (by decide)]
            go_wp2
            exact bodyPost_ret (v := .tuple #[.string ⟨#[]⟩, .int .i64 8]) (by simp [results, Try.results7, go_sem]) rfl ⟨by rw [HR.out]; rfl, below_drewN B2.out _⟩
          | true =>
            have HN : Hid (flt none (l.take (j + 1 + 1)) = 0) := by
              show _ = _
              rw [HTF.out.1, HCK.out]
              rfl
            go_wp2
            go_roundw
            case rel => exact ⟨j + 1 + 1, by simp, by omega, HN, below_drewN B2.out _⟩
            case measure =>
              simp [intOf]
              omega
      · have hne : ((may x : Int) != 0) = true := by rw [bne_iff_ne]; omega
        have HR : Hid (bld (blk : Int) l = ([], may x)) := by
          show _ = _
          have hc : chk (las none (l.take i)) x = may x := by unfold chk; rw [if_pos hmy]
          have := HTF.out.2 (by rw [hc]; exact hmy)
          rw [HBL.out, this, hc, if_pos hmy]
        generalize may x = mx at *
        clear hmy
        go_wp2_with (go_at_call 16; refine (HM _).mono ?_; rintro e w2 ⟨rfl, b2⟩; (have B2 : Hid (Below w.heap.size w w2) := bel_of HB.out b2 (Nat.le_refl _)); clear b2)
        exact bodyPost_ret (v := .tuple #[.string ⟨#[]⟩, .int .i64 (mx : Int)]) (by simp [results, Try.results7, go_sem]) rfl ⟨by rw [HR.out]; rfl, B2.out⟩
    · obtain rfl : i = l.length := by omega
      have hil' : ¬ (l.length : Int) < (l.length : Int) := by omega
      have HFL : Hid (flt none l = 0) := by have := HF.out; rwa [List.take_length] at this
      have HMY : Hid (∀ x ∈ l, may x = 0) := flt_may HFL.out
      have HBD : Hid (bld (blk : Int) l = if 65536 < (ix (cutB blk [] l)).length ∨ 1048576 < (rn (cutB blk [] l)).length then ([], 13) else (rn (cutB blk [] l), 0)) := by
        show _ = _
        rw [HBL.out, if_neg (by rw [HFL.out]; simp)]
      clear HF HBL hi
      go_wp2
      go_loopw [8, 9, 10, 11] (fun v8 v9 v10 vi w2 => ∃ bs i, v10 = .int .i64 ((bs : List (List R7)).length : Int) ∧ vi = .int .i64 ((i : Nat) : Int) ∧ i ≤ l.length ∧ Hid (Bq l blk bs i) ∧ Hid (Bd w w2 (fbs bs) (ixs bs) v8 v9)) (fun _ _ _ vi _ => l.length - (intOf vi).toNat)
      case atStart => exact ⟨[], 0, rfl, rfl, Nat.zero_le _, ⟨rfl⟩, ⟨World.ownsRow_nil _ _ _ _, World.ownsRow_nil _ _ _ _, fun k h => (by cases h), HB.out⟩⟩
      case round =>
        clear HB hil hil'
        obtain ⟨bs, i, rfl, rfl, hi, HQ, HD2⟩ := hrel
        obtain ⟨s1, s2, s3⟩ := HQ.out.small (by omega) HMY.out hn hD
        obtain ⟨nb, HNB⟩ : ∃ nb, Hid (bs.length = nb) := ⟨_, show _ = _ from rfl⟩
        rw [HNB.out] at s1 ⊢
        obtain ⟨n8, HN8⟩ : ∃ n8, Hid ((fbs bs).length = n8) := ⟨_, show _ = _ from rfl⟩
        obtain ⟨n9, HN9⟩ : ∃ n9, Hid ((ixs bs).length = n9) := ⟨_, show _ = _ from rfl⟩
        rw [HN8.out] at s2
        rw [HN9.out] at s3
        obtain ⟨a8, c8, e8, -⟩ := row_slice HD2.out.ro
        rw [HN8.out] at e8
        subst e8
        obtain ⟨a9, c9, e9, -⟩ := row_slice HD2.out.ri
        rw [HN9.out] at e9
        subst e9
        by_cases hil : i < l.length
        · have hil' : (i : Int) < (l.length : Int) := by omega
          have hi0' : (0 : Int) ≤ (i : Int) := by omega
          obtain ⟨vb, off, hva, hce⟩ := HCE.out _ _ rfl (fun e => by rw [e] at hil; simp at hil)
          subst hva
          have HC : Hid _ := hce
          obtain ⟨m0, m1, m2⟩ := hce wr HD2.out.bw i hil
          clear hce
          obtain ⟨y1, y2⟩ := hsm l[i] (List.getElem_mem hil)
          have HRB := fun W => rbytes_any l[i] y1 y2 W
          have HCX : Hid _ := fun W hB => HC.out W hB i hil
          have HDR : Hid (l.drop i = l[i] :: l.drop (i + 1)) := List.drop_eq_getElem_cons hil
          obtain ⟨x, HX⟩ : ∃ x, Hid (l[i] = x) := ⟨_, show _ = _ from rfl⟩
          rw [HX.out] at HRB m0 m1 m2 HCX y1 y2 HDR
          unfold rv at HRB
          have H1 : Hid (cutB blk [] l = bs ++ cutB blk [x] (l.drop (i + 1)) ∧ [x] ≠ [] ∧ key1 [x] = x.1 ∧ S (rb x) = S (ld [x])) := by
            refine ⟨?_, by simp, rfl, by simp [ld]⟩
            rw [HQ.out.cut, HDR.out, cutB_begin (by omega)]
          go_wp2_with (go_at_call 18; refine (HRB _).mono ?_; rintro e w2 ⟨rfl, b2⟩; (have D2 : Hid (Bd w w2 (fbs bs) (ixs bs) (.slice a8 n8 c8) (.slice a9 n9 c9)) := HD2.out.below b2); have n0 := (HCX.out w2 D2.out.bw).1; clear b2)
          go_loopw [11, 12] (fun vi vl w3 => ∃ i2 cur, vi = .int .i64 ((i2 : Nat) : Int) ∧ vl = .string (S (ld cur)) ∧ i2 ≤ l.length ∧ i < i2 ∧ Hid (cutB blk [] l = bs ++ cutB blk cur (l.drop i2) ∧ cur ≠ [] ∧ key1 cur = x.1) ∧ Hid (Bd w w3 (fbs bs) (ixs bs) (.slice a8 n8 c8) (.slice a9 n9 c9))) (fun vi _ _ => l.length - (intOf vi).toNat)
          case atStart => exact ⟨i + 1, [x], by simp, by rw [H1.out.2.2.2], by omega, by omega, ⟨H1.out.1, H1.out.2.1, H1.out.2.2.1⟩, D2⟩
          case round =>
            obtain ⟨i2, cur, rfl, rfl, hi2, hii, HCU, HD3⟩ := hrel
            clear H1 D2 HD2 HQ HDR HRB m0 m1 m2 n0 HCX hil'
            have hlc := S_size (ld cur)
            by_cases hgo : i2 < l.length ∧ (ld cur).length < blk
            · obtain ⟨hg1, hg2⟩ := hgo
              have hg1' : (i2 : Int) < (l.length : Int) := by omega
              have hg2' : ((ld cur).length : Int) < (blk : Int) := by omega
              have hi0' : (0 : Int) ≤ (i2 : Int) := by omega
              obtain ⟨m0, m1, m2⟩ := HC.out wr HD3.out.bw i2 hg1
              obtain ⟨z1, z2⟩ := hsm l[i2] (List.getElem_mem hg1)
              have HRB := fun W => rbytes_any l[i2] z1 z2 W
              have HNX : Hid (cutB blk [] l = bs ++ cutB blk (cur ++ [l[i2]]) (l.drop (i2 + 1)) ∧ cur ++ [l[i2]] ≠ [] ∧ key1 (cur ++ [l[i2]]) = x.1) := by
                refine ⟨?_, by simp, ?_⟩
                · rw [HCU.out.1, List.drop_eq_getElem_cons hg1, cutB_more hg2]
                · rw [key1_snoc, if_neg HCU.out.2.1]; exact HCU.out.2.2
              have hjn : S (ld cur) ++ S (rb l[i2]) = S (ld (cur ++ [l[i2]])) := by rw [S_append, ld_snoc]
              have hlr := S_size (rb l[i2])
              have hlm := rb_most (HMY.out l[i2] (List.getElem_mem hg1))
              generalize l[i2] = y at *
              unfold rv at HRB
              go_wp2_with (go_at_call 18; refine (HRB _).mono ?_; rintro e w3 ⟨rfl, b3⟩; (have D3 : Hid (Bd w w3 (fbs bs) (ixs bs) (.slice a8 n8 c8) (.slice a9 n9 c9)) := HD3.out.below b3); clear b3)
              go_roundw
              case rel => exact ⟨i2 + 1, cur ++ [y], by simp, by rw [← hjn], by omega, by omega, HNX, D3⟩
              case measure =>
                simp [intOf]
                omega
            · have HST : Hid (Bq l blk (bs ++ [cur]) i2) := Bq.step HCU.out.1 (by omega) HCU.out.2.1 (by omega)
              have hcl : (ld cur).length ≤ 65536 := by
                have := (cutB_each (b := blk) (by omega) l [] (.inl rfl) HMY.out cur (by rw [HST.out.cut]; simp)).2
                omega
              have HPt := fun W => rPut_any 2 (ld cur) hcl W
              rw [show (((2 : UInt8).toNat : Nat) : Int) = 2 from rfl] at HPt
              obtain ⟨f, HFN⟩ : ∃ f, Hid (frm 2 (ld cur) = f) := ⟨_, show _ = _ from rfl⟩
              rw [HFN.out] at HPt
              have hsf := S_size f
              have hfl : f.length ≤ 70000 := by
                rw [← HFN.out, frm_length, txt_length]
                have := Lib.uvarint_length64 (show (ld cur).length < 18446744073709551616 by omega)
                omega
              have HUi := fun W => refUint_any f.length (by omega) W
              have HTx := fun W => refText_any x.1 y1 W
              have hu1 := Lib.uvarint_length64 (show f.length < 18446744073709551616 by omega)
              have hx1 : x.1.length ≤ 64 := (may_len (HMY.out x (by rw [← HX.out]; exact List.getElem_mem hil))).1
              have ht1 : (txt x.1).length ≤ 74 := by
                rw [txt_length]
                have := Lib.uvarint_length64 (show x.1.length < 18446744073709551616 by omega)
                omega
              obtain ⟨k1, HK1⟩ : ∃ k1, Hid ((fbs bs ++ f).length = k1) := ⟨_, show _ = _ from rfl⟩
              obtain ⟨k2, HK2⟩ : ∃ k2, Hid ((ixs bs ++ Lib.uvarint f.length).length = k2) := ⟨_, show _ = _ from rfl⟩
              obtain ⟨k3, HK3⟩ : ∃ k3, Hid ((ixs bs ++ Lib.uvarint f.length ++ txt x.1).length = k3) := ⟨_, show _ = _ from rfl⟩
              have hk1 : k1 ≤ 140737488355328 := by rw [← HK1.out, List.length_append, HN8.out]; omega
              have hk2 : k2 ≤ 140737488355328 := by rw [← HK2.out, List.length_append, HN9.out]; omega
              have hk3 : k3 ≤ 140737488355328 := by rw [← HK3.out, List.length_append, List.length_append, HN9.out]; omega
              have HA1 : Hid (∀ w5, Bd w w5 (fbs bs) (ixs bs) (.slice a8 n8 c8) (.slice a9 n9 c9) → _) := fun w5 h => h.addO f HK1.out hk1
              have HA2 : Hid (∀ w5 v8, Bd w w5 (fbs bs ++ f) (ixs bs) v8 (.slice a9 n9 c9) → _) := fun w5 v8 h => h.addI (Lib.uvarint f.length) HK2.out hk2
              have HA3 : Hid (∀ w5 v8 v9, Bd w w5 (fbs bs ++ f) (ixs bs ++ Lib.uvarint f.length) v8 v9 → _) := fun w5 v8 v9 h => h.addI (txt x.1) HK3.out hk3
              have HEN : Hid (fbs bs ++ f = fbs (bs ++ [cur]) ∧ ixs bs ++ Lib.uvarint f.length ++ txt x.1 = ixs (bs ++ [cur])) := by
                refine ⟨by rw [fbs_snoc, ← HFN.out]; rfl, ?_⟩
                rw [ixs_snoc, List.append_assoc]
                unfold ixe fb
                rw [HFN.out, HCU.out.2.2]
              have hex : (¬ (i2 : Int) < (l.length : Int)) ∨ ((i2 : Int) < (l.length : Int) ∧ ¬ ((ld cur).length : Int) < (blk : Int)) := by omega
              clear hgo hcl hu1 ht1 hx1
              rcases hex with hq | ⟨hq, hq2⟩
              all_goals
                go_wp2_with (first
                  | (go_at_call 19; refine (HPt _).mono ?_; rintro e w3 ⟨rfl, b3⟩; obtain ⟨u1, t1, w4, hr1, d4⟩ := HA1.out w3 (HD3.out.below b3); have D4 : Hid _ := d4; clear b3 d4)
                  | (at_builtin; refine wpList_append_run (by rfl) _ _ _ _ (by rfl) _ _ _ _ (by rfl) (by rfl) hr1 ?_; clear hr1)
                  | (go_at_call 20; refine (HUi _).mono ?_; rintro e w5 ⟨rfl, b5⟩; obtain ⟨u2, t2, w6, hr2, d6⟩ := HA2.out w5 _ (D4.out.below b5); have D6 : Hid _ := d6; clear b5 d6)
                  | (at_builtin; refine wpList_append_run (by rfl) _ _ _ _ (by rfl) _ _ _ _ (by rfl) (by rfl) hr2 ?_; clear hr2)
                  | (go_at_call 21; refine (HTx _).mono ?_; rintro e w7 ⟨rfl, b7⟩; obtain ⟨u3, t3, w8, hr3, d8⟩ := HA3.out w7 _ _ (D6.out.below b7); have D8 : Hid _ := d8; clear b7 d8)
                  | (at_builtin; refine wpList_append_run (by rfl) _ _ _ _ (by rfl) _ _ _ _ (by rfl) (by rfl) hr3 ?_; clear hr3))
                go_roundw
                case rel => exact ⟨bs ++ [cur], i2, by rw [List.length_append, HNB.out]; simp, rfl, by omega, HST, by rw [← HEN.out.1, ← HEN.out.2]; exact D8⟩
                case measure =>
                  simp [intOf]
                  omega
        · have hil' : ¬ (i : Int) < (l.length : Int) := by omega
          have hct : cutB blk [] l = bs := by rw [HQ.out.cut, List.drop_eq_nil_of_le (by omega), cutB_nil, List.append_nil]
          rw [hct] at HBD
          have hwn : IntKind.u64.wrap (nb : Int) = (nb : Int) := IntWalk.u64_in _ (by omega)
          have HUi : ∀ W, Calls Try.prog 20 #[.int .u64 (IntKind.u64.wrap (nb : Int))] W _ := fun W => by rw [hwn]; exact refUint_any nb (by omega) W
          clear hwn
          have hu1 := Lib.uvarint_length64 (show nb < 18446744073709551616 by omega)
          have hsu := S_size (Lib.uvarint nb)
          have hsi := S_size (ixs bs)
          rw [HN9.out] at hsi
          have hjn : S (Lib.uvarint nb) ++ S (ixs bs) = S (ix bs) := by rw [S_append]; unfold ix; rw [HNB.out]
          obtain ⟨w0, HW0⟩ : ∃ w0, Hid (wr = w0) := ⟨_, show _ = _ from rfl⟩
          have HCI : Hid (∀ W, Below wr.heap.size wr W → (convert 51 9 (.slice a9 n9 c9)).run Try.prog W = .ok (.string (S (ixs bs))) W) := fun W hb => conv_own (HD2.out.below hb).ri
          have hci0 := fun k => HCI.out (wr.drewN k) (below_drewN (Below.refl _ wr) k)
          have hcid := HCI.out wr.drew (Below.refl _ wr).drew
          have HIX : Hid ((ix bs).length = (Lib.uvarint nb).length + n9) := by show _ = _; unfold ix; rw [List.length_append, HNB.out, HN9.out]
          obtain ⟨xi, HXI⟩ : ∃ xi, Hid (ix bs = xi) := ⟨_, show _ = _ from rfl⟩
          rw [HXI.out] at hjn HIX
          have HCO : Hid (∀ W, Below wr.heap.size wr W → (convert 51 9 (.slice a8 n8 c8)).run Try.prog W = .ok (.string (S (fbs bs))) W) := fun W hb => conv_own (HD2.out.below hb).ro
          have HBW : Hid (Below w.heap.size w wr) := HD2.out.bw
          have HRN : Hid (rn bs = fbs bs ++ frm 3 xi ++ four (frm 3 xi).length) := by show _ = _; unfold rn tl; rw [HXI.out, List.append_assoc]
          have hs8 := S_size (fbs bs)
          rw [HN8.out] at hs8
          by_cases hlong : xi.length ≤ 65536
          · have HPt := fun W => rPut_any 3 xi hlong W
            rw [show (((3 : UInt8).toNat : Nat) : Int) = 3 from rfl] at HPt
            have hfl := frm3_len hlong
            have hz1 : S (fbs bs) ++ S (frm 3 xi) = S (fbs bs ++ frm 3 xi) := S_append _ _
            have hz2 : S (fbs bs ++ frm 3 xi) ++ S (four (frm 3 xi).length) = S (rn bs) := by rw [S_append, HRN.out]
            have hs9 : (S (fbs bs ++ frm 3 xi)).size = n8 + (frm 3 xi).length := by rw [S_size, List.length_append, HN8.out]
            have hsf := S_size (frm 3 xi)
            have hs4 : (S (four (frm 3 xi).length)).size = 4 := S_size _
            have HRL : Hid ((rn bs).length = n8 + (frm 3 xi).length + 4) := by show _ = _; rw [HRN.out, List.length_append, List.length_append, HN8.out]; rfl
            have HCF := fun W a b c d h0 h1 h2 h3 => conv_four W a b c d (four (frm 3 xi).length) rfl h0 h1 h2 h3
            obtain ⟨f, HFN⟩ : ∃ f, Hid (frm 3 xi = f) := ⟨_, show _ = _ from rfl⟩
            rw [HFN.out] at HPt hfl hz1 hz2 hs9 hsf hs4 HRL HCF
            obtain ⟨ob, HOB⟩ : ∃ ob, Hid (fbs bs ++ f = ob) := ⟨_, show _ = _ from rfl⟩
            rw [HOB.out] at hz1 hz2 hs9
            obtain ⟨oo, HOO⟩ : ∃ oo, Hid (fbs bs = oo) := ⟨_, show _ = _ from rfl⟩
            rw [HOO.out] at hz1 hs8 HCO
            obtain ⟨fn, HFL2⟩ : ∃ fn, Hid (f.length = fn) := ⟨_, show _ = _ from rfl⟩
            rw [HFL2.out] at hfl hs9 hsf hs4 HRL HCF hz2
            by_cases htot : n8 + fn + 4 ≤ 1048576
            · have HR : Hid (bld (blk : Int) l = (rn bs, 0)) := by
                show _ = _
                rw [HBD.out, if_neg]
                rw [HXI.out]
                have := HRL.out
                omega
              obtain ⟨rb, HRB⟩ : ∃ rb, Hid (rn bs = rb) := ⟨_, show _ = _ from rfl⟩
              rw [HRB.out] at hz2 HR
              have ht' : decide ((1048576 : Int) < (n8 : Int) + (fn : Int) + 4) = false := by rw [decide_eq_false_iff_not]; omega
              have hcf := fun W => HCF W ((fn : Int) % 256) ((fn : Int) / 256 % 256) ((fn : Int) / 65536 % 256) ((fn : Int) / 16777216) (by simp [four]) (by simp [four]) (by simp [four]) (by simp [four]; omega)
              clear HCF hct hlong htot
              go_wp2
              go_region_with (first
                | (go_at_call 20; refine (HUi _).mono ?_; rintro e w1 ⟨rfl, b1⟩; (have B1 : Hid (Below wr.heap.size wr w1) := bel_of (below_drewN (Below.refl _ wr) 1) b1 (Nat.le_refl _)); have hci1 := HCI.out w1 B1.out; clear b1)
                | (go_at_call 19; refine (HPt _).mono ?_; rintro e w2 ⟨rfl, b2⟩; (have B2 : Hid (Below wr.heap.size wr w2) := bel_of B1.out b2 (Nat.le_refl _)); have hco := HCO.out w2 B2.out; clear b2))
              all_goals
                clear HCI hci0 hcid hci1
                go_wp2
                exact bodyPost_ret (v := .tuple #[.string (S rb), .int .i64 0]) (by simp [results, Try.results7, go_sem]) rfl ⟨by rw [HR.out]; rfl, (bel_of HBW.out B2.out (Nat.le_refl _)).alloc (by have := HBW.out.size; have := B2.out.size; omega) _⟩
            · have HR : Hid (bld (blk : Int) l = ([], 13)) := by
                show _ = _
                rw [HBD.out, if_pos]
                have := HRL.out
                omega
              have ht' : (1048576 : Int) < (n8 : Int) + (fn : Int) + 4 := by omega
              clear HCF hct hlong htot
              go_wp2
              go_region_with (first
                | (go_at_call 20; refine (HUi _).mono ?_; rintro e w1 ⟨rfl, b1⟩; (have B1 : Hid (Below wr.heap.size wr w1) := bel_of (below_drewN (Below.refl _ wr) 1) b1 (Nat.le_refl _)); have hci1 := HCI.out w1 B1.out; clear b1)
                | (go_at_call 19; refine (HPt _).mono ?_; rintro e w2 ⟨rfl, b2⟩; (have B2 : Hid (Below wr.heap.size wr w2) := bel_of B1.out b2 (Nat.le_refl _)); clear b2))
              all_goals
                clear HCI hci0 hcid hci1
                go_wp2
                exact bodyPost_ret (v := .tuple #[.string ⟨#[]⟩, .int .i64 13]) (by simp [results, Try.results7, go_sem]) rfl ⟨by rw [HR.out]; rfl, bel_of HBW.out B2.out (Nat.le_refl _)⟩
          · have HR : Hid (bld (blk : Int) l = ([], 13)) := by
              show _ = _
              rw [HBD.out, if_pos]
              rw [HXI.out]
              omega
            have HPt := fun W => rPut_long 3 xi (by omega) (by have := HIX.out; omega) W
            rw [show (((3 : UInt8).toNat : Nat) : Int) = 3 from rfl] at HPt
            clear hct hlong
            go_wp2
            go_region_with (first
              | (go_at_call 20; refine (HUi _).mono ?_; rintro e w1 ⟨rfl, b1⟩; (have B1 : Hid (Below wr.heap.size wr w1) := bel_of (below_drewN (Below.refl _ wr) 1) b1 (Nat.le_refl _)); have hci1 := HCI.out w1 B1.out; clear b1)
              | (go_at_call 19; refine (HPt _).mono ?_; rintro e w2 ⟨rfl, hw2⟩; (have B2 : Hid (Below wr.heap.size wr w2) := by show Below _ _ _; rw [hw2]; exact B1.out); clear hw2))
            all_goals
              clear HCI hci0 hcid hci1
              go_wp2
              exact bodyPost_ret (v := .tuple #[.string ⟨#[]⟩, .int .i64 13]) (by simp [results, Try.results7, go_sem]) rfl ⟨by rw [HR.out]; rfl, bel_of HBW.out B2.out (Nat.le_refl _)⟩
end Go.Proofs.Ytiaeicfmdnmeeaa

/-
  The document's own blockRows: a block's rows.
-/
import Derived.Test.YtiaeicfmdnmeeaaH7Read
import Derived.Test.YtiaeicfmdnmeeaaF5Ref
import Derived.Test.YtiaeicfmdnmeeaaRefText
namespace Go.Proofs.Ytiaeicfmdnmeeaa
open Go.RowKit Go.Shelf Go.Sort
open Go.Lib hiding intOf
attribute [local go_sem] Oper.semAt_some

theorem infoRow7 : (Try.prog.info? 41).map (fun i => (i.zero, i.size, i.bytes)) = some (some (.agg #[.string ⟨#[]⟩, .string ⟨#[]⟩, .bool false]), 3, 40) := by kernel_rfl
/-- a load's rows -/
def Lr (l : List UInt8) (xs : List R7) : Prop := l = ld xs ∧ ∀ x ∈ xs, may x = 0
theorem Lr.not {l rest : List UInt8} {pre : List R7} (h1 : l = ld pre ++ rest) (h2 : ∀ x ∈ pre, may x = 0) (hr : rest ≠ []) (h3 : row1 rest = none ∨ ∃ x r, row1 rest = some (x, r) ∧ may x ≠ 0) : ¬ ∃ xs, Lr l xs := by
  rintro ⟨xs, k2, k3⟩
  obtain ⟨q, e1, e2⟩ := ld_prefix pre xs h2 k3 (by rw [← k2, h1])
  cases q with
  | nil => exact hr e2
  | cons x q =>
    subst e1
    have hm := k3 x (by simp)
    obtain ⟨a1, a2⟩ := may_len hm
    have r1 := row1_back a1 a2 (ld q)
    rw [← ld_cons, ← e2] at r1
    rcases h3 with h3 | ⟨y, r, h3, hc⟩
    · rw [h3] at r1; cases r1
    · rw [h3] at r1
      simp only [Option.some.injEq, Prod.mk.injEq] at r1
      obtain ⟨e3, _⟩ := r1
      have e4 : y = x := e3
      subst e4
      exact hc hm
theorem ld_count (q : List R7) : q.length ≤ (ld q).length := by
  induction q with
  | nil => simp
  | cons y t ih => have := rb_pos y; rw [ld_cons, List.length_append, List.length_cons]; omega
/-- what stands in the loop (b: the reader's block) -/
structure Br (w wr : World) (b : Nat) (l rest : List UInt8) (pre : List R7) (vo : Value) (e : Nat) : Prop where
  rd : Rd wr b rest e
  row : wr.ownsRow (b + 1) 41 3 vo pre.length (hcs pre)
  ok : e = 0 → l = ld pre ++ rest ∧ ∀ x ∈ pre, may x = 0
  no : e ≠ 0 → ¬ ∃ xs, Lr l xs
  bw : Below w.heap.size w wr
  sz : b + 1 ≤ wr.heap.size
  lo : w.heap.size ≤ b
/-- the reader, and what was there -/
structure Bw (w wr : World) (b : Nat) (rest : List UInt8) (e : Nat) : Prop where
  rd : Rd wr b rest e
  bw : Below w.heap.size w wr
theorem Br.grow {w wr w3 : World} {b : Nat} {l rest l3 : List UInt8} {pre : List R7} {vo : Value} {e3 : Nat} (h : Br w wr b l rest pre vo 0) (hb : But b wr w3) (hr : Rd w3 b l3 e3) (x : R7) :
    w3.ownsRow (b + 1) 41 3 vo pre.length (hcs pre) ∧ ∀ (o : Obj) (w5 : World) (v' : Value), (w3.alloc o).grownBy w5 vo.ownBlock → w5.ownsRow (b + 1) 41 3 v' (pre.length + 1) (hcs pre ++ [.string (S x.1), .string (S x.2.1), .bool x.2.2]) → Bw w w5 b l3 e3 := by
  have hs1 := hb.size
  have hs := h.sz
  have ca : Ch (fun k => k = b) wr w3 := ⟨hb.os, hb.tape, hb.output, hb.size, fun k hk hn => hb.block k hk hn⟩
  have row3 := ca.row h.row (fun k hk e => by have := (row_obj h.row hk).1; omega)
  refine ⟨row3, fun o w5 v' hg hr5 => ?_⟩
  have cg : Ch (fun k => b < k) w3 w5 := ((Ch.refl _ w3).alloc o).trans (Ch.of_grown hg (fun k e _ => by have := (row_obj row3 e).1; omega))
  have hlo := h.lo
  have hz := h.bw.size
  exact ⟨hr.of_block (cg.block _ (by omega) (by omega)) cg.size, (h.bw.trans (ca.below hz (fun k hk e => by omega))).trans (cg.below (by omega) (fun k hk e => by omega))⟩
theorem Br.step {w wr w3 : World} {b : Nat} {l rest l3 : List UInt8} {pre : List R7} {vo : Value} {e3 : Nat} (h : Br w wr b l rest pre vo 0) (hb : But b wr w3) (hr : Rd w3 b l3 e3) (x : R7) (hok : e3 = 0 → rest = rb x ++ l3 ∧ may x = 0) (hno : e3 ≠ 0 → ¬ ∃ xs, Lr l xs) :
    w3.ownsRow (b + 1) 41 3 vo pre.length (hcs pre) ∧ ∀ (o : Obj) (w5 : World) (v' : Value), (w3.alloc o).grownBy w5 vo.ownBlock → w5.ownsRow (b + 1) 41 3 v' (pre.length + 1) (hcs pre ++ [.string (S x.1), .string (S x.2.1), .bool x.2.2]) → Br w w5 b l l3 (pre ++ [x]) v' e3 := by
  have hs1 := hb.size
  have hs := h.sz
  have ca : Ch (fun k => k = b) wr w3 := ⟨hb.os, hb.tape, hb.output, hb.size, fun k hk hn => hb.block k hk hn⟩
  have row3 := ca.row h.row (fun k hk e => by have := (row_obj h.row hk).1; omega)
  refine ⟨row3, fun o w5 v' hg hr5 => ?_⟩
  have cg : Ch (fun k => b < k) w3 w5 := ((Ch.refl _ w3).alloc o).trans (Ch.of_grown hg (fun k e _ => by have := (row_obj row3 e).1; omega))
  refine ⟨hr.of_block (cg.block _ (by omega) (by omega)) cg.size, ?_, ?_, hno, ?_, by have := cg.size; omega, h.lo⟩
  · rw [hcs_snoc, List.length_append]; exact hr5
  · intro he
    obtain ⟨q1, q2⟩ := hok he
    obtain ⟨k1, k2⟩ := h.ok rfl
    refine ⟨by rw [ld_snoc, List.append_assoc, ← q1]; exact k1, fun y hy => ?_⟩
    rcases List.mem_append.1 hy with hy | hy
    · exact k2 y hy
    · rw [List.mem_singleton.1 hy]; exact q2
  · have hlo := h.lo
    have hz := h.bw.size
    exact (h.bw.trans (ca.below hz (fun k hk e => by omega))).trans (cg.below (by omega) (fun k hk e => by omega))

theorem fb_back {b l0 : List UInt8} {kd : UInt8} {n bad : Nat} (ht : tak b = (kd, l0, n, bad)) : (∃ xs, b = fb xs ∧ Gb xs) ↔ (bad = 0 ∧ n = b.length ∧ kd = 2 ∧ ∃ xs, xs ≠ [] ∧ Lr l0 xs) := by
  constructor
  · rintro ⟨xs, rfl, hg⟩
    have := fb_tak hg []
    rw [List.append_nil, ht] at this
    simp only [Prod.mk.injEq] at this
    obtain ⟨h1, h2, h3, h4⟩ := this
    exact ⟨h4, h3, h1, xs, hg.1, h2, hg.2.2⟩
  · rintro ⟨rfl, rfl, rfl, xs, h1, h2, h3⟩
    obtain ⟨e1, e2, e3⟩ := tak_one ht
    rw [List.drop_length, List.append_nil] at e1
    subst h2
    exact ⟨xs, e1, h1, e3, h3⟩
theorem isE {l : List UInt8} (h : l ≠ []) : (S l).toList.isEmpty = false := by rw [S_toList]; cases l with | nil => exact absurd rfl h | cons => rfl

set_option maxHeartbeats 4000000 in
set_option maxRecDepth 100000 in
theorem blockRows_any (b : List UInt8) (hl : b.length ≤ 1048576) (w : World) :
    Calls Try.prog 27 #[.string (S b)] w fun e w' => Below w.heap.size w w' ∧ ((∃ xs v, b = fb xs ∧ Gb xs ∧ e = .returned (.tuple #[v, .bool true]) ∧ w'.ownsRow w.heap.size 41 3 v xs.length (hcs xs)) ∨ ((¬ ∃ xs, b = fb xs ∧ Gb xs) ∧ ∃ v, e = .returned (.tuple #[v, .bool false]))) := by
  obtain ⟨i0, hi0, hz0, hz1, hz2⟩ := info_parts infoRow7
  have hsb := S_size b
  have HT := rTake_any b (by omega) w
  obtain ⟨kd, l0, n, bad, ht⟩ : ∃ kd l0 n bad, tak b = (kd, l0, n, bad) := ⟨_, _, _, _, rfl⟩
  rw [ht] at HT
  unfold quad at HT
  simp only at HT
  have HFB : Hid (_ ↔ _) := fb_back ht
  by_cases hbad : bad = 0
  · by_cases hn : n = b.length
    · by_cases hkd : kd = 2
      · subst hbad hn hkd
        have hl0 : l0.length ≤ 65536 := (tak_one ht).2.2
        have hk2 : ((UInt8.toNat 2 : Nat) : Int) = 2 := rfl
        rw [hk2] at HT
        have HTK : Hid (tak b = (2, l0, b.length, 0)) := ht
        clear ht
        go_enter Try.func27, Try.ntmps27
        go_wp2_with (go_at_call 24; refine HT.mono ?_; rintro e w1 ⟨rfl, b1⟩; have B1 : Hid (Below w.heap.size w w1) := b1; clear b1)
        have H0 : Hid (Br w (w1.alloc (.cells #[.string (S l0), .int .i64 0] 68)) w1.heap.size l0 l0 [] (.slice none 0 0) 0) := by
          have hx := heap_alloc_new w1 (.cells #[.string (S l0), .int .i64 0] 68)
          exact ⟨⟨by simp only [World.cell?, hx]; rfl, by simp only [World.cell?, hx]; rfl, by simp only [World.frozen?, hx]; rfl, by simp only [World.frozen?, hx]; rfl, by simp⟩, World.ownsRow_nil _ _ _ _, fun _ => ⟨by simp [ld], by simp⟩, fun h => absurd rfl h, B1.out.alloc B1.out.size _, by simp, B1.out.size⟩
        go_loopw [9] (fun vo wr => ∃ rest pre e, Hid (Br w wr w1.heap.size l0 rest pre vo e)) (fun _ wr => match wr.cell? ⟨w1.heap.size, 0, none⟩, wr.cell? ⟨w1.heap.size, 1, none⟩ with | some (.string s), some (.int _ e) => if e = 0 then s.size + 1 else 0 | _, _ => 0)
        case atStart => exact ⟨l0, [], 0, H0⟩
        case round =>
          obtain ⟨rest, pre, e, HT⟩ := hrel
          obtain ⟨va, vc, rfl, -⟩ := row_slice HT.out.row
          have hrd := HT.out.rd
          have g0 := hrd.rest
          have g1 := hrd.err
          clear H0
          by_cases he : e = 0
          · subst he
            obtain ⟨k1, k2⟩ := HT.out.ok rfl
            have hrl : rest.length + (ld pre).length ≤ 65536 := by have := congrArg List.length k1; rw [List.length_append] at this; omega
            have hpl := ld_count pre
            by_cases hrest : rest = []
            · subst hrest
              have hee : S [] = ⟨#[]⟩ := rfl
              rw [hee] at g0
              rw [List.append_nil] at k1
              by_cases hp : pre = []
              · subst hp
                have HN : Hid (¬ ∃ xs, b = fb xs ∧ Gb xs) := fun h => by
                  obtain ⟨-, -, -, xs, q1, q2, -⟩ := HFB.out.1 h
                  have := ld_pos q1
                  rw [← q2, k1] at this
                  simp [ld] at this
                clear k1 k2
                go_wp2
                exact bodyPost_ret (v := .tuple #[.slice va 0 vc, .bool false]) (by simp [results, Try.results27, go_sem]) rfl ⟨HT.out.bw, .inr ⟨HN.out, _, rfl⟩⟩
              · have hpp : (0 : Int) < (pre.length : Int) := by have := List.length_pos_iff.2 hp; omega
                have HY : Hid (b = fb pre ∧ Gb pre) := by
                  obtain ⟨e1, e2, e3⟩ := tak_one HTK.out
                  rw [List.drop_length, List.append_nil] at e1
                  refine ⟨?_, hp, by omega, k2⟩
                  unfold fb
                  rw [← k1]
                  exact e1
                clear k1 k2 hp
                go_wp2
                exact bodyPost_ret (v := .tuple #[.slice va pre.length vc, .bool true]) (by simp [results, Try.results27, go_sem]; omega) rfl ⟨HT.out.bw, .inl ⟨pre, _, HY.out.1, HY.out.2, rfl, row_low HT.out.row (by have := HT.out.lo; omega)⟩⟩
            · have hie := isE hrest
              obtain ⟨k, l1, e1, h1⟩ : ∃ k l1 e1, rdT 64 rest 0 = (k, l1, e1) := ⟨_, _, _, rfl⟩
              obtain ⟨m, l2, e2, h2⟩ : ∃ m l2 e2, rdB l1 e1 = (m, l2, e2) := ⟨_, _, _, rfl⟩
              obtain ⟨s, l3, e3, h3⟩ : ∃ s l3 e3, rdT 16384 l2 e2 = (s, l3, e3) := ⟨_, _, _, rfl⟩
              have hrow := row1_rd h1 h2 h3
              have q1 := rdT_le h1
              have q2 := rdB_le h2
              have q3 := rdT_le h3
              have H1 : Hid (rdT 64 rest 0 = (k, l1, e1)) := h1
              have H2 : Hid (rdB l1 e1 = (m, l2, e2)) := h2
              have H3 : Hid (rdT 16384 l2 e2 = (s, l3, e3)) := h3
              have hmm : ((m : Int) == 1) = (m == 1) := by rw [Bool.eq_iff_iff]; simp; omega
              have HM : Hid (wr.cell? ⟨w1.heap.size, 0, none⟩ = some (.string (S rest)) ∧ wr.cell? ⟨w1.heap.size, 1, none⟩ = some (.int .i64 0)) := ⟨hrd.rest, hrd.err⟩
              by_cases he3 : e3 = 0
              · subst he3
                by_cases hm1 : m ≤ 1
                · rw [if_pos ⟨rfl, hm1⟩] at hrow
                  obtain ⟨d1, d2, d3⟩ := row1_one hrow
                  simp only at d2 d3
                  have hm1' : ¬ (1 : Int) < (m : Int) := by omega
                  have hrlen : l3.length < rest.length := by have := congrArg List.length d1; have := rb_pos (k, s, m == 1); rw [List.length_append] at *; omega
                  by_cases hbad : m = 1 ∧ s ≠ []
                  · obtain ⟨rfl, hsn⟩ := hbad
                    have hse := isE hsn
                    have HN : Hid (¬ ∃ xs, b = fb xs ∧ Gb xs) := fun h => by
                      obtain ⟨-, -, -, xs, u1, u2, u3⟩ := HFB.out.1 h
                      refine Lr.not k1 k2 hrest (.inr ⟨_, _, hrow, ?_⟩) ⟨xs, u2, u3⟩
                      unfold may
                      rw [if_neg (by simp only; omega), if_pos ⟨rfl, hsn⟩]
                      decide
                    have HSTEP : Hid (∀ w4, But w1.heap.size wr w4 → Rd w4 w1.heap.size l3 0 → w4.ownsRow (w1.heap.size + 1) 41 3 (.slice va pre.length vc) pre.length (hcs pre) ∧ ∀ (o : Obj) (w5 : World) (v' : Value), (w4.alloc o).grownBy w5 (Value.slice va pre.length vc).ownBlock → w5.ownsRow (w1.heap.size + 1) 41 3 v' (pre.length + 1) (hcs pre ++ [.string (S k), .string (S s), .bool true]) → Bw w w5 w1.heap.size l3 0) := fun w4 hb hr => by
                      obtain ⟨z1, z2⟩ := HT.out.grow hb hr (k, s, true)
                      exact ⟨z1, z2⟩
                    clear k1 k2 hrest hrow d1 hm1 hsn
                    go_wp2_with (first
                      | (go_at_call_of 26 (Value.int .i64 64); refine (rText_all hrd (by omega) (by omega) (by omega) H1).mono ?_; rintro e w2 ⟨rfl, r2, b2⟩; clear hrd)
                      | (go_at_call 47; refine (rByte_all r2 H2).mono ?_; rintro e w3 ⟨rfl, r3, b3⟩; clear r2)
                      | (go_at_call 26; refine (rText_all r3 (by omega) (by omega) (by omega) H3).mono ?_; rintro e w4 ⟨rfl, r4, b4⟩; (have HB4 : Hid (But w1.heap.size wr w4) := (b2.trans b3).trans b4); have HR4 : Hid (Rd w4 w1.heap.size l3 0) := r4; have y0 := r4.rest; have y1 := r4.err; obtain ⟨rw4, Y⟩ := HSTEP.out w4 HB4.out r4; have RW4 : Hid (w4.ownsRow (w1.heap.size + 1) 41 3 (.slice va pre.length vc) pre.length (hcs pre)) := rw4; have HY : Hid _ := Y; have hw4 := r4.lt; clear r3 r4 b2 b3 b4 rw4 Y)
                      | (at_builtin; refine wpList_append_own _ rfl _ _ 22 rfl (w1.heap.size + 1) 41 i0 _ 3 40 Try.underlying22 hi0 hz0 hz1 hz2 rfl (by decide) (.slice va pre.length vc) pre.length (hcs pre) rfl (World.ownsRow.alloc RW4.out _) ⟨w4.heap.size, 0, none⟩ 1 1 [.string (S k), .string (S s), .bool true] rfl rfl (three_new _ _ rfl _ _ _ _) (by simp [Value.oneCell']) (by unfold maxLen; omega) (by omega) (by simp; omega) ?_; intro v5 w5 hown5 hgrow5 _; have HF : Hid _ := HY.out _ w5 v5 hgrow5 hown5; have z0 := HF.out.rd.rest; have z1 := HF.out.rd.err; clear hown5 hgrow5))
                    exact bodyPost_ret (v := .tuple #[.slice none 0 0, .bool false]) (by simp [results, Try.results27, go_sem]) rfl ⟨HF.out.bw, .inr ⟨HN.out, _, rfl⟩⟩
                  · have hmay : may (k, s, m == 1) = 0 := by
                      unfold may
                      rw [if_neg (by simp only; omega), if_neg]
                      rintro ⟨u1, u2⟩
                      exact hbad ⟨by simpa using u1, u2⟩
                    have HSTEP : Hid (∀ w4, But w1.heap.size wr w4 → Rd w4 w1.heap.size l3 0 → w4.ownsRow (w1.heap.size + 1) 41 3 (.slice va pre.length vc) pre.length (hcs pre) ∧ ∀ (o : Obj) (w5 : World) (v' : Value), (w4.alloc o).grownBy w5 (Value.slice va pre.length vc).ownBlock → w5.ownsRow (w1.heap.size + 1) 41 3 v' (pre.length + 1) (hcs pre ++ [.string (S k), .string (S s), .bool (m == 1)]) → Br w w5 w1.heap.size l0 l3 (pre ++ [(k, s, m == 1)]) v' 0) := fun w4 hb hr => HT.out.step hb hr (k, s, m == 1) (fun _ => ⟨d1, hmay⟩) (fun h => absurd rfl h)
                    have hor : m = 0 ∨ (m = 1 ∧ s = []) := by
                      rcases Nat.lt_or_ge m 1 with u | u
                      · exact .inl (by omega)
                      · have hm : m = 1 := by omega
                        exact .inr ⟨hm, Classical.byContradiction fun u => hbad ⟨hm, u⟩⟩
                    clear k1 k2 hrest hrow d1 hm1 hbad hmay
                    rcases hor with rfl | ⟨rfl, rfl⟩
                    · go_wp2_with (first
                        | (go_at_call_of 26 (Value.int .i64 64); refine (rText_all hrd (by omega) (by omega) (by omega) H1).mono ?_; rintro e w2 ⟨rfl, r2, b2⟩; clear hrd)
                        | (go_at_call 47; refine (rByte_all r2 H2).mono ?_; rintro e w3 ⟨rfl, r3, b3⟩; clear r2)
                        | (go_at_call 26; refine (rText_all r3 (by omega) (by omega) (by omega) H3).mono ?_; rintro e w4 ⟨rfl, r4, b4⟩; (have HB4 : Hid (But w1.heap.size wr w4) := (b2.trans b3).trans b4); have HR4 : Hid (Rd w4 w1.heap.size l3 0) := r4; have y0 := r4.rest; have y1 := r4.err; obtain ⟨rw4, Y⟩ := HSTEP.out w4 HB4.out r4; have RW4 : Hid (w4.ownsRow (w1.heap.size + 1) 41 3 (.slice va pre.length vc) pre.length (hcs pre)) := rw4; have HY : Hid _ := Y; have hw4 := r4.lt; clear r3 r4 b2 b3 b4 rw4 Y)
                        | (at_builtin; refine wpList_append_own _ rfl _ _ 22 rfl (w1.heap.size + 1) 41 i0 _ 3 40 Try.underlying22 hi0 hz0 hz1 hz2 rfl (by decide) (.slice va pre.length vc) pre.length (hcs pre) rfl (World.ownsRow.alloc RW4.out _) ⟨w4.heap.size, 0, none⟩ 1 1 [.string (S k), .string (S s), .bool ((0 : Nat) == 1)] rfl rfl (three_new _ _ rfl _ _ _ _) (by simp [Value.oneCell']) (by unfold maxLen; omega) (by omega) (by simp; omega) ?_; intro v5 w5 hown5 hgrow5 _; have HF : Hid _ := HY.out _ w5 v5 hgrow5 hown5; have z0 := HF.out.rd.rest; have z1 := HF.out.rd.err; clear hown5 hgrow5))
                      go_roundw
                      case rel => exact ⟨l3, _, 0, HF⟩
                      case measure =>
                        obtain ⟨u1, u2⟩ := HM.out
                        rw [u1, u2, z0, z1]
                        simp only [S_size]
                        simp
                        omega
                    · have hse : S [] = ⟨#[]⟩ := rfl
                      go_wp2_with (first
                        | (go_at_call_of 26 (Value.int .i64 64); refine (rText_all hrd (by omega) (by omega) (by omega) H1).mono ?_; rintro e w2 ⟨rfl, r2, b2⟩; clear hrd)
                        | (go_at_call 47; refine (rByte_all r2 H2).mono ?_; rintro e w3 ⟨rfl, r3, b3⟩; clear r2)
                        | (go_at_call 26; refine (rText_all r3 (by omega) (by omega) (by omega) H3).mono ?_; rintro e w4 ⟨rfl, r4, b4⟩; (have HB4 : Hid (But w1.heap.size wr w4) := (b2.trans b3).trans b4); have HR4 : Hid (Rd w4 w1.heap.size l3 0) := r4; have y0 := r4.rest; have y1 := r4.err; obtain ⟨rw4, Y⟩ := HSTEP.out w4 HB4.out r4; have RW4 : Hid (w4.ownsRow (w1.heap.size + 1) 41 3 (.slice va pre.length vc) pre.length (hcs pre)) := rw4; have HY : Hid _ := Y; have hw4 := r4.lt; clear r3 r4 b2 b3 b4 rw4 Y)
                        | (at_builtin; refine wpList_append_own _ rfl _ _ 22 rfl (w1.heap.size + 1) 41 i0 _ 3 40 Try.underlying22 hi0 hz0 hz1 hz2 rfl (by decide) (.slice va pre.length vc) pre.length (hcs pre) rfl (World.ownsRow.alloc RW4.out _) ⟨w4.heap.size, 0, none⟩ 1 1 [.string (S k), .string (S []), .bool ((1 : Nat) == 1)] rfl rfl (three_new _ _ rfl _ _ _ _) (by simp [Value.oneCell']) (by unfold maxLen; omega) (by omega) (by simp; omega) ?_; intro v5 w5 hown5 hgrow5 _; have HF : Hid _ := HY.out _ w5 v5 hgrow5 hown5; have z0 := HF.out.rd.rest; have z1 := HF.out.rd.err; clear hown5 hgrow5))
                      go_roundw
                      case rel => exact ⟨l3, _, 0, HF⟩
                      case measure =>
                        obtain ⟨u1, u2⟩ := HM.out
                        rw [u1, u2, z0, z1]
                        simp only [S_size]
                        simp
                        omega
                · have hm1' : (1 : Int) < (m : Int) := by omega
                  rw [if_neg (by omega)] at hrow
                  have HN : Hid (¬ ∃ xs, b = fb xs ∧ Gb xs) := fun h => by
                    obtain ⟨-, -, -, xs, u1, u2, u3⟩ := HFB.out.1 h
                    exact Lr.not k1 k2 hrest (.inl hrow) ⟨xs, u2, u3⟩
                  have HSTEP : Hid (∀ w4, But w1.heap.size wr w4 → Rd w4 w1.heap.size l3 0 → w4.ownsRow (w1.heap.size + 1) 41 3 (.slice va pre.length vc) pre.length (hcs pre) ∧ ∀ (o : Obj) (w5 : World) (v' : Value), (w4.alloc o).grownBy w5 (Value.slice va pre.length vc).ownBlock → w5.ownsRow (w1.heap.size + 1) 41 3 v' (pre.length + 1) (hcs pre ++ [.string (S k), .string (S s), .bool ((m : Int) == 1)]) → Bw w w5 w1.heap.size l3 0) := fun w4 hb hr => HT.out.grow hb hr (k, s, (m : Int) == 1)
                  clear k1 k2 hrest hrow hm1 hmm
                  go_wp2_with (first
                    | (go_at_call_of 26 (Value.int .i64 64); refine (rText_all hrd (by omega) (by omega) (by omega) H1).mono ?_; rintro e w2 ⟨rfl, r2, b2⟩; clear hrd)
                    | (go_at_call 47; refine (rByte_all r2 H2).mono ?_; rintro e w3 ⟨rfl, r3, b3⟩; clear r2)
                    | (go_at_call 26; refine (rText_all r3 (by omega) (by omega) (by omega) H3).mono ?_; rintro e w4 ⟨rfl, r4, b4⟩; (have HB4 : Hid (But w1.heap.size wr w4) := (b2.trans b3).trans b4); have HR4 : Hid (Rd w4 w1.heap.size l3 0) := r4; have y0 := r4.rest; have y1 := r4.err; obtain ⟨rw4, Y⟩ := HSTEP.out w4 HB4.out r4; have RW4 : Hid (w4.ownsRow (w1.heap.size + 1) 41 3 (.slice va pre.length vc) pre.length (hcs pre)) := rw4; have HY : Hid _ := Y; have hw4 := r4.lt; clear r3 r4 b2 b3 b4 rw4 Y)
                    | (at_builtin; refine wpList_append_own _ rfl _ _ 22 rfl (w1.heap.size + 1) 41 i0 _ 3 40 Try.underlying22 hi0 hz0 hz1 hz2 rfl (by decide) (.slice va pre.length vc) pre.length (hcs pre) rfl (World.ownsRow.alloc RW4.out _) ⟨w4.heap.size, 0, none⟩ 1 1 [.string (S k), .string (S s), .bool ((m : Int) == 1)] rfl rfl (three_new _ _ rfl _ _ _ _) (by simp [Value.oneCell']) (by unfold maxLen; omega) (by omega) (by simp; omega) ?_; intro v5 w5 hown5 hgrow5 _; have HF : Hid _ := HY.out _ w5 v5 hgrow5 hown5; have z0 := HF.out.rd.rest; have z1 := HF.out.rd.err; clear hown5 hgrow5))
                  exact bodyPost_ret (v := .tuple #[.slice none 0 0, .bool false]) (by simp [results, Try.results27, go_sem]) rfl ⟨HF.out.bw, .inr ⟨HN.out, _, rfl⟩⟩
              · rw [if_neg (by omega)] at hrow
                have HN : Hid (¬ ∃ xs, Lr l0 xs) := Lr.not k1 k2 hrest (.inl hrow)
                have HSTEP : Hid (∀ w4, But w1.heap.size wr w4 → Rd w4 w1.heap.size l3 e3 → w4.ownsRow (w1.heap.size + 1) 41 3 (.slice va pre.length vc) pre.length (hcs pre) ∧ ∀ (o : Obj) (w5 : World) (v' : Value), (w4.alloc o).grownBy w5 (Value.slice va pre.length vc).ownBlock → w5.ownsRow (w1.heap.size + 1) 41 3 v' (pre.length + 1) (hcs pre ++ [.string (S k), .string (S s), .bool ((m : Int) == 1)]) → Br w w5 w1.heap.size l0 l3 (pre ++ [(k, s, (m : Int) == 1)]) v' e3) := fun w4 hb hr => HT.out.step hb hr (k, s, (m : Int) == 1) (fun h => absurd h he3) (fun _ => HN.out)
                have hne : ((e3 : Int) == 0) = false := by rw [beq_eq_false_iff_ne]; omega
                clear k1 k2 hrest hrow hmm
                go_wp2_with (first
                  | (go_at_call_of 26 (Value.int .i64 64); refine (rText_all hrd (by omega) (by omega) (by omega) H1).mono ?_; rintro e w2 ⟨rfl, r2, b2⟩; clear hrd)
                  | (go_at_call 47; refine (rByte_all r2 H2).mono ?_; rintro e w3 ⟨rfl, r3, b3⟩; clear r2)
                  | (go_at_call 26; refine (rText_all r3 (by omega) (by omega) (by omega) H3).mono ?_; rintro e w4 ⟨rfl, r4, b4⟩; (have HB4 : Hid (But w1.heap.size wr w4) := (b2.trans b3).trans b4); have HR4 : Hid (Rd w4 w1.heap.size l3 e3) := r4; have y0 := r4.rest; have y1 := r4.err; obtain ⟨rw4, Y⟩ := HSTEP.out w4 HB4.out r4; have RW4 : Hid (w4.ownsRow (w1.heap.size + 1) 41 3 (.slice va pre.length vc) pre.length (hcs pre)) := rw4; have HY : Hid _ := Y; have hw4 := r4.lt; clear r3 r4 b2 b3 b4 rw4 Y)
                  | (at_builtin; refine wpList_append_own _ rfl _ _ 22 rfl (w1.heap.size + 1) 41 i0 _ 3 40 Try.underlying22 hi0 hz0 hz1 hz2 rfl (by decide) (.slice va pre.length vc) pre.length (hcs pre) rfl (World.ownsRow.alloc RW4.out _) ⟨w4.heap.size, 0, none⟩ 1 1 [.string (S k), .string (S s), .bool ((m : Int) == 1)] rfl rfl (three_new _ _ rfl _ _ _ _) (by simp [Value.oneCell']) (by unfold maxLen; omega) (by omega) (by simp; omega) ?_; intro v5 w5 hown5 hgrow5 _; have HF : Hid _ := HY.out _ w5 v5 hgrow5 hown5; have z0 := HF.out.rd.rest; have z1 := HF.out.rd.err; clear hown5 hgrow5))
                go_roundw
                case rel => exact ⟨l3, _, e3, HF⟩
                case measure =>
                  obtain ⟨u1, u2⟩ := HM.out
                  rw [u1, u2, z0, z1]
                  simp [he3]
          · have hne : ((e : Int) == 0) = false := by rw [beq_eq_false_iff_ne]; omega
            have HN : Hid (¬ ∃ xs, b = fb xs ∧ Gb xs) := fun h => by
              obtain ⟨-, -, -, xs, q1, q2, q3⟩ := HFB.out.1 h
              exact HT.out.no he ⟨xs, q2, q3⟩
            clear he
            go_wp2
            exact bodyPost_ret (v := .tuple #[.slice va pre.length vc, .bool false]) (by simp [results, Try.results27, go_sem]) rfl ⟨HT.out.bw, .inr ⟨HN.out, _, rfl⟩⟩
      · have hne : ((kd.toNat : Int) != 2) = true := by
          rw [bne_iff_ne]
          intro e
          exact hkd (UInt8.toNat_inj.1 (show kd.toNat = 2 by omega))
        have HN : Hid (¬ ∃ xs, b = fb xs ∧ Gb xs) := fun h => hkd (HFB.out.1 h).2.2.1
        subst hbad hn
        clear ht hkd
        go_enter Try.func27, Try.ntmps27
        go_wp2_with (go_at_call 24; refine HT.mono ?_; rintro e w1 ⟨rfl, b1⟩; have B1 : Hid (Below w.heap.size w w1) := b1; clear b1)
        exact bodyPost_ret (v := .tuple #[.slice none 0 0, .bool false]) (by simp [results, Try.results27, go_sem]) rfl ⟨B1.out, .inr ⟨HN.out, _, rfl⟩⟩
    · have hne : ((n : Int) != (b.length : Int)) = true := by rw [bne_iff_ne]; omega
      have HN : Hid (¬ ∃ xs, b = fb xs ∧ Gb xs) := fun h => hn (HFB.out.1 h).2.1
      subst hbad
      clear ht hn
      go_enter Try.func27, Try.ntmps27
      go_wp2_with (go_at_call 24; refine HT.mono ?_; rintro e w1 ⟨rfl, b1⟩; have B1 : Hid (Below w.heap.size w w1) := b1; clear b1)
      exact bodyPost_ret (v := .tuple #[.slice none 0 0, .bool false]) (by simp [results, Try.results27, go_sem]) rfl ⟨B1.out, .inr ⟨HN.out, _, rfl⟩⟩
  · have hne : ((bad : Int) != 0) = true := by rw [bne_iff_ne]; omega
    have HN : Hid (¬ ∃ xs, b = fb xs ∧ Gb xs) := fun h => hbad (HFB.out.1 h).1
    clear ht hbad
    go_enter Try.func27, Try.ntmps27
    go_wp2_with (go_at_call 24; refine HT.mono ?_; rintro e w1 ⟨rfl, b1⟩; have B1 : Hid (Below w.heap.size w w1) := b1; clear b1)
    exact bodyPost_ret (v := .tuple #[.slice none 0 0, .bool false]) (by simp [results, Try.results27, go_sem]) rfl ⟨B1.out, .inr ⟨HN.out, _, rfl⟩⟩
end Go.Proofs.Ytiaeicfmdnmeeaa

/-
  Package run: a block's rows (takeCells).
-/
import Derived.Test.YtiaeicfmdnmeeaaH7Take
import Derived.Test.YtiaeicfmdnmeeaaH7Wr
namespace Go.Proofs.Ytiaeicfmdnmeeaa
open Go.RowKit Go.Shelf Go.Sort
open Go.Lib hiding intOf

theorem ld_prefix : ∀ (pre xs : List R7) {rest : List UInt8}, (∀ x ∈ pre, may x = 0) → (∀ x ∈ xs, may x = 0) → ld xs = ld pre ++ rest → ∃ q, xs = pre ++ q ∧ rest = ld q
  | [], xs, rest, _, _, h => ⟨xs, rfl, h.symm⟩
  | x :: p, [], rest, _, _, h => by
    have := congrArg List.length h
    have hp := rb_pos x
    rw [ld_cons, List.length_append, List.length_append] at this
    simp [ld] at this
    omega
  | x :: p, y :: t, rest, hp, hx, h => by
    rw [ld_cons, ld_cons, List.append_assoc] at h
    obtain ⟨a1, a2⟩ := may_len (hp x (by simp))
    obtain ⟨c1, c2⟩ := may_len (hx y (by simp))
    have r1 := row1_back a1 a2 (ld p ++ rest)
    rw [← h, row1_back c1 c2] at r1
    simp only [Option.some.injEq, Prod.mk.injEq] at r1
    obtain ⟨e1, e2⟩ := r1
    obtain ⟨q, e3, e4⟩ := ld_prefix p t (fun z hz => hp z (by simp [hz])) (fun z hz => hx z (by simp [hz])) e2
    have e5 : y = x := e1
    subst e5
    exact ⟨q, by rw [e3]; rfl, e4⟩
/-- a load's rows, behind a key -/
def Tk (a : Option (List UInt8)) (l : List UInt8) (xs : List R7) : Prop := xs ≠ [] ∧ l = ld xs ∧ flt a xs = 0
theorem Tk.not {a : Option (List UInt8)} {l rest : List UInt8} {pre : List R7} (h1 : l = ld pre ++ rest) (h2 : flt a pre = 0) (hr : rest ≠ []) (h : row1 rest = none ∨ ∃ x r, row1 rest = some (x, r) ∧ chk (las a pre) x ≠ 0) : ¬ ∃ xs, Tk a l xs := by
  rintro ⟨xs, _, k2, k3⟩
  obtain ⟨q, e1, e2⟩ := ld_prefix pre xs (flt_may h2) (flt_may k3) (by rw [← k2, h1])
  cases q with
  | nil => exact hr e2
  | cons x q =>
    subst e1
    rw [flt_ok h2] at k3
    have hm := flt_may k3 x (by simp)
    obtain ⟨a1, a2⟩ := may_len hm
    have r1 := row1_back a1 a2 (ld q)
    rw [← ld_cons, ← e2] at r1
    rcases h with h | ⟨y, r, h, hc⟩
    · rw [h] at r1; cases r1
    · rw [h] at r1
      simp only [Option.some.injEq, Prod.mk.injEq] at r1
      obtain ⟨e3, _⟩ := r1
      have e4 : y = x := e3
      subst e4
      rw [flt, if_pos hc] at k3
      exact hc k3
/-- what stands in the loop -/
structure Tc (w wr : World) (ba bb : Nat) (a : Option (List UInt8)) (l rest : List UInt8) (pre : List R7) (vc : Value) : Prop where
  rd : Rd wr w.heap.size rest 0
  row : wr.ownsRow (w.heap.size + 1) 76 3 vc pre.length (hcs pre)
  ck : Ck wr ba bb (las a pre)
  fl : flt a pre = 0
  eq : l = ld pre ++ rest
  ch : Ch (fun k => k = ba ∨ k = bb) w wr
  sz : w.heap.size + 1 ≤ wr.heap.size
theorem three_new (W : World) (n : Nat) (hn : n = W.heap.size) (x y z : Value) (t : TypeId) : ∀ j u, ([x, y, z] : List Value)[j]? = some u → (W.alloc (.cells #[x, y, z] t)).cell? ((⟨n, 0, none⟩ : Addr).add j) = some u := by
  subst hn
  intro j u hj
  rw [Addr.add_lit]
  match j, hj with
  | 0, hj => simp at hj; subst hj; simp
  | 1, hj => simp at hj; subst hj; simp
  | 2, hj => simp at hj; subst hj; simp
theorem Tc.step {w wr w1 w2 : World} {ba bb : Nat} {a : Option (List UInt8)} {l rest r : List UInt8} {pre : List R7} {vc : Value} {x : R7} (h : Tc w wr ba bb a l rest pre vc) (hba : ba < w.heap.size) (hbb : bb < w.heap.size)
    (hb : But w.heap.size wr w1) (hr : Rd w1 w.heap.size r 0) (hx : row1 rest = some (x, r)) (hc : Ch (fun k => k = ba ∨ k = bb) (w1.alloc (.cells #[.string (S x.1), .string (S x.2.1), .bool x.2.2] 76)) w2) (h0 : chk (las a pre) x = 0) (hk : Ck w2 ba bb (some x.1)) :
    w2.cell? ⟨w1.heap.size, 0, none⟩ = some (.string (S x.1)) ∧ w2.cell? ⟨w1.heap.size, 1, none⟩ = some (.string (S x.2.1)) ∧ w2.cell? ⟨w1.heap.size, 2, none⟩ = some (.bool x.2.2) ∧ w2.ownsRow (w.heap.size + 1) 76 3 vc pre.length (hcs pre) ∧ w.heap.size + 1 ≤ w2.heap.size ∧ w1.heap.size < w2.heap.size ∧
      ∀ (o : Obj) (w3 : World) (v' : Value), (w2.alloc o).grownBy w3 vc.ownBlock → w3.ownsRow (w.heap.size + 1) 76 3 v' (pre.length + 1) (hcs pre ++ [.string (S x.1), .string (S x.2.1), .bool x.2.2]) → Tc w w3 ba bb a l r (pre ++ [x]) v' := by
  have hs1 := hb.size
  have hs := h.sz
  have ca : Ch (fun k => k = w.heap.size) wr w1 := ⟨hb.os, hb.tape, hb.output, hb.size, fun k hk hn => hb.block k hk hn⟩
  have hs2 := hc.size
  simp only [World.size_alloc] at hs2
  have xb := hc.obj (heap_alloc_new w1 _) (by omega)
  have row1' : (w1.alloc (.cells #[.string (S x.1), .string (S x.2.1), .bool x.2.2] 76)).ownsRow (w.heap.size + 1) 76 3 vc pre.length (hcs pre) := (ca.row h.row (fun k hk e => by have := (row_obj h.row hk).1; omega)).alloc _
  have row2 := hc.row row1' (fun k hk e => by have := (row_obj row1' hk).1; omega)
  obtain ⟨e1, m1, m2⟩ := row1_one hx
  refine ⟨by simp [World.cell?, xb], by simp [World.cell?, xb], by simp [World.cell?, xb], row2, by omega, by omega, ?_⟩
  intro o w3 v' hg hr3
  have cg : Ch (fun k => w.heap.size < k) w2 w3 := ((Ch.refl _ w2).alloc o).trans (Ch.of_grown hg (fun k e _ => by have := (row_obj row2 e).1; omega))
  have rd2 : Rd w2 w.heap.size r 0 := (hr.alloc _).of_block (hc.block _ (by simp; omega) (by omega)) (by simp; omega)
  refine ⟨rd2.of_block (cg.block _ (by omega) (by omega)) cg.size, ?_, ?_, ?_, ?_, ?_, by have := cg.size; omega⟩
  · rw [hcs_snoc, List.length_append]; exact hr3
  · rw [las_snoc]; exact hk.ch cg (by omega) (by omega)
  · rw [flt_ok h.fl, flt, if_neg (by simpa using h0), flt]
  · rw [ld_snoc, List.append_assoc, ← e1]; exact h.eq
  · refine ((h.ch.join ca (fun k hk e => by omega)).alloc _).join hc (fun k _ e => e) |>.join cg (fun k hk e => by omega)

set_option maxHeartbeats 4000000 in
set_option maxRecDepth 100000 in
theorem takeCells_any {w : World} {ba bb : Nat} {a : Option (List UInt8)} (hk : Ck w ba bb a) (l : List UInt8) (hl : l.length ≤ 65536) :
    Calls Try.prog 40 #[.string (S l), ckv ba bb] w fun e w' => Ch (fun k => k = ba ∨ k = bb) w w' ∧ ((∃ xs v, Tk a l xs ∧ e = .returned (.tuple #[v, .bool true]) ∧ w'.ownsRow w.heap.size 76 3 v xs.length (hcs xs) ∧ Ck w' ba bb (las a xs)) ∨ ((¬ ∃ xs, Tk a l xs) ∧ ∃ v, e = .returned (.tuple #[v, .bool false]))) := by
  obtain ⟨i0, hi0, hz0, hz1, hz2⟩ := info_parts infoChange
  have hba := hk.ka.lt
  have hbb := hk.kb.lt
  have HK : Hid (Ck w ba bb a) := hk
  have ent : Ent0 49 := enters_of Try.func49 (by kernel_rfl) rfl
  unfold Ent0 at ent
  clear hk
  unfold ckv
  go_enter Try.func40, Try.ntmps40
  go_wp2_with fail
  refine (wRead_any l _).mono ?_
  rintro e w1 ⟨rfl, hr1, hb1, hs1⟩
  have H0 : Hid (Tc w w1 ba bb a l l [] (.slice none 0 0)) := ⟨hr1, World.ownsRow_nil _ _ _ _, HK.out.ch (X := fun _ => False) (Ch.of_below hb1) id id, rfl, by simp [ld], Ch.of_below hb1, by omega⟩
  clear hr1 hb1 hs1
  go_wp2_with fail
  go_loopw [6] (fun vc wr => ∃ rest pre, Hid (Tc w wr ba bb a l rest pre vc)) (fun _ wr => match wr.cell? ⟨w.heap.size, 0, none⟩ with | some (.string s) => s.size | _ => 0)
  case atStart => exact ⟨l, [], H0⟩
  case round =>
    obtain ⟨rest, pre, HT⟩ := hrel
    obtain ⟨va, vc, rfl, -⟩ := row_slice HT.out.row
    have hrl : rest.length + (ld pre).length ≤ 65536 := by have := congrArg List.length HT.out.eq; rw [List.length_append] at this; omega
    have hpl : pre.length ≤ (ld pre).length := by
      have : ∀ q : List R7, q.length ≤ (ld q).length := fun q => by
        induction q with
        | nil => simp
        | cons y t ih => have := rb_pos y; rw [ld_cons, List.length_append, List.length_cons]; omega
      exact this pre
    have hrd := HT.out.rd
    by_cases hrest : rest = []
    · subst hrest
      have hz : ¬ (0 : Int) < (([] : List UInt8).length : Int) := by simp
      have HL := Left_any hrd
      have heq : l = ld pre := by have := HT.out.eq; rwa [List.append_nil] at this
      have HEQ : Hid (l = ld pre) := heq
      clear heq hrd
      by_cases hp : pre = []
      · subst hp
        have HN : Hid (¬ ∃ xs, Tk a l xs) := by
          rintro ⟨xs, k1, k2, _⟩
          have := ld_pos k1
          rw [← k2, HEQ.out] at this
          simp [ld] at this
        go_wp2_with (first | (go_at_call 57; refine HL.mono ?_; rintro e w2 ⟨rfl, rfl⟩))
        go_ret2
        exact ⟨HT.out.ch, .inr ⟨HN.out, _, rfl⟩⟩
      · have hpp : (0 : Int) < (pre.length : Int) := by have := List.length_pos_iff.2 hp; omega
        have HP : Hid (pre ≠ []) := hp
        clear hp
        go_wp2_with (first | (go_at_call 57; refine HL.mono ?_; rintro e w2 ⟨rfl, rfl⟩))
        go_ret2
        have hd : decide (0 < pre.length) = true := decide_eq_true (List.length_pos_iff.2 HP.out)
        exact ⟨HT.out.ch, .inl ⟨pre, .slice va pre.length vc, ⟨HP.out, HEQ.out, HT.out.fl⟩, congrArg (fun b => Ending.returned (.tuple #[.slice va pre.length vc, .bool b])) hd, row_low HT.out.row (by omega), HT.out.ck⟩⟩
    · have hz : (0 : Int) < (rest.length : Int) := by have := List.length_pos_iff.2 hrest; omega
      have HL := Left_any hrd
      have HTC := takeCell_any hrd (by omega)
      have HRS : Hid (rest ≠ []) := hrest
      have HM : Hid (wr.cell? ⟨w.heap.size, 0, none⟩ = some (.string (S rest))) := hrd.rest
      clear hrest hrd
      cases hrow : row1 rest with
      | none =>
        rw [hrow] at HTC
        simp only at HTC
        have HN : Hid (¬ ∃ xs, Tk a l xs) := Tk.not HT.out.eq HT.out.fl HRS.out (.inl hrow)
        clear hrow
        go_wp2_with (first
          | (go_at_call 57; refine HL.mono ?_; rintro e w2 ⟨rfl, rfl⟩)
          | (go_at_call 58; refine HTC.mono ?_; rintro e w3 ⟨hb3, rfl⟩; have HB3 : Hid _ := hb3; clear hb3))
        go_ret2
        refine ⟨?_, .inr ⟨HN.out, _, rfl⟩⟩
        have ca : Ch (fun k => k = w.heap.size) _ w3 := ⟨HB3.out.os, HB3.out.tape, HB3.out.output, HB3.out.size, fun k hk hn => HB3.out.block k hk hn⟩
        exact (HT.out.ch.join ca (fun k hk e => by omega)).alloc _
      | some xr =>
        obtain ⟨x, r⟩ := xr
        rw [hrow] at HTC
        simp only [chv] at HTC
        obtain ⟨e1, m1, m2⟩ := row1_one hrow
        have HRW : Hid (row1 rest = some (x, r)) := hrow
        have hrlen : r.length < rest.length := by have := congrArg List.length e1; have := rb_pos x; rw [List.length_append] at *; omega
        clear hrow e1
        have HCK : Hid (∀ w3, But w.heap.size wr w3 → Ck (w3.alloc (.cells #[.string (S x.1), .string (S x.2.1), .bool x.2.2] 76)) ba bb (las a pre)) := fun w3 hb => by
          have ca : Ch (fun k => k = w.heap.size) wr w3 := ⟨hb.os, hb.tape, hb.output, hb.size, fun k hk hn => hb.block k hk hn⟩
          exact (HT.out.ck.ch ca (by omega) (by omega)).ch ((Ch.refl (fun _ => False) w3).alloc _) id id
        by_cases h0 : chk (las a pre) x = 0
        · go_wp2_with (first
            | (go_at_call 57; refine HL.mono ?_; rintro e w2 ⟨rfl, rfl⟩)
            | (go_at_call 58; refine HTC.mono ?_; rintro e w3 ⟨hb3, rfl, hr3⟩; have hchk := chk_any (HCK.out w3 hb3) x (by omega) (by omega); simp only [encc, cv, List.append_toArray, List.cons_append, List.nil_append] at hchk; rw [h0] at hchk; have HB3 : Hid _ := hb3; have HR3 : Hid _ := hr3; clear hb3 hr3)
            | (go_at_call 49; refine hchk.mono ?_; rintro e w4 ⟨rfl, hk4, hc4⟩; obtain ⟨y0, y1, y2, y3, y4, y5, y6⟩ := HT.out.step hba hbb HB3.out HR3.out HRW.out hc4 h0 (hk4 trivial); have Y3 : Hid _ := y3; have Y6 : Hid _ := y6; clear y3 y6 hk4 hc4)
            | (at_builtin; refine wpList_append_own _ rfl _ _ 57 rfl (w.heap.size + 1) 76 i0 _ 3 40 Try.underlying57 hi0 hz0 hz1 hz2 rfl (by decide) (.slice va pre.length vc) pre.length (hcs pre) rfl (World.ownsRow.alloc Y3.out _) ⟨w4.heap.size, 0, none⟩ 1 1 [.string (S x.1), .string (S x.2.1), .bool x.2.2] rfl rfl (three_new _ _ rfl _ _ _ _) (by simp [Value.oneCell']) (by unfold maxLen; omega) (by omega) (by simp; omega) ?_; intro v5 w5 hown5 hgrow5 _; have HF : Hid _ := Y6.out _ w5 v5 hgrow5 hown5; clear hown5 hgrow5))
          go_roundw
          case rel => exact ⟨r, pre ++ [x], HF⟩
          case measure =>
            have e1 := HF.out.rd.rest
            rw [HM.out, e1]
            simp only [S_size]
            exact hrlen
        · have hne : ((chk (las a pre) x : Int) != 0) = true := by rw [bne_iff_ne]; omega
          have HN : Hid (¬ ∃ xs, Tk a l xs) := Tk.not HT.out.eq HT.out.fl HRS.out (.inr ⟨x, r, HRW.out, h0⟩)
          clear h0
          go_wp2_with (first
            | (go_at_call 57; refine HL.mono ?_; rintro e w2 ⟨rfl, rfl⟩)
            | (go_at_call 58; refine HTC.mono ?_; rintro e w3 ⟨hb3, rfl, hr3⟩; have hchk := chk_any (HCK.out w3 hb3) x (by omega) (by omega); simp only [encc, cv, List.append_toArray, List.cons_append, List.nil_append] at hchk; have HB3 : Hid (But w.heap.size _ w3) := hb3; clear hb3 hr3)
            | (go_at_call 49; refine hchk.mono ?_; rintro e w4 ⟨rfl, -, hc4⟩; have HC4 : Hid _ := hc4; clear hc4))
          go_ret2
          refine ⟨?_, .inr ⟨HN.out, _, rfl⟩⟩
          have ca : Ch (fun k => k = w.heap.size) _ w3 := ⟨HB3.out.os, HB3.out.tape, HB3.out.output, HB3.out.size, fun k hk hn => HB3.out.block k hk hn⟩
          exact ((HT.out.ch.join ca (fun k hk e => by omega)).alloc _).join HC4.out (fun _ _ h => h)
end Go.Proofs.Ytiaeicfmdnmeeaa

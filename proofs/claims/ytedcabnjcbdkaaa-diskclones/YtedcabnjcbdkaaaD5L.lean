/-
  Package disk's Clone: a new disk that has the same.
-/
import Derived.Test.YtedcabnjcbdkaaaD5K
import Derived.Deep.RegionHeld3
namespace Go.Proofs.Ytedcabnjcbdkaaa
open Go.RowKit Go.Shelf Go.Sort
open Go.Lib hiding intOf
variable {w : World} {B d : Nat} {es : List Le} {p : Int} {off : Bool} {mo : Option Nat}

/-- the new disk, when it is empty -/
abbrev fobj (w : World) (p : Int) (off : Bool) : Obj := .cells #[.map (some (w.heap.size + 1)), .bool (decide (0 ≤ p)), .int .i64 (max p 0), .bool off] 60
theorem fresh (hp : -1 ≤ p ∧ p ≤ 9223372036854775807) (w : World) : Ld ((w.alloc (fobj w p off)).alloc (.map #[] 0)) w.heap.size w.heap.size [] p off (some (w.heap.size + 1)) := by
  have hs : (w.alloc (fobj w p off)).heap.size = w.heap.size + 1 := by simp
  have h0 := heap_alloc_new w (fobj w p off)
  have h1 := (((Below.refl _ (w.alloc (fobj w p off))).alloc (Nat.le_refl _) (.map #[] 0)).block w.heap.size (by rw [hs]; omega)).trans h0
  refine ⟨h1, ?_, (fun e => by cases e), fun _ h => (by cases h), fun _ h => (by cases h), List.Pairwise.nil, ⟨Nat.le_refl _, fun mb e => ?_⟩, by simp, fun _ h => (by cases h), hp⟩
  · intro mb e
    cases e
    have := World.ownsMap_made (H := Unit) (w.alloc (fobj w p off)) Try.prog 9 rdF
    rw [hs] at this
    exact this
  · cases e
    omega
theorem fresh_below (w : World) (o : Obj) : Below w.heap.size w ((w.alloc o).alloc (.map #[] 0)) :=
  ((Below.refl _ w).alloc (Nat.le_refl _) _).alloc (by simp) _
/-- what stands in the loop: the new disk has what has come -/
def JL (w : World) (es : List Le) (p : Int) (off : Bool) (mb : Nat) (left : Lit → Bool) (cnt : Nat) (wr : World) : Prop :=
  wr.ranges Try.prog 9 rdF mb (w.heap.size + 2) es.length (.map (ents dg es)) left cnt ∧ Below w.heap.size w wr ∧
    ∃ es', Ld wr w.heap.size w.heap.size es' p off (some (w.heap.size + 1)) ∧ es'.length + cnt ≤ es.length ∧ ∀ f, f ∈ fil es' ↔ f ∈ fil es ∧ left (.string f.1.data.toList) = false
theorem ranges_ch {w w' : World} {k : TypeId} {R : Value → Option (DataW Unit × List MemPlace)} {b r n : Nat} {D : DataW Unit} {left : Lit → Bool} {cnt : Nat} {X : Nat → Prop} (h : w.ranges Try.prog k R b r n D left cnt) (hc : Ch X w w') (hb : ¬ X b) (hr : ¬ X r) : w'.ranges Try.prog k R b r n D left cnt := by
  obtain ⟨a, b, c, e, f, h1, h2, h3, h4, h5, h6⟩ := h
  exact ⟨a, b, c, e, f, hc.obj h1 hb, h2, h3, h4, hc.obj h5 hr, h6⟩
theorem ranges_iter {w : World} {k : TypeId} {R : Value → Option (DataW Unit × List MemPlace)} {b r n : Nat} {D : DataW Unit} {left : Lit → Bool} {cnt : Nat} (h : w.ranges Try.prog k R b r n D left cnt) : ∃ b s e c, w.heap[r]? = some (.mapIter b s e c) := by
  obtain ⟨a, b, c, e, f, h1, h2, h3, h4, h5, h6⟩ := h
  exact ⟨_, _, _, _, h5⟩
theorem Ld.not_iter (h : Ld w B d es p off mo) {x : Nat} (hx : foot d mo es x) {b : Option Nat} {s : Nat} {e : Array Nat} {c : Nat} : w.heap[x]? ≠ some (.mapIter b s e c) := by
  intro hi
  rcases h.kind hx with ⟨a, c, h1⟩ | ⟨cur, t, h1, _⟩ <;> rw [hi] at h1 <;> cases h1
/-- the step of the range: only its own block turns -/
theorem cl_next {wr w1 : World} {mb : Nat} {left : Lit → Bool} {cnt : Nat} {es' : List Le} (hr : wr.ranges Try.prog 9 rdF mb (w.heap.size + 2) es.length (.map (ents dg es)) left cnt) (hbw : Below w.heap.size w wr)
    (L : Ld wr w.heap.size w.heap.size es' p off (some (w.heap.size + 1))) (hg : wr.grownBy w1 (some (w.heap.size + 2))) : Below w.heap.size w w1 ∧ Ld w1 w.heap.size w.heap.size es' p off (some (w.heap.size + 1)) := by
  have C : Ch (fun x => x = w.heap.size + 2) wr w1 := Ch.of_grown hg (fun k e _ => by cases e; rfl)
  obtain ⟨b, s, e, c, hi⟩ := ranges_iter hr
  refine ⟨hbw.trans (C.below hbw.size (fun k hk e => by omega)), L.ch C (fun x hx e1 => ?_)⟩
  subst e1
  exact L.not_iter hx hi
/-- the file that has come is laid into the new map -/
theorem cl_step {w1 w2 : World} {mb : Nat} {left : Lit → Bool} {cnt cnt' : Nat} {es' : List Le} {x : ByteArray} {v : Lv} {v' : Value} (H : Ld w B d es p off (some mb)) (hbw : Below w.heap.size w w1) (L1 : Ld w1 w.heap.size w.heap.size es' p off (some (w.heap.size + 1)))
    (hmem : ∀ f, f ∈ fil es' ↔ f ∈ fil es ∧ left (.string f.1.data.toList) = false) (hlen : es'.length + cnt ≤ es.length) (hcnt : cnt' < cnt) (hm : (x, v) ∈ es) (hl : left (.string x.data.toList) = true)
    (hrow : w2.ownsRow w1.heap.size 5 1 v' v.all.size (strCells v.all)) (hb : Below w1.heap.size w1 w2)
    (hrg : w1.ranges Try.prog 9 rdF mb (w.heap.size + 2) es.length (.map (ents dg es)) (fun z => left z && !z.sameKey (.string x.data.toList)) cnt') :
    ∃ w5, (Instr.mapUpdate 58 (.map (some (w.heap.size + 1))) (.string x) (.pointer (some ⟨w2.heap.size, 0, none⟩))).run Try.prog (w2.alloc (.cells #[v', .int .i64 (v.safe.size : Int)] 65)) = .ok () w5 ∧
      JL w es p off mb (fun z => left z && !z.sameKey (.string x.data.toList)) cnt' w5 := by
  have hsm := H.small _ hm
  have hfew := H.few
  have hno : has es' x = false := by
    cases hh : has es' x with
    | false => rfl
    | true =>
      obtain ⟨u, hu⟩ := has_mem hh
      have := ((hmem _).1 (fil_mem hu)).2
      rw [hl] at this
      cases this
  have L2 := L1.below hb
  have hal : Below w2.heap.size w2 (w2.alloc (.cells #[v', .int .i64 (v.safe.size : Int)] 65)) := (Below.refl _ w2).alloc (Nat.le_refl _) _
  have L4 := L2.below hal
  have s1 := hbw.size
  have s2 := hb.size
  have F4 : Fw (w2.alloc (.cells #[v', .int .i64 (v.safe.size : Int)] 65)) w.heap.size ⟨v.safe, v.rest, w2.heap.size, v'⟩ := ⟨heap_alloc_new w2 _, row_low (hrow.alloc _) s1, by show w.heap.size ≤ w2.heap.size; omega⟩
  obtain ⟨w5, hrun, ho, ht⟩ := (L4.mp _ rfl).store strKey Try.underlying58 (by unfold maxLen; omega) (keyIs (k := x) (by have := hsm.1; simp at this; omega)) (rdF_ptr w2.heap.size)
  have HE := L4.store (v := ⟨v.safe, v.rest, w2.heap.size, v'⟩) hno hsm.1 (by omega) F4 hsm.2 (fun e he => ⟨fun e1 => by
      have h1 : e.2.g = w2.heap.size := e1
      have := (L2.fw e he).lt
      omega, fun y hy h2 => by
      have h3 := row_lt (L1.fw e he).row hy
      have h4 := (row_obj hrow h2).1
      omega⟩) ho ht
  have C : Ch (fun y => y = w.heap.size + 1) w1 w5 := ((Ch.of_below hb).trans (Ch.refl _ _ |>.alloc _)).trans HE.2
  have hmb := (H.mp mb rfl).lt
  refine ⟨w5, hrun, ranges_ch hrg C (by omega) (by omega), hbw.trans (C.below s1 (fun k hk e => by omega)), _, HE.1, ?_, fun f => ?_⟩
  · rw [put_len, hno]
    simp only [Bool.false_eq_true, if_false]
    omega
  · have e1 : fil (put es' x ⟨v.safe, v.rest, w2.heap.size, v'⟩) = put (fil es') x (sr v) := vals_put sr es' x _
    rw [e1, mem_put (fil_rise L1.rise), hmem]
    constructor
    · rintro (rfl | ⟨⟨h1, h2⟩, h3⟩)
      · refine ⟨fil_mem hm, ?_⟩
        have := (same_str x x).2 rfl
        simp [this]
      · exact ⟨h1, by simp only [h2, Bool.false_and]⟩
    · rintro ⟨h1, h2⟩
      by_cases hx : f.1 = x
      · left
        have g1 := gv_mem (fil_rise H.rise) (fil_mem hm)
        obtain ⟨f1, f2⟩ := f
        have hx : f1 = x := hx
        subst hx
        have g2 := gv_mem (fil_rise H.rise) h1
        rw [← g1, ← g2]
      · refine .inr ⟨⟨h1, ?_⟩, hx⟩
        simp only [same_no hx] at h2
        simpa using h2
theorem strOne (s : ByteArray) : ∀ u ∈ strCells s, u.oneCell' = true := by
  intro u hu
  simp [strCells] at hu
  obtain ⟨_, _, rfl⟩ := hu
  rfl
theorem mk_map (n : Nat) (w : World) : (Instr.makeMap 58 (some (.int .i64 (n : Int)))).run Try.prog w = .ok (.map (some w.heap.size)) (w.alloc (.map #[] 0)) := by
  simp [Instr.makeMap, asInt, asIntOf, run_underlying Try.underlying58, Result.andThen]
set_option maxRecDepth 100000 in
set_option maxHeartbeats 8000000 in
theorem clone_some {mb : Nat} (h : Ld w B d es p off (some mb)) :
    Calls Try.prog 12 #[.pointer (some ⟨d, 0, none⟩)] w fun e w' => ∃ es', e = .returned (.pointer (some ⟨w.heap.size, 0, none⟩)) ∧ Ld w' w.heap.size w.heap.size es' p off (some (w.heap.size + 1)) ∧ fil es' = fil es ∧ Below w.heap.size w w' := by
  have c0 := h.c0
  have c1 := h.c1
  have c2 := h.c2
  have c3 := h.c3
  have hlt := h.lt
  have hbel1 : Below w.heap.size w (w.alloc (.cells #[.map (some mb), .bool (decide (0 ≤ p)), .int .i64 (max p 0), .bool off] 60)) := (Below.refl _ w).alloc (Nat.le_refl _) _
  have hlen := (h.below hbel1).len
  have hbel3 := fresh_below w (fobj w p off)
  have d0 := (h.below hbel3).c0
  have hmm := mk_map
  have H : Hid (Ld w B d es p off (some mb)) := h
  clear h
  have hs3 : ((w.alloc (fobj w p off)).alloc (.map #[] 0)).heap.size = w.heap.size + 2 := by simp
  have hown := ((H.out.below hbel3).mp mb rfl)
  go_enter Try.func12, Try.ntmps12
  go_wp2_with (first
    | (at_range; (refine wpList_range_own _ rfl _ 58 rfl 9 61 strKey Try.underlying58 rdF mb es.length _ rfl hown ?_); intro w0 hrg0 hg0 hs0)
    | go_in)
  go_frame
  rw [hs3] at hrg0 hs0 ⊢
  have HS : Hid (JL w es p off mb (Maps.has (DataW.map (ents dg es))) (Maps.size (DataW.map (ents dg es))) w0) := by
    refine ⟨hrg0, hbel3.grown hg0 (by rw [hs3]; omega) (fun j hj => by cases hj), [], (fresh H.out.pw w).ch (X := fun _ => False) (Ch.of_grown hg0 (fun _ e => by cases e)) (fun _ _ => id), ?_, fun f => ?_⟩
    · rw [Maps.size_eq, ents_len]; simp
    · constructor
      · intro h; cases h
      · rintro ⟨h1, h2⟩
        rw [ents_has dg H.out.rise] at h2
        have := mem_has (fil_rise H.out.rise) h1
        rw [fil_has, h2] at this
        cases this
  clear hrg0 hg0 hs0 hown hbel1 hbel3 hlen hmm d0 c0 c1 c2 c3
  go_loopw [4, 5] (fun _ _ wr => ∃ (left : Lit → Bool) (cnt : Nat), JL w es p off mb left cnt wr) (fun _ _ wr => wr.rangeLeft mb (w.heap.size + 2))
  case atStart => exact ⟨_, _, HS.out⟩
  case round =>
    obtain ⟨left, cnt, hrg, hbw, es', L, hcl, hmem⟩ := hrel
    have HJ : Hid (Ld wr w.heap.size w.heap.size es' p off (some (w.heap.size + 1)) ∧ Below w.heap.size w wr ∧ es'.length + cnt ≤ es.length ∧ ∀ f, f ∈ fil es' ↔ f ∈ fil es ∧ left (.string f.1.data.toList) = false) := ⟨L, hbw, hcl, hmem⟩
    clear L hbw hcl hmem HS
    go_wp2_with (first
      | (at_next; refine wpList_next_ranges _ rfl _ rfl 9 strKey rdF Value.string mkF (fun key kl hk => Maps.keyOf_string_inv Try.underlying9 hk) invF mb (w.heap.size + 2) es.length _ _ _ rfl hrg ?_ ?_)
      | go_in)
    · intro hc0 hl0
      go_wp2
      go_ret
      obtain ⟨L, hbw, hcl, hmem⟩ := HJ.out
      exact ⟨es', rfl, L, rise_extG (fil_rise L.rise) (fil_rise H.out.rise) (fun f => by rw [hmem, hl0]; simp), hbw⟩
    · intro x c kl y ps w1 cnt1 hkey hlk hv hat hrg1 hlt1 hg1 hs1 hen
      obtain ⟨v, hm, rfl⟩ := came H.out.rise hkey hv hat
      obtain rfl := key_is hkey
      obtain ⟨hbw1, L1⟩ := cl_next hrg HJ.out.2.1 HJ.out.1 hg1
      have F1 : Fw w1 B v := (H.out.fw _ hm).ch (X := fun _ => False) (Ch.of_below hbw1) (fun _ _ => id)
      have m0 := F1.c0
      have m1 := F1.c1
      have n0 := L1.c0
      have HK : Hid (Below w.heap.size w w1 ∧ Ld w1 w.heap.size w.heap.size es' p off (some (w.heap.size + 1)) ∧ Fw w1 B v ∧ (x, v) ∈ es ∧ w1.ranges Try.prog 9 rdF mb (w.heap.size + 2) es.length (.map (ents dg es)) (fun z => left z && !z.sameKey (.string x.data.toList)) cnt1) := ⟨hbw1, L1, F1, hm, hrg1⟩
      clear hbw1 L1 F1 hm hrg1 hat hv hkey
      simp only [mkF] at hen
      have hsm : v.all.size ≤ 1048576 := (H.out.small _ HK.out.2.2.2.1).2
      go_wp2
      go_region_held3 (fun w' => w'.cell? ⟨w.heap.size, 0, none⟩ = some (.map (some (w.heap.size + 1))) ∧ w'.cell? ⟨v.g, 0, none⟩ = some v.bv ∧ w'.cell? ⟨v.g, 1, none⟩ = some (.int .i64 (v.safe.size : Int)))
        (first
          | go_keep
          | exact ⟨n2, m20, m2⟩
          | exact ⟨n4, m40, m4⟩
          | exact ⟨n5, m50, m5⟩)
        ((go_at_call 27
          refine (cloneB_any (base := B) (n := v.all.size) (cs := strCells v.all) (by exact HK.out.2.2.1.row) (strOne _) hsm).mono ?_
          rintro e w2 ⟨v', rfl, hrow, hb⟩
          obtain ⟨a2, c2, rfl, -⟩ := row_slice hrow
          have hb2 : Below w1.heap.size w1 w2 := ((Below.refl _ w1).drew).trans hb
          obtain ⟨w5, hrun, hJ5⟩ := cl_step H.out HK.out.1 HK.out.2.1 HJ.out.2.2.2 HJ.out.2.2.1 hlt1 HK.out.2.2.2.1 hlk hrow hb2 HK.out.2.2.2.2
          have HF : Hid (JL w es p off mb (fun z => left z && !z.sameKey (.string x.data.toList)) cnt1 w5) := hJ5
          have L2 := HK.out.2.1.below hb2
          have n2 := L2.c0
          have B4 : Below w2.heap.size w2 (w2.alloc (.cells #[.slice a2 v.all.size c2, .int .i64 (v.safe.size : Int)] 65)) := (Below.refl _ w2).alloc (Nat.le_refl _) _
          have n4 := (L2.below B4).c0
          have F2 : Fw w2 B v := HK.out.2.2.1.ch (X := fun _ => False) (Ch.of_below hb2) (fun _ _ => id)
          have m20 := F2.c0
          have m2 := F2.c1
          have F4 := F2.ch (X := fun _ => False) (Ch.of_below B4) (fun _ _ => id)
          have m40 := F4.c0
          have m4 := F4.c1
          have F5 : Fw w5 B v := (H.out.fw _ HK.out.2.2.2.1).ch (X := fun _ => False) (Ch.of_below hJ5.2.1) (fun _ _ => id)
          have m50 := F5.c0
          have m5 := F5.c1
          have n5 : w5.cell? ⟨w.heap.size, 0, none⟩ = some (.map (some (w.heap.size + 1))) := by
            obtain ⟨_, _, _, h, _⟩ := hJ5
            exact h.c0
          clear F2 L2 hJ5 hrow hb hb2 F4 F5 B4))
      go_wp2
      refine ⟨⟨_, _, HF.out⟩, ?_⟩
      rw [HF.out.1.left_eq, hrg.left_eq]
      exact hlt1
set_option maxRecDepth 100000 in
set_option maxHeartbeats 8000000 in
theorem clone_none (h : Ld w B d es p off none) :
    Calls Try.prog 12 #[.pointer (some ⟨d, 0, none⟩)] w fun e w' => ∃ es', e = .returned (.pointer (some ⟨w.heap.size, 0, none⟩)) ∧ Ld w' w.heap.size w.heap.size es' p off (some (w.heap.size + 1)) ∧ fil es' = fil es ∧ Below w.heap.size w w' := by
  have c0 := h.c0
  have c1 := h.c1
  have c2 := h.c2
  have c3 := h.c3
  have hlt := h.lt
  have hbel1 : Below w.heap.size w (w.alloc (.cells #[.map none, .bool (decide (0 ≤ p)), .int .i64 (max p 0), .bool off] 60)) := (Below.refl _ w).alloc (Nat.le_refl _) _
  have hlen := (h.below hbel1).len
  have hbel3 := fresh_below w (fobj w p off)
  have d0 := (h.below hbel3).c0
  have hmm := mk_map
  have hs3 : ((w.alloc (fobj w p off)).alloc (.map #[] 0)).heap.size = w.heap.size + 2 := by simp
  have hrg := run_range_nilMap (P := Try.prog) ((w.alloc (fobj w p off)).alloc (.map #[] 0)) 58 9 61 Try.underlying58
  have hnx : ∀ ty, (Instr.next (.pointer (some ⟨((w.alloc (fobj w p off)).alloc (.map #[] 0)).heap.size, 0, none⟩)) false ty).run Try.prog (((w.alloc (fobj w p off)).alloc (.map #[] 0)).alloc (.mapIter none 0 #[] 0)) = _ := fun ty => run_next_nilMap _ ty 0 0 #[]
  rw [hs3] at hrg hnx
  have H : Hid (Ld w B d es p off none) := h
  clear h
  go_enter Try.func12, Try.ntmps12
  go_wp2
  refine wp_loop_rounds 1 ?_
  rw [rounds_succ]
  go_wp2
  go_ret
  refine ⟨[], rfl, (fresh H.out.pw w).below ((Below.refl _ _).alloc (Nat.le_refl _) _), ?_, hbel3.alloc (by rw [hs3]; omega) _⟩
  rw [H.out.mn rfl]
/-- package disk's Clone: a new disk that has the same -/
theorem sClone {st : Ab} (h : St w B d st) : Calls Try.prog 12 #[.pointer (some ⟨d, 0, none⟩)] w fun e w' => e = .returned (.pointer (some ⟨w.heap.size, 0, none⟩)) ∧ St w' w.heap.size w.heap.size st ∧ Below w.heap.size w w' := by
  obtain ⟨fs, p, off⟩ := st
  obtain ⟨es, mo, h, e⟩ := h
  obtain rfl : fil es = fs := e
  cases mo with
  | none => exact (clone_none h).mono fun _ _ ⟨es', e1, L, e2, hb⟩ => ⟨e1, ⟨es', _, L, e2⟩, hb⟩
  | some mb => exact (clone_some h).mono fun _ _ ⟨es', e1, L, e2, hb⟩ => ⟨e1, ⟨es', _, L, e2⟩, hb⟩
end Go.Proofs.Ytedcabnjcbdkaaa

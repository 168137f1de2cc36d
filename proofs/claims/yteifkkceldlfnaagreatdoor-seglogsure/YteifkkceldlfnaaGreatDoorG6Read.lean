/-
  Package seglog's log: the segments from a position on; Read.
-/
import Derived.Test.YteifkkceldlfnaaGreatDoorGLog
import Derived.Shelf.SlSorted.Search
import Derived.Test.YteifkkceldlfnaaGreatDoorGRange
namespace Go.Proofs.YteifkkceldlfnaaGreatDoor
open Go.RowKit Go.Shelf Go.Sort
open Go.Lib hiding intOf
variable {w w' w1 w2 w3 wr : World} {B lb d g n : Nat} {lg lg' : Lg} {vs vs' xs : List Sv} {sl sl' rv : Value} {X Y : Nat → Prop} {st st' : Ab} {pre : ByteArray} {v : Sv} {es : List Le} {mo : Option Nat} {l : List (List UInt8)}

/-- the library's sort.Search lies in this program -/
def srchRen : Shelf.Ren := ⟨fun _ => 93, fun
  | 3 => 3
  | 4 => 4
  | 35 => 152
  | _ => 180, fun x => x⟩
theorem srchLays : SlLaysO.n16 Tryz.prog srchRen where
  mixed := by kernel_rfl
  f16 := Tryz.func93.trans (by kernel_rfl)
  t3 := Tryz.underlying3
  a3 := Tryz.isAgg3
  z3 := Tryz.sizeOf3
  v3 := Tryz.zeroValue3
  t4 := Tryz.underlying4
  a4 := Tryz.isAgg4
  z4 := Tryz.sizeOf4
  v4 := Tryz.zeroValue4
  t35 := Tryz.underlying152
  a35 := Tryz.isAgg152
  z35 := Tryz.sizeOf152
  v35 := Tryz.zeroValue152
  t38 := Tryz.underlying180
  a38 := Tryz.isAgg180
  z38 := Tryz.sizeOf180
  v38 := Tryz.zeroValue180
theorem countP_get {α : Type} (l : List α) (d : α) (f : α → Bool) : (List.range l.length).countP (fun i => f (l[i]?.getD d)) = l.countP f := by
  have h : (List.range l.length).map (fun i => l[i]?.getD d) = l := by
    apply List.ext_getElem
    · simp
    · intro i h1 h2
      simp at h1
      simp [h1]
  have := congrArg (List.countP f) h
  rw [List.countP_map] at this
  exact this
/-- how many segments are wholly below a position -/
def idx (segs : List Sg) (pos : Nat) : Nat := segs.countP (fun s => decide (s.next ≤ pos))
theorem idx_zero {segs : List Sg} {pos : Nat} (h : ∀ s ∈ segs, pos < s.next) : idx segs pos = 0 := by
  unfold idx
  rw [List.countP_eq_zero]
  intro s hs
  have := h s hs
  simp
  omega
theorem idx_le (segs : List Sg) (pos : Nat) : idx segs pos ≤ segs.length := List.countP_le_length
theorem Cn.first_le : ∀ {segs : List Sg} {n : Nat}, Cn segs n → ∀ s r, segs = s :: r → ∀ x ∈ segs, s.first ≤ x.first ∧ s.next ≤ x.next
  | [], _, _, _, _, e => by cases e
  | [s], _, _, x, r, e => by
    cases e
    intro y hy
    rcases List.mem_singleton.1 hy with rfl
    exact ⟨Nat.le_refl _, Nat.le_refl _⟩
  | s :: t :: r, n, h, x, q, e => by
    cases e
    intro y hy
    rcases List.mem_cons.1 hy with rfl | hy
    · exact ⟨Nat.le_refl _, Nat.le_refl _⟩
    · have h1 := Cn.first_le h.2.2 t r rfl y hy
      have h2 := h.1
      unfold Sg.next at *
      omega
/-- where the record of a position is -/
theorem Cn.find : ∀ {segs : List Sg} {n pos : Nat}, Cn segs n → pos < n → ∀ s r, segs = s :: r → ∃ h : idx segs pos < segs.length, pos < segs[idx segs pos].next ∧ (s.first ≤ pos → segs[idx segs pos].first ≤ pos ∧ (recsOf segs)[pos - s.first]? = segs[idx segs pos].recs[pos - segs[idx segs pos].first]?)
  | [], _, _, _, _, _, _, e => by cases e
  | s :: r, n, pos, h, hp, x, q, e => by
    cases e
    by_cases h1 : s.next ≤ pos
    · cases r with
      | nil =>
        have : s.next = n := h
        omega
      | cons t r =>
        have e1 : idx (s :: t :: r) pos = idx (t :: r) pos + 1 := by
          unfold idx
          rw [List.countP_cons_of_pos (by simpa using h1)]
        obtain ⟨h2, h3, h4⟩ := Cn.find h.2.2 hp t r rfl
        have h5 := h.1
        refine ⟨by rw [e1]; simpa using h2, ?_, fun h6 => ?_⟩
        · simp only [e1, List.getElem_cons_succ]
          exact h3
        · simp only [e1, List.getElem_cons_succ]
          obtain ⟨h7, h8⟩ := h4 (by omega)
          refine ⟨h7, ?_⟩
          rw [← h8]
          unfold Sg.next at h5 h1
          simp only [recsOf, List.flatMap_cons (x := s)]
          rw [List.getElem?_append_right (by omega)]
          congr 1
          omega
    · have e1 : idx (s :: r) pos = 0 := idx_zero (fun y hy => by have := (h.first_le s r rfl y hy).2; omega)
      refine ⟨by rw [e1]; simp, ?_, fun h6 => ?_⟩
      · simp only [e1, List.getElem_cons_zero]
        omega
      · simp only [e1, List.getElem_cons_zero]
        refine ⟨h6, ?_⟩
        unfold Sg.next at h1
        simp only [recsOf, List.flatMap_cons]
        rw [List.getElem?_append_left (by omega)]
set_option maxHeartbeats 2000000 in
theorem from1_any {b2 b3 i pos : Nat} {u : Sv} (hw : Sw w B pre u) (hn : u.sg.next ≤ 9223372036854775807) (c2 : w.cell? ⟨b2, 0, none⟩ = some (.pointer (some ⟨lb, 0, none⟩))) (c3 : w.cell? ⟨b3, 0, none⟩ = some (.int .u64 (pos : Int)))
    {g m c : Nat} (hl : w.cell? ⟨lb, 3, none⟩ = some (.slice (some ⟨g, 0, none⟩) m c)) (hi : i < m) (hc : w.cell? ⟨g, i, none⟩ = some (.pointer (some ⟨u.g, 0, none⟩))) :
    Calls Tryz.prog 94 (#[.int .i64 (i : Int)] ++ #[.pointer (some ⟨b3, 0, none⟩), .pointer (some ⟨b2, 0, none⟩)]) w fun e w' => e = .returned (.bool (decide (pos < u.sg.next))) ∧ ∃ q, w' = w.drewN q := by
  have hN := fun q => next_any (hw.drewN q) hn
  have hi1 : (i : Int) < (m : Int) := by omega
  have hi0 : (0 : Int) ≤ (i : Int) := by omega
  clear hw
  generalize u.sg.next = un at *
  go_enter Tryz.func94, Tryz.ntmps94
  go_wp2_with fail
  go_quiet ((go_at_call 34; refine Calls.quiet_of (hN _)))
  go_wp2
  go_ret
  refine ⟨?_, _, rfl⟩
  simp
theorem Cn.nexts : ∀ {segs : List Sg} {n : Nat}, Cn segs n → segs.Pairwise (fun a b => a.next ≤ b.next)
  | [], _, _ => List.Pairwise.nil
  | s :: r, _, h => List.pairwise_cons.2 ⟨fun y hy => (h.first_le s r rfl y (List.mem_cons_of_mem _ hy)).2, h.tail.nexts⟩
theorem Lw.at (h : Lw w B lb d lg vs sl) {i : Nat} (hi : i < vs.length) : ∃ g c, sl = .slice (some ⟨g, 0, none⟩) vs.length c ∧ w.cell? ⟨g, i, none⟩ = some (.pointer (some ⟨vs[i].g, 0, none⟩)) := by
  rcases h.row.2 with ⟨_, h0⟩ | ⟨g, cap, cur, rfl, _⟩
  · omega
  · exact ⟨g, cap, rfl, row_cell (j := i) (v := ptr vs[i]) h.row (by simp [hi])⟩
/-- the log without its disk -/
structure Lq (w : World) (B lb d : Nat) (lg : Lg) (vs : List Sv) (sl : Value) : Prop where
  lw : Lw w B lb d lg vs sl
  ok : Ok lg
theorem Lq.below (h : Lq w B lb d lg vs sl) (hb : Below w.heap.size w w') : Lq w' B lb d lg vs sl := ⟨h.lw.below hb, h.ok⟩
set_option maxRecDepth 100000 in
set_option maxHeartbeats 4000000 in
theorem fromQ_any {pos : Nat} (o : Lq w B lb d lg vs sl) : Calls Tryz.prog 64 #[.pointer (some ⟨lb, 0, none⟩), .int .u64 (pos : Int)] w fun e w' =>
    (∃ a, e = .returned (.slice a (vs.length - idx lg.segs pos) (vs.length - idx lg.segs pos)) ∧ (idx lg.segs pos < vs.length → ∃ g c, sl = .slice (some ⟨g, 0, none⟩) vs.length c ∧ a = some ⟨g, idx lg.segs pos, none⟩)) ∧ Below w.heap.size w w' := by
  obtain ⟨W0, hW0⟩ : ∃ W0, W0 = (w.alloc (.cells #[.pointer (some ⟨lb, 0, none⟩)] 28)).alloc (.cells #[.int .u64 (pos : Int)] 36) := ⟨_, rfl⟩
  have hsize : W0.heap.size = w.heap.size + 1 + 1 := by rw [hW0]; simp
  have hb0 : Below w.heap.size w W0 := by rw [hW0]; exact ((Below.refl _ w).alloc (Nat.le_refl _) _).alloc (by simp) _
  have o0 := o.below hb0
  have k2 : Bx W0 w.heap.size (.pointer (some ⟨lb, 0, none⟩)) 28 := by rw [hW0]; exact (Bx.new w _ _).alloc _
  have k3 : Bx W0 (w.heap.size + 1) (.int .u64 (pos : Int)) 36 := by
    rw [hW0]
    have := Bx.new (w.alloc (.cells #[.pointer (some ⟨lb, 0, none⟩)] 28)) (.int .u64 (pos : Int)) 36
    rwa [World.size_alloc] at this
  have hcnt : vs.length ≤ 1099511627778 := by rw [o.lw.len]; exact o.ok.count
  have hseg := o.lw.segs
  have hlen := o.lw.len
  have eg : ∀ args w, (callFunc 94 args).run Tryz.prog w = .ok (.enter 94 args) w := enters_of Tryz.func94 (by kernel_rfl) rfl
  have hS := Any.sort_Search srchLays 94 #[.pointer (some ⟨w.heap.size + 1, 0, none⟩), .pointer (some ⟨w.heap.size, 0, none⟩)] lg.segs.length (fun i => !decide (((lg.segs)[i]?.getD default).next ≤ pos)) W0 eg (by omega)
    (fun m os i hi => by
      have hb1 := below_grown_sl W0.heap.size W0 m os (Nat.le_refl _)
      have o1 := o0.below hb1
      have hiv : i < vs.length := by omega
      obtain ⟨g, c, hsl, hcg⟩ := o1.lw.at hiv
      have hl := o1.lw.c3
      rw [hsl] at hl
      have hsw := o1.lw.sw vs[i] (List.getElem_mem hiv)
      have hsg : lg.segs[i] = vs[i].sg := by
        have : (vs.map Sv.sg)[i]? = lg.segs[i]? := by rw [hseg]
        rw [List.getElem?_map, List.getElem?_eq_getElem hiv, List.getElem?_eq_getElem hi] at this
        exact (Option.some.inj this).symm
      have hnx := (o.ok.seg (s := lg.segs[i]) (List.getElem_mem hi)).2.1
      refine (from1_any hsw (by rw [← hsg]; omega) ((k2.below hb1 k2.lt).cell) ((k3.below hb1 k3.lt).cell) hl hiv hcg).mono ?_
      rintro e w' ⟨he, q, hq⟩
      refine ⟨?_, q, #[], by rw [hq, grow_empty]⟩
      rw [he]
      simp only [List.getElem?_eq_getElem hi, Option.getD_some, hsg]
      congr 2
      by_cases hx : pos < vs[i].sg.next
      · simp [hx]
      · simp [hx]; omega)
    (fun a b hab hb h => by
      have ha : a < lg.segs.length := by omega
      simp only [List.getElem?_eq_getElem ha, List.getElem?_eq_getElem hb, Option.getD_some, Bool.not_eq_true', decide_eq_false_iff_not] at h ⊢
      rcases Nat.lt_or_eq_of_le hab with h1 | h1
      · have := List.pairwise_iff_getElem.1 o.ok.cn.nexts a b ha hb h1
        omega
      · subst h1; exact h)
  have hcp : (List.range lg.segs.length).countP (fun i => !!decide (((lg.segs)[i]?.getD default).next ≤ pos)) = idx lg.segs pos := by
    simp only [Bool.not_not]
    exact countP_get lg.segs default (fun s => decide (s.next ≤ pos))
  rw [hcp] at hS
  change Calls Tryz.prog 93 _ _ _ at hS
  have hle := idx_le lg.segs pos
  rw [← hlen] at hS hle
  have c3 := o0.lw.c3
  obtain ⟨sa, sc, hsl, -⟩ := row_slice o.lw.row
  have hcap : vs.length ≤ sc ∧ (vs.length = 0 ∨ ∃ g, sa = some ⟨g, 0, none⟩) := by
    rcases o.lw.row.2 with ⟨e, h0⟩ | ⟨g, cap, cur, e, _, _, hnc, _⟩
    · exact ⟨by omega, .inl h0⟩
    · rw [hsl] at e
      injection e with e1 e2 e3
      subst e1; subst e3
      exact ⟨hnc, .inr ⟨g, rfl⟩⟩
  have hmf := mk_func
  generalize idx lg.segs pos = k at *
  rw [hsl] at c3
  have K2 := k2.cell
  have K3 := k3.cell
  have HO : Hid _ := o0
  have hl3 := o0.lw.lt
  have HS : Hid (∀ q os, (grow (W0.drewN q) os).cell? ⟨w.heap.size, 0, none⟩ = some (.pointer (some ⟨lb, 0, none⟩)) ∧ (grow (W0.drewN q) os).cell? ⟨lb, 3, none⟩ = some (.slice sa vs.length sc)) := fun q os => by
    have hb1 := below_grown_sl W0.heap.size W0 q os (Nat.le_refl _)
    exact ⟨(hb1.cell (p := ⟨w.heap.size, 0, none⟩) k2.lt).trans K2, (hb1.cell (p := ⟨lb, 3, none⟩) hl3).trans c3⟩
  have HB0 : Hid _ := hb0
  clear o o0 k2 k3 hcp hseg hlen HO hb0
  have k2' := K2
  have c3' := c3
  rw [hW0] at K2 c3
  have HW0 : Hid (W0 = (w.alloc (.cells #[.pointer (some ⟨lb, 0, none⟩)] 28)).alloc (.cells #[.int .u64 (pos : Int)] 36)) := hW0
  have hk0 : (0 : Int) ≤ (k : Int) := by omega
  have hk1 : (k : Int) ≤ (vs.length : Int) := by omega
  have hk2 : (vs.length : Int) ≤ (sc : Int) := by omega
  clear hW0
  go_enter Tryz.func64, Tryz.ntmps64
  go_wp2_with (go_at_call 93; rw [← HW0.out]; refine hS.mono ?_; rintro e w3 ⟨rfl, q, os, hw3⟩; have d12 := HS.out q os; rw [← hw3] at d12; obtain ⟨d1, d2⟩ := d12; (have HB3 : Hid (Below W0.heap.size W0 w3) := by rw [hw3]; exact below_grown_sl W0.heap.size W0 q os (Nat.le_refl _)); clear hw3)
  · go_ret
    exact ⟨⟨_, rfl⟩, HB0.out.trans (HB3.out.mono HB0.out.size)⟩
  · go_ret
    refine ⟨⟨_, rfl, fun hk => ?_⟩, HB0.out.trans (HB3.out.mono HB0.out.size)⟩
    rcases hcap.2 with h0 | ⟨g, rfl⟩
    · omega
    · refine ⟨g, rfl, ?_⟩
      simp [Lib.add_plain]
theorem from_any {pos : Nat} (o : Lo X w B lb d lg st es mo vs sl) : Calls Tryz.prog 64 #[.pointer (some ⟨lb, 0, none⟩), .int .u64 (pos : Int)] w fun e w' =>
    (∃ a, e = .returned (.slice a (vs.length - idx lg.segs pos) (vs.length - idx lg.segs pos)) ∧ (idx lg.segs pos < vs.length → ∃ g c, sl = .slice (some ⟨g, 0, none⟩) vs.length c ∧ a = some ⟨g, idx lg.segs pos, none⟩)) ∧ Below w.heap.size w w' :=
  fromQ_any ⟨o.lw, o.ok⟩
set_option maxRecDepth 100000 in
set_option maxHeartbeats 4000000 in
theorem gRead_any {pos : Nat} (h : Ls X w B lb d lg st) : Calls Tryz.prog 27 #[.pointer (some ⟨lb, 0, none⟩), .int .u64 (pos : Int)] w fun e w' =>
    e = .returned (.tuple #[.string (S (gRead lg pos).1), .int .i64 (gRead lg pos).2]) ∧ Below w.heap.size w w' := by
  have hq := logEql lb
  have cF := gFirst_any h
  obtain ⟨es, mo, vs, sl, o⟩ := h.lo
  have c4 := o.lw.c4
  have hfs := o.ok.first
  have hrs := o.ok.recs
  have hn := o.ok.next.2
  have hcnt : vs.length ≤ 1099511627778 := by rw [o.lw.len]; exact o.ok.count
  by_cases h1 : pos < gFirst lg
  · have e1 : gRead lg pos = ([], 5) := by unfold gRead; rw [if_pos (.inl h1)]
    rw [e1]
    have h1' : (pos : Int) < (gFirst lg : Int) := by omega
    clear o h
    go_enter Tryz.func27, Tryz.ntmps27
    go_wp2_with (go_at_call 15; refine cF.mono ?_; rintro e w1 ⟨rfl, rfl⟩)
    go_ret2
    exact ⟨rfl, Below.refl _ _⟩
  · have h1' : ¬ (pos : Int) < (gFirst lg : Int) := by omega
    by_cases h2 : lg.next ≤ pos
    · have e1 : gRead lg pos = ([], 5) := by unfold gRead; rw [if_pos (.inr h2)]
      rw [e1]
      have h2' : (lg.next : Int) ≤ (pos : Int) := by omega
      clear o h
      go_enter Tryz.func27, Tryz.ntmps27
      go_wp2_with (go_at_call 15; refine cF.mono ?_; rintro e w1 ⟨rfl, rfl⟩)
      go_ret2
      exact ⟨rfl, Below.refl _ _⟩
    · have h2' : ¬ (lg.next : Int) ≤ (pos : Int) := by omega
      have e1 : gRead lg pos = (((recsOf lg.segs)[pos - gFirst lg]?).getD [], 0) := by unfold gRead; rw [if_neg (by omega)]
      rw [e1]
      -- the segment
      obtain ⟨s0, r0, hsr⟩ : ∃ s0 r0, lg.segs = s0 :: r0 := by
        cases hh : lg.segs with
        | nil => rw [hh] at hrs; simp [recsOf] at hrs; omega
        | cons a b => exact ⟨a, b, rfl⟩
      obtain ⟨hk, hk1, hk2⟩ := o.ok.cn.find (pos := pos) (by omega) s0 r0 hsr
      have hf0 : gFirst lg = s0.first := by unfold gFirst; rw [hsr]
      obtain ⟨hk3, hk4⟩ := hk2 (by omega)
      rw [hf0, hk4]
      have cFr := from_any (pos := pos) o
      have hkv : idx lg.segs pos < vs.length := by rw [o.lw.len]; exact hk
      have hsg : lg.segs[idx lg.segs pos] = vs[idx lg.segs pos].sg := by
        have : (vs.map Sv.sg)[idx lg.segs pos]? = lg.segs[idx lg.segs pos]? := by rw [o.lw.segs]
        rw [List.getElem?_map, List.getElem?_eq_getElem hkv, List.getElem?_eq_getElem hk] at this
        exact (Option.some.inj this).symm
      rw [hsg] at hk1 hk3 ⊢
      obtain ⟨g, c, hsl, hcg⟩ := o.lw.at hkv
      have hsw := o.lw.sw _ (List.getElem_mem hkv)
      generalize vs[idx lg.segs pos] = u at *
      clear hk4 hsg hk2 hk
      generalize idx lg.segs pos = k at *
      have hj : pos - u.sg.first < u.sg.recs.length := by unfold Sg.next at hk1; omega
      obtain ⟨rr, hrr⟩ : ∃ rr, u.sg.recs[pos - u.sg.first]? = some rr := ⟨_, List.getElem?_eq_getElem hj⟩
      rw [hrr, Option.getD_some]
      obtain ⟨gr, cr, hrv⟩ : ∃ gr cr, u.rv = .slice (some ⟨gr, 0, none⟩) u.sg.recs.length cr := by
        rcases hsw.row.2 with ⟨_, h0⟩ | ⟨gr, cap, cur, e, _⟩
        · omega
        · exact ⟨gr, cap, e⟩
      have hrc : w.cell? ⟨gr, pos - u.sg.first, none⟩ = some (.string (S rr)) := by
        have hrow := hsw.row
        rw [hrv] at hrow
        exact row_cell hrow (by simp [strCs, hrr])
      have cs1 := hsw.c1
      have cs3 := hsw.c3
      rw [hrv] at cs3
      have hsub : IntKind.u64.wrap ((pos : Int) - (u.sg.first : Int)) = ((pos - u.sg.first : Nat) : Int) := by rw [IntKind.wrap_u64]; omega
      have HL : Hid (lb < w.heap.size ∧ u.g < w.heap.size ∧ g < w.heap.size ∧ gr < w.heap.size) := ⟨o.lw.lt, hsw.lt, World.block_lt_of_cell? _ _ hcg, World.block_lt_of_cell? _ _ hrc⟩
      generalize hfi : u.sg.first = fi at *
      generalize hln : u.sg.recs.length = ln at *
      obtain ⟨jj, hjj⟩ : ∃ jj, pos - fi = jj := ⟨_, rfl⟩
      rw [hjj] at hj hrc hsub
      have hj0 : (0 : Int) ≤ (jj : Int) := by omega
      have hj1 : (jj : Int) < (ln : Int) := by omega
      have hm1 : (0 : Int) < ((vs.length - k : Nat) : Int) := by omega
      have hkk : (⟨g, k, none⟩ : Addr) = ⟨g, k, none⟩ := rfl
      clear o h hsw hrr
      go_enter Tryz.func27, Tryz.ntmps27
      go_wp2_with (first
        | (go_at_call 15; refine cF.mono ?_; rintro e w1 ⟨rfl, rfl⟩)
        | (go_at_call 64; refine cFr.mono ?_; rintro e w2 ⟨⟨a, rfl, ha⟩, hb⟩; obtain ⟨g', c', hsl', rfl⟩ := ha hkv; (obtain ⟨rfl, rfl⟩ : g' = g ∧ c' = c := by rw [hsl] at hsl'; cases hsl'; exact ⟨rfl, rfl⟩); have d1 := (hb.cell (p := ⟨g', k, none⟩) HL.out.2.2.1).trans hcg; have d2 := (hb.cell (p := ⟨u.g, 1, none⟩) HL.out.2.1).trans cs1; have d3 := (hb.cell (p := ⟨u.g, 3, none⟩) HL.out.2.1).trans cs3; have d4 := (hb.cell (p := ⟨gr, jj, none⟩) HL.out.2.2.2).trans hrc; have HB : Hid _ := hb; clear hb ha hsl'))
      go_quiet (fail)
      go_wp2
      go_ret2
      exact ⟨rfl, below_drewN' HB.out _⟩
end Go.Proofs.YteifkkceldlfnaaGreatDoor

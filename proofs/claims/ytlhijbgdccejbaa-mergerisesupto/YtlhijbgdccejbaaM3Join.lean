/-
  Two rising lists, put together (join).
-/
import Derived.Test.YtlhijbgdccejbaaM3Ent
import Derived.Test.YtlhijbgdccejbaaM3Seq
import Derived.Lib.Bytealg
import Derived.Laws.MakeOwn
import Derived.Deep.DeepAppendWide
namespace Go.Proofs.Ytlhijbgdccejbaa
open Go.RowKit Go.Shelf Go.Sort
open Go.Lib hiding intOf

/-- -1, 0 or 1 -/
def cmp3 (a b : ByteArray) : Int := if lt a b then -1 else if lt b a then 1 else 0
theorem cmp3_eq (a b : ByteArray) : Lib.compareBytes a.data.toList b.data.toList = cmp3 a b := by
  have key : ∀ (x y : List UInt8), Lib.compareBytes x y = if x < y then -1 else if y < x then 1 else 0 := by
    intro x
    induction x with
    | nil =>
      intro y
      cases y with
      | nil => simp [Lib.compareBytes]
      | cons b bs => simp [Lib.compareBytes]
    | cons c cs ih =>
      intro y
      cases y with
      | nil => simp [Lib.compareBytes]
      | cons d ds =>
        rw [Lib.compareBytes, ih ds]
        simp only [List.cons_lt_cons_iff]
        by_cases h1 : c < d
        · simp [h1]
        · by_cases h2 : d < c
          · have hne : ¬ c = d := fun e => by subst e; exact h1 h2
            have hne' : ¬ d = c := fun e => hne e.symm
            simp [h1, h2, hne]
          · have he : c = d := UInt8.le_antisymm (UInt8.not_lt.1 h2) (UInt8.not_lt.1 h1)
            subst he
            simp [h1]
  rw [key, cmp3]
  have e1 : (lt a b = true) = (a.data.toList < b.data.toList) := propext (lt_iff a b)
  have e2 : (lt b a = true) = (b.data.toList < a.data.toList) := propext (lt_iff b a)
  simp only [e1, e2]

set_option maxHeartbeats 1000000 in
set_option maxRecDepth 100000 in
theorem CompareString_any (a b : ByteArray) (w : World) : Calls Try.prog 39 #[.string a, .string b] w fun e w' => e = .returned (.int .i64 (cmp3 a b)) ∧ w' = w := by
  go_enter Try.func39, Try.ntmps39
  go_wp2
  rw [run_callFunc_extern Try.func40 (by kernel_rfl) (by kernel_rfl) (by kernel_rfl) (e := Extern.BytealgCompare.compare) (by kernel_rfl), Lib.run_compareString, cmp3_eq]
  simp only [Result.andThen]
  rw [Oper.upon_value]
  go_wp2
  go_ret
  exact ⟨rfl, rfl⟩

set_option maxHeartbeats 1000000 in
theorem Compare_any (a b : ByteArray) (w : World) : Calls Try.prog 37 #[.string a, .string b] w fun e w' => e = .returned (.int .i64 (cmp3 a b)) ∧ w' = w := by
  go_enter Try.func37, Try.ntmps37
  go_wp2_with (go_at_call 39; refine (CompareString_any _ _ _).mono ?_; rintro e w' ⟨rfl, rfl⟩)
  go_ret
  exact ⟨rfl, rfl⟩

/-- v is a slice of these entries, two cells each; it may be a part of a row -/
def Rc (w : World) (v : Value) (l : List Ent) : Prop :=
  (v = .slice none 0 0 ∧ l = []) ∨ ∃ b off cap, v = .slice (some ⟨b, off, none⟩) l.length cap ∧ l.length ≤ cap ∧ b < w.heap.size ∧ ∀ (j : Nat) (h : j < l.length), w.cell? ⟨b, off + j * 2, none⟩ = some (.string l[j].1) ∧ w.cell? ⟨b, off + j * 2 + 1, none⟩ = some (.int .i64 l[j].2)
theorem rc_of_row {w : World} {base : Nat} {e : TypeId} {v : Value} {l : List Ent} (h : w.ownsRow base e 2 v l.length (flat l)) : Rc w v l := by
  rcases h.2 with ⟨rfl, h0⟩ | ⟨g, cap, cur, rfl, _, hg, hnc, _⟩
  · exact .inl ⟨rfl, List.eq_nil_of_length_eq_zero h0⟩
  · refine .inr ⟨g, 0, cap, rfl, hnc, (Array.getElem?_eq_some_iff.1 hg).1, fun j hj => ?_⟩
    rw [Nat.zero_add]
    exact ⟨row_cell h (flat_key l j hj), row_cell h (flat_val l j hj)⟩
theorem Rc.below {w w' : World} {v : Value} {l : List Ent} (h : Rc w v l) (hb : Below w.heap.size w w') : Rc w' v l := by
  refine h.imp id ?_
  rintro ⟨b, off, cap, rfl, hc, hlt, hcell⟩
  exact ⟨b, off, cap, rfl, hc, Nat.lt_of_lt_of_le hlt hb.size, fun j hj => ⟨(hb.cell (p := ⟨b, off + j * 2, none⟩) hlt).trans (hcell j hj).1, (hb.cell (p := ⟨b, off + j * 2 + 1, none⟩) hlt).trans (hcell j hj).2⟩⟩
theorem Rc.cons {w : World} {v : Value} {x : Ent} {l : List Ent} (h : Rc w v (x :: l)) : ∃ b off cap, v = .slice (some ⟨b, off, none⟩) (l.length + 1) cap ∧ l.length + 1 ≤ cap ∧ b < w.heap.size ∧ w.cell? ⟨b, off, none⟩ = some (.string x.1) ∧ w.cell? ⟨b, off + 1, none⟩ = some (.int .i64 x.2) ∧
    Rc w (.slice (if cap = 1 then some ⟨b, off, none⟩ else some ⟨b, off + 2, none⟩) l.length (cap - 1)) l := by
  rcases h with ⟨_, h⟩ | ⟨b, off, cap, rfl, hc, hlt, hcell⟩
  · cases h
  · have h0 := hcell 0 (by simp)
    simp only [List.length_cons] at hc
    refine ⟨b, off, cap, rfl, hc, hlt, by simpa using h0.1, by simpa using h0.2, .inr ?_⟩
    by_cases h1 : cap = 1
    · have hl : l = [] := List.eq_nil_of_length_eq_zero (by omega)
      subst hl
      exact ⟨b, off, cap - 1, by simp [h1], by simp, hlt, fun j hj => by simp at hj⟩
    · refine ⟨b, off + 2, cap - 1, by simp [h1], by omega, hlt, fun j hj => ?_⟩
      have := hcell (j + 1) (by simpa using hj)
      simp only [List.getElem_cons_succ] at this
      rw [show off + (j + 1) * 2 = off + 2 + j * 2 by omega] at this
      exact this
theorem Rc.len {w : World} {v : Value} {l : List Ent} (h : Rc w v l) : ∃ a cap, v = .slice a l.length cap ∧ (a = none → l = [] ∧ cap = 0) := by
  rcases h with ⟨rfl, rfl⟩ | ⟨b, off, cap, rfl, _⟩
  · exact ⟨none, 0, rfl, fun _ => ⟨rfl, rfl⟩⟩
  · exact ⟨_, _, rfl, fun h => by cases h⟩
/-- the cells of a part of a row -/
theorem Rc.cells {w : World} {b off cap : Nat} {l : List Ent} (h : Rc w (.slice (some ⟨b, off, none⟩) l.length cap) l) : ∀ j u, (flat l)[j]? = some u → w.cell? ((⟨b, off, none⟩ : Addr).add j) = some u := by
  rcases h with ⟨h, _⟩ | ⟨b', off', cap', e, _, _, hcell⟩
  · cases h
  · cases e
    intro j u hu
    rw [Addr.add_lit]
    have hj : j < l.length * 2 := by have := (List.getElem?_eq_some_iff.1 hu).1; rwa [flat_length] at this
    rcases Nat.mod_two_eq_zero_or_one j with h0 | h0
    · have e1 : j = (j / 2) * 2 := by omega
      have hl : j / 2 < l.length := by omega
      have h1 := (hcell (j / 2) hl).1
      rw [e1, flat_key l (j / 2) hl] at hu
      rw [← e1] at h1
      rw [h1, ← hu]
    · have e1 : j = (j / 2) * 2 + 1 := by omega
      have hl : j / 2 < l.length := by omega
      have h1 := (hcell (j / 2) hl).2
      rw [e1, flat_val l (j / 2) hl] at hu
      rw [show off + (j / 2) * 2 + 1 = off + j by omega] at h1
      rw [h1, ← hu]

theorem infoMCell : (Try.prog.info? 54).map (fun i => (i.zero, i.size, i.bytes)) = some (some (.agg #[.string ⟨#[]⟩, .int .i64 0]), 2, 24) := by kernel_rfl

theorem fit24 (n : Nat) (h : n * 24 ≤ 140737488355328) : (n + n / 4 + 192) * 24 ≤ 281474976710656 := by omega
theorem app_rc {W : World} {base : Nat} {vo v : Value} {out l : List Ent} (ho : W.ownsRow base 54 2 vo out.length (flat out)) (hv : Rc W v l) (hn : (out.length + l.length) * 24 ≤ 140737488355328) (hb : base ≤ W.heap.size) :
    ∃ a' c' w', (Builtin.append_ #[51, 51] 51 #[vo, v]).run Try.prog W = .ok (.slice a' (out ++ l).length c') w' ∧ w'.ownsRow base 54 2 (.slice a' (out ++ l).length c') (out ++ l).length (flat (out ++ l)) ∧ W.grownBy w' vo.ownBlock := by
  obtain ⟨i0, hi0, hz0, hz1, hz2⟩ := info_parts infoMCell
  rcases id hv with ⟨rfl, rfl⟩ | ⟨b, off, cap, rfl, _, hlt, _⟩
  · have hr := run_append_owned_none (P := Try.prog) (w := W) base 51 51 54 i0 2 Try.underlying51 hi0 vo out.length (flat out) ho
    obtain ⟨a', c', rfl, -⟩ := row_slice ho
    rw [List.append_nil]
    exact ⟨a', c', W, hr, ho, ⟨rfl, rfl, rfl, Nat.le_refl _, fun _ _ _ => rfl⟩⟩
  · obtain ⟨v', w', hr, h2, h3, _⟩ := run_append_own_wide (P := Try.prog) W base 51 51 54 i0 _ 2 24 Try.underlying51 hi0 hz0 hz1 hz2 rfl (by decide) vo out.length (flat out) ho ⟨b, off, none⟩ l.length cap (flat l) (flat_length l) hv.cells (flat_one l) (by unfold maxLen; omega) (fit24 _ hn) hb
    rw [← List.length_append, ← flat_append] at h2
    obtain ⟨a', c', rfl, -⟩ := row_slice h2
    exact ⟨a', c', w', hr, h2, h3⟩

def lenV : Value → Nat
  | .slice _ n _ => n
  | _ => 0
/-- what stands while two lists are put together -/
structure Jo (w : World) (a b a' b' out : List Ent) (v0 v1 vo : Value) (W : World) : Prop where
  ra : Rc w v0 a'
  rb : Rc w v1 b'
  row : W.ownsRow w.heap.size 54 2 vo out.length (flat out)
  eq : out ++ putAll b' a' = putAll b a
  ia : Rise a'
  ib : Rise b'
  bw : Below w.heap.size w W
  le : out.length + a'.length + b'.length ≤ a.length + b.length
/-- both rests are appended -/
theorem Jo.fin {w : World} {a b a' b' out : List Ent} {v0 v1 vo : Value} {W : World} (h : Jo w a b a' b' out v0 v1 vo W) (hab : a' = [] ∨ b' = []) (hn : (a.length + b.length) * 24 ≤ 140737488355328) :
    ∃ n1 a1 c1 w1 n2 a2 c2 w2, (Builtin.append_ #[51, 51] 51 #[vo, v0]).run Try.prog W = .ok (.slice a1 n1 c1) w1 ∧ (Builtin.append_ #[51, 51] 51 #[.slice a1 n1 c1, v1]).run Try.prog w1 = .ok (.slice a2 n2 c2) w2 ∧
      w2.ownsRow w.heap.size 54 2 (.slice a2 n2 c2) (putAll b a).length (flat (putAll b a)) ∧ Below w.heap.size w w2 := by
  have hle := h.le
  have he : out ++ a' ++ b' = putAll b a := by
    rw [← h.eq]
    rcases hab with rfl | rfl
    · simp [putAll]
    · rw [putAll_nil h.ia, List.append_nil]
  obtain ⟨a1, c1, w1, r1, o1, g1⟩ := app_rc h.row (h.ra.below h.bw) (by omega) h.bw.size
  have hB1 := h.bw.grown g1 h.bw.size (fun k hk => (h.row.lt k hk).1)
  obtain ⟨a2, c2, w2, r2, o2, g2⟩ := app_rc o1 (h.rb.below hB1) (by simp; omega) hB1.size
  rw [he] at o2 r2
  exact ⟨_, a1, c1, w1, _, a2, c2, w2, r1, r2, o2, hB1.grown g2 hB1.size (fun k hk => (o1.lt k hk).1)⟩

set_option maxHeartbeats 4000000 in
set_option maxRecDepth 100000 in
theorem join_any {w : World} {va vb : Value} {a b : List Ent} (ha : Rc w va a) (hb : Rc w vb b) (hra : Rise a) (hrb : Rise b) (hn : (a.length + b.length) * 24 ≤ 140737488355328) :
    Calls Try.prog 32 #[va, vb] w fun e w' => ∃ v, e = .returned v ∧ w'.ownsRow w.heap.size 54 2 v (putAll b a).length (flat (putAll b a)) ∧ Below w.heap.size w w' := by
  obtain ⟨i0, hi0, hz0, hz1, hz2⟩ := info_parts infoMCell
  obtain ⟨aa, ac, rfl, -⟩ := ha.len
  obtain ⟨ba, bc, rfl, -⟩ := hb.len
  have hw0 : IntKind.i64.wrap ((a.length : Int) + (b.length : Int)) = (a.length : Int) + (b.length : Int) := by rw [IntKind.wrap_i64]; omega
  obtain ⟨w1, hmk, hr1, hg1⟩ := run_make_own (P := Try.prog) w w.heap.size 51 54 i0 _ 2 Try.underlying51 hi0 hz0 hz1 .i64 .i64 (a.length + b.length) (by rw [hz2]; omega) (by unfold maxLen; omega) (Nat.le_refl _)
  simp only [Int.natCast_add] at hmk
  have hB1 : Below w.heap.size w w1 := (Below.refl _ w).grown hg1 (Nat.le_refl _) (fun k e => by cases e)
  have HJ : Hid (Jo w a b a b [] (.slice aa a.length ac) (.slice ba b.length bc) (.slice (some ⟨w.heap.size, 0, none⟩) 0 (a.length + b.length)) w1) := ⟨ha, hb, hr1, rfl, hra, hrb, hB1, by simp⟩
  clear ha hb hra hrb hr1 hg1
  go_enter Try.func32, Try.ntmps32
  go_wp2_with fail
  go_loopw [0, 1, 5] (fun v0 v1 vo wr => ∃ a' b' out : List Ent, Jo w a b a' b' out v0 v1 vo wr) (fun v0 v1 _ _ => lenV v0 + lenV v1)
  case atStart => exact ⟨a, b, [], HJ.out⟩
  case round =>
    clear HJ hmk hw0 hB1
    obtain ⟨a', b', out, hJ⟩ := hrel
    obtain ⟨oa, oc, rfl, -⟩ := row_slice hJ.row
    cases a' with
    | nil =>
      obtain ⟨fa, fc, rfl, -⟩ := hJ.ra.len
      obtain ⟨sa, sc, rfl, -⟩ := hJ.rb.len
      obtain ⟨n1, a1, c1, w2, n2, a2, c2, w3, r1, r2, ho, hB⟩ := hJ.fin (.inl rfl) hn
      have HO : Hid _ := And.intro ho hB
      clear hJ ho hB
      simp only [List.length_nil] at r1 ⊢
      go_wp2_with (first
        | (at_builtin; refine Lib.wpList_append_run _ rfl _ _ _ _ rfl _ _ rfl rfl _ _ r1 ?_; clear r1)
        | (at_builtin; refine Lib.wpList_append_run _ rfl _ _ _ _ rfl _ _ rfl rfl _ _ r2 ?_))
      go_ret
      exact ⟨_, rfl, HO.out.1, HO.out.2⟩
    | cons x a' =>
      cases b' with
      | nil =>
        obtain ⟨fa, fc, rfl, -⟩ := hJ.ra.len
        obtain ⟨sa, sc, rfl, -⟩ := hJ.rb.len
        obtain ⟨n1, a1, c1, w2, n2, a2, c2, w3, r1, r2, ho, hB⟩ := hJ.fin (.inr rfl) hn
        have HO : Hid _ := And.intro ho hB
        have hpos : (0 : Int) < ((x :: a').length : Int) := by simp
        clear hJ ho hB
        simp only [List.length_nil] at r2 ⊢
        go_wp2_with (first
          | (at_builtin; refine Lib.wpList_append_run _ rfl _ _ _ _ rfl _ _ rfl rfl _ _ r1 ?_; clear r1)
          | (at_builtin; refine Lib.wpList_append_run _ rfl _ _ _ _ rfl _ _ rfl rfl _ _ r2 ?_))
        go_ret
        exact ⟨_, rfl, HO.out.1, HO.out.2⟩
      | cons y b' =>
        obtain ⟨g0, o0, k0, rfl, hk0, hl0, m0, m0', ht0⟩ := hJ.ra.cons
        obtain ⟨g1, o1, k1, rfl, hk1, hl1, m1, m1', ht1⟩ := hJ.rb.cons
        have n0 := (hJ.bw.cell (p := ⟨g0, o0, none⟩) hl0).trans m0
        have n0' := (hJ.bw.cell (p := ⟨g0, o0 + 1, none⟩) hl0).trans m0'
        have n1 := (hJ.bw.cell (p := ⟨g1, o1, none⟩) hl1).trans m1
        have n1' := (hJ.bw.cell (p := ⟨g1, o1 + 1, none⟩) hl1).trans m1'
        have hcmp := Compare_any x.1 y.1
        have hsz := hJ.bw.size
        have hlen := hJ.le
        simp only [List.length_cons] at hlen
        have far : ∀ k, k < w.heap.size → some k ≠ (Value.slice oa out.length oc).ownBlock := fun k hk e => by have := (hJ.row.lt k e.symm).1; omega
        have HJ : Hid (Jo w a b (x :: a') (y :: b') out (.slice (some ⟨g0, o0, none⟩) (a'.length + 1) k0) (.slice (some ⟨g1, o1, none⟩) (b'.length + 1) k1) (.slice oa out.length oc) wr) := hJ
        have HT : Hid _ := And.intro ht0 ht1
        have hp0 : (0 : Int) < (a'.length : Int) + 1 := by omega
        have hp1 : (0 : Int) < (b'.length : Int) + 1 := by omega
        have hq0 : (1 : Int) ≤ (a'.length : Int) + 1 := by omega
        have hq1 : (1 : Int) ≤ (b'.length : Int) + 1 := by omega
        clear hJ ht0 ht1 m0 m0' m1 m1'
        by_cases hlt : lt x.1 y.1 = true
        · have hc : cmp3 x.1 y.1 = -1 := by simp [cmp3, hlt]
          rw [hc] at hcmp
          go_wp2_with fail
          go_quiet ((go_at_call 37; refine Calls.quiet_of_same (hcmp _)))
          go_wp2_with fail
          go_region_held3 (fun w' => w'.cell? ⟨g0, o0, none⟩ = some (.string x.1) ∧ w'.cell? ⟨g0, o0 + 1, none⟩ = some (.int .i64 x.2))
            (first
              | go_keep
              | (go_split_ands
                 refine ⟨?_, ?_⟩
                 · (rw [hgrow.cell_far _ (by simp; omega) (far _ hl0)]; assumption)
                 · (rw [hgrow.cell_far _ (by simp; omega) (far _ hl0)]; assumption)))
            ((refine step_append_lies _ (by rfl) _ _ _ (by rfl) w.heap.size 54 i0 _ 2 24 Try.underlying51 hi0 hz0 hz1 hz2 rfl (by omega) (.slice oa out.length oc) out.length (flat out) (by rfl) ((HJ.out.row.alloc _).drew) ⟨wr.heap.size, 0, none⟩ 1 1 [.string x.1, .int .i64 x.2] (by rfl) (by rfl) (World.news_of_block (cs := #[.string x.1, .int .i64 x.2]) (t := 54) (fr := (0, 0)) (heap_alloc_new wr _)) (by simp [Value.oneCell']) (by omega) (by unfold maxLen; omega) (by omega) (by simp; omega) (wr.heap.size + 1) (by simp) ?_; intro gg cap w4 hown1 hgrow hat hlt4))
          all_goals
            go_wp2
            refine ⟨⟨a', y :: b', out ++ [x], HT.out.1, HJ.out.rb, by rw [flat_append, List.length_append]; exact hown1, by rw [List.append_assoc, List.singleton_append, ← join_lt HJ.out.ia hlt]; exact HJ.out.eq, (rise_cons.1 HJ.out.ia).2, HJ.out.ib, ((below_drewN HJ.out.bw _).alloc (by exact hsz) _).grown hgrow (by simp; omega) (fun k hk => (HJ.out.row.lt k hk).1), by simp; omega⟩, by simp [lenV]⟩
        · have hlt' : lt x.1 y.1 = false := by simpa using hlt
          by_cases hgt : lt y.1 x.1 = true
          · have hc : cmp3 x.1 y.1 = 1 := by simp [cmp3, hlt', hgt]
            rw [hc] at hcmp
            go_wp2_with fail
            go_quiet ((go_at_call 37; refine Calls.quiet_of_same (hcmp _)))
            go_wp2_with fail
            go_region_held3 (fun w' => w'.cell? ⟨g1, o1, none⟩ = some (.string y.1) ∧ w'.cell? ⟨g1, o1 + 1, none⟩ = some (.int .i64 y.2))
              (first
                | go_keep
                | (go_split_ands
                   refine ⟨?_, ?_⟩
                   · (rw [hgrow.cell_far _ (by simp; omega) (far _ hl1)]; assumption)
                   · (rw [hgrow.cell_far _ (by simp; omega) (far _ hl1)]; assumption)))
              ((refine step_append_lies _ (by rfl) _ _ _ (by rfl) w.heap.size 54 i0 _ 2 24 Try.underlying51 hi0 hz0 hz1 hz2 rfl (by omega) (.slice oa out.length oc) out.length (flat out) (by rfl) ((HJ.out.row.alloc _).drew) ⟨wr.heap.size, 0, none⟩ 1 1 [.string y.1, .int .i64 y.2] (by rfl) (by rfl) (World.news_of_block (cs := #[.string y.1, .int .i64 y.2]) (t := 54) (fr := (0, 0)) (heap_alloc_new wr _)) (by simp [Value.oneCell']) (by omega) (by unfold maxLen; omega) (by omega) (by simp; omega) (wr.heap.size + 1) (by simp) ?_; intro gg cap w4 hown1 hgrow hat hlt4))
            all_goals
              go_wp2
              refine ⟨⟨x :: a', b', out ++ [y], HJ.out.ra, HT.out.2, by rw [flat_append, List.length_append]; exact hown1, by rw [List.append_assoc, List.singleton_append, ← join_gt HJ.out.ia hgt]; exact HJ.out.eq, HJ.out.ia, (rise_cons.1 HJ.out.ib).2, ((below_drewN HJ.out.bw _).alloc (by exact hsz) _).grown hgrow (by simp; omega) (fun k hk => (HJ.out.row.lt k hk).1), by simp; omega⟩, by simp [lenV]⟩
          · have HE : Hid (x.1 = y.1) := lt_total hlt' (by simpa using hgt)
            have hc : cmp3 x.1 y.1 = 0 := by simp [cmp3, hlt', hgt]
            rw [hc] at hcmp
            go_wp2_with fail
            go_quiet ((go_at_call 37; refine Calls.quiet_of_same (hcmp _)))
            go_wp2
            refine ⟨⟨x :: a', b', out, HJ.out.ra, HT.out.2, HJ.out.row, by rw [← join_eq HJ.out.ib HE.out]; exact HJ.out.eq, HJ.out.ia, (rise_cons.1 HJ.out.ib).2, below_drewN HJ.out.bw _, by simp; omega⟩, by simp [lenV]⟩
end Go.Proofs.Ytlhijbgdccejbaa

/-
  The document's disk: Append of a new file.
-/
import Derived.Test.YtedcabnjcbdkaaaD5G
namespace Go.Proofs.Ytedcabnjcbdkaaa
open Go.RowKit Go.Shelf Go.Sort
open Go.Lib hiding intOf
variable {w : World} {B db : Nat} {fs : List Fil} {p : Int} {off : Bool} {sv : Value} {st : Ab}

/-- the first i files, with a new one at its place -/
def insTo (fs : List Fil) (P : Nat) (f : Fil) (i : Nat) : List Fil := if i ≤ P then fs.take i else fs.take P ++ f :: (fs.take i).drop P
theorem insTo_lt (P : Nat) (f : Fil) {i : Nat} (hi : i < fs.length) (h : i < P) : insTo fs P f (i + 1) = insTo fs P f i ++ [fs[i]] := by
  unfold insTo
  rw [if_pos (by omega), if_pos (by omega), List.take_succ_eq_append_getElem hi]
theorem insTo_eq (P : Nat) (f : Fil) (hi : P < fs.length) : insTo fs P f (P + 1) = (insTo fs P f P ++ [f]) ++ [fs[P]] := by
  unfold insTo
  rw [if_neg (by omega), if_pos (Nat.le_refl _), List.take_succ_eq_append_getElem hi, List.drop_append_of_le_length (by simp; omega), List.drop_of_length_le (by simp; omega), List.nil_append]
  simp
theorem insTo_gt (P : Nat) (f : Fil) {i : Nat} (hi : i < fs.length) (h : P < i) : insTo fs P f (i + 1) = insTo fs P f i ++ [fs[i]] := by
  unfold insTo
  rw [if_neg (by omega), if_neg (by omega), List.take_succ_eq_append_getElem hi, List.drop_append_of_le_length (by simp; omega)]
  simp
theorem insTo_len (P : Nat) (f : Fil) {i : Nat} (hi : i ≤ fs.length) : (insTo fs P f i).length ≤ i + 1 := by
  unfold insTo
  split
  · simp; omega
  · simp; omega
theorem insTo_end {P : Nat} (f : Fil) (h : P < fs.length) : insTo fs P f fs.length = fs.take P ++ f :: fs.drop P := by
  unfold insTo
  rw [if_neg (by omega), List.take_length]
theorem insTo_last {P : Nat} (f : Fil) (h : P = fs.length) : insTo fs P f fs.length ++ [f] = fs.take P ++ f :: fs.drop P := by
  subst h
  unfold insTo
  rw [if_pos (Nat.le_refl _), List.drop_of_length_le (Nat.le_refl _)]
theorem less_pos (hr : Rise fs) {k : ByteArray} (hk : has fs k = false) {i : Nat} (hi : i < fs.length) : lt k fs[i].1 = decide (pos fs k ≤ i) := by
  have h1 := pos_lt fs k i hr hi
  by_cases h : i < pos fs k
  · rw [lt_asymm (h1.2 h), decide_eq_false (by omega)]
  · rw [decide_eq_true (by omega)]
    have h2 : lt fs[i].1 k = false := by
      cases e : lt fs[i].1 k with
      | false => rfl
      | true => exact absurd (h1.1 e) h
    cases e : lt k fs[i].1 with
    | true => rfl
    | false =>
      have e2 := lt_total h2 e
      have hm : (k, fs[i].2) ∈ fs := by rw [← e2]; exact List.getElem_mem hi
      rw [mem_has hr hm] at hk
      cases hk
def JA (w2 : World) (fs : List Fil) (P : Nat) (f : Fil) (i : Nat) (v : Value) (wr : World) : Prop := wr.ownsRow w2.heap.size 47 3 v (insTo fs P f i).length (fcells (insTo fs P f i)) ∧ Below w2.heap.size w2 wr
set_option maxRecDepth 100000 in
set_option maxHeartbeats 8000000 in
theorem dapp_new (h : Dk w db B fs p false sv) (hr : Rise fs) (hsmall : ∀ e ∈ fs, e.1.size ≤ 32) (k s : ByteArray) (hk1 : 1 ≤ k.size) (hk2 : k.size ≤ 32) (hn : fs.length < 256) (hp : -9223372036854775808 ≤ p ∧ p ≤ 9223372036854775807) (hk : has fs k = false) (hx : fnum fs k = -1) (hs : s.size ≤ 1048576) (hpo : powOk p = true) (hB : B ≤ w.heap.size) :
    Calls Try.prog 28 #[.pointer (some ⟨db, 0, none⟩), .string k, .string s] w fun r w' => r = .returned (.int .i64 0) ∧ DDid w B db sv w' (put fs k (⟨#[]⟩, s), powOf p, false) := by
  have c2 := h.c2
  have c0 := h.c0
  have hF := dfind_any h k (by omega)
  rw [hx] at hF
  obtain ⟨i0, hi0, hz0, hz1, hz2⟩ := info_parts infoFile
  have hA : ∀ n, _ := fun n => dact_any (h.below (below_drewN (Below.refl _ w) n)) hp
  rw [hpo] at hA
  obtain ⟨a0, c00, rfl, -⟩ := row_slice h.row
  have h1' : ¬ (k.size : Int) < 1 := by omega
  have h2' : ¬ (32 : Int) < (k.size : Int) := by omega
  have h3' : ((fs.length : Int) == 256) = false := by simp; omega
  have h4 : decide ((1048576 : Int) < (s.size : Int)) = false := decide_eq_false (by omega)
  have HPUT : Hid (put fs k (⟨#[]⟩, s) = fs.take (pos fs k) ++ (k, ⟨#[]⟩, s) :: fs.drop (pos fs k)) := by show put fs k (⟨#[]⟩, s) = _; unfold put; rw [hk]; rfl
  have hple := pos_le fs k
  have HLESS : Hid (∀ i (hi : i < fs.length), lt k fs[i].1 = decide (pos fs k ≤ i)) := fun i hi => less_pos hr hk hi
  obtain ⟨P, hP⟩ : ∃ P, pos fs k = P := ⟨_, rfl⟩
  rw [hP] at HPUT HLESS hple
  clear h hx hk hP hr
  go_enter Try.func28, Try.ntmps28
  go_wp2_with (go_at_call 41; refine hF.mono ?_; rintro e w1 ⟨rfl, rfl⟩)
  go_quiet (fail)
  go_wp2_with (go_at_call 42; (refine (hA _).mono ?_; rintro e w2 ⟨rfl, D2, C2⟩; have HD : Hid _ := And.intro D2 C2; clear D2 C2))
  go_loopw [9, 10, 11] (fun u vd vi wr => ∃ (i : Nat) (v : Value), u = v ∧ vd = .bool (decide (P < i)) ∧ vi = .int .i64 i ∧ i ≤ fs.length ∧ JA w2 fs P (k, ⟨#[]⟩, s) i v wr) (fun _ _ vi _ => fs.length - (intOf vi).toNat)
  case atStart => exact ⟨0, _, rfl, by simp, rfl, Nat.zero_le _, by unfold insTo; rw [if_pos (Nat.zero_le _)]; exact World.ownsRow_nil _ _ _ _, Below.refl _ _⟩
  case round =>
    obtain ⟨i, v9, hv9, rfl, rfl, hi, hJ⟩ := hrel
    subst hv9
    have hD := HD.out.1.below hJ.2
    have c0 := hD.c0
    by_cases hl : i < fs.length
    · have hli : (i : Int) < (fs.length : Int) := by omega
      have hi1 : (0 : Int) ≤ (i : Int) := Int.natCast_nonneg _
      obtain ⟨g, c, hg⟩ := hD.slice hl
      injection hg with hg _ hcq
      subst hg
      clear hcq
      have m0 := row_cell hD.row (fcells_at fs i hl).1
      have m1 := row_cell hD.row (fcells_at fs i hl).2.1
      have m2 := row_cell hD.row (fcells_at fs i hl).2.2
      have hlen := insTo_len P (k, ⟨#[]⟩, s) hi
      have hnm : fs[i].1.size ≤ 32 := hsmall _ (List.getElem_mem hl)
      have hLs := HLESS.out i hl
      have HJ : Hid (JA w2 fs P (k, ⟨#[]⟩, s) i u9 wr) := hJ
      obtain ⟨a3, c3, rfl, -⟩ := row_slice hJ.1
      clear hD hJ
      have HFS : Hid (∀ (l : List Fil) (f : Fil), fcells (l ++ [f]) = fcells l ++ [.string f.1, .string f.2.1, .string f.2.2]) := fcells_snoc
      have hle := fun W => Less_any k fs[i].1 (by omega) (by omega) W
      rw [hLs] at hle
      by_cases h1 : i < P
      · have HS : Hid (insTo fs P (k, ⟨#[]⟩, s) (i + 1) = insTo fs P (k, ⟨#[]⟩, s) i ++ [fs[i]]) := insTo_lt P _ hl h1
        rw [decide_eq_false (by omega : ¬ P ≤ i)] at hle
        have hdn : decide (P < i) = false := decide_eq_false (by omega)
        have hdn2 : Hid (decide (P < i + 1) = false) := decide_eq_false (by omega)
        rw [hdn]
        clear hLs hdn
        unfold JA at HJ
        generalize insTo fs P (k, ⟨#[]⟩, s) i = L at *
        generalize fs[i] = F at *
        obtain ⟨nm, sa, re⟩ := F
        simp only at m0 m1 m2 hle
        go_wp2_with (first
          | (go_at_call 43; refine (hle _).mono ?_; rintro e w3 ⟨rfl, hB3⟩; (have HJ3 : Hid (w3.ownsRow w2.heap.size 47 3 (.slice a3 L.length c3) L.length (fcells L) ∧ Below w2.heap.size w2 w3) := ⟨Ch.row (X := fun _ => False) (Ch.of_below hB3) HJ.out.1 (fun _ _ h => h), HJ.out.2.trans (hB3.mono HJ.out.2.size)⟩); have c0' := (HD.out.1.below HJ3.out.2).c0; have m0' := (hB3.cell (p := ⟨g, i * 3, none⟩) (World.block_lt_of_cell? _ _ m0)).trans m0; have m1' := (hB3.cell (p := ⟨g, i * 3 + 1, none⟩) (World.block_lt_of_cell? _ _ m1)).trans m1; have m2' := (hB3.cell (p := ⟨g, i * 3 + 2, none⟩) (World.block_lt_of_cell? _ _ m2)).trans m2)
          | (at_builtin; refine wpList_append_own _ rfl _ _ 35 rfl w2.heap.size 47 i0 _ 3 48 Try.underlying35 hi0 hz0 hz1 hz2 rfl (by decide) _ L.length (fcells L) rfl (HJ3.out.1.alloc _) ⟨w3.heap.size, 0, none⟩ 1 1 [.string nm, .string sa, .string re] rfl rfl (fun j u hj => by rw [Addr.add_lit]; exact three_cells (heap_alloc_new w3 _) j u hj) (by simp [Value.oneCell']) (by unfold maxLen; omega) (by omega) (by have := HJ3.out.2.size; simp; omega) ?_; intro v5 w5 ho5 hg5 _))
        go_roundw
        case rel =>
          refine ⟨i + 1, _, rfl, by rw [hdn2.out], by simp, by omega, ?_, (HJ3.out.2.alloc HJ3.out.2.size _).grown hg5 (by have := HJ3.out.2.size; simp; omega) (fun k hk => (HJ3.out.1.lt k hk).1)⟩
          rw [HS.out, HFS.out, List.length_append]
          exact ho5
        case measure => simp [intOf]; omega
      · by_cases h2 : P < i
        · have HS : Hid (insTo fs P (k, ⟨#[]⟩, s) (i + 1) = insTo fs P (k, ⟨#[]⟩, s) i ++ [fs[i]]) := insTo_gt P _ hl h2
          rw [decide_eq_true (by omega : P ≤ i)] at hle
          have hdn : decide (P < i) = true := decide_eq_true (by omega)
          have hdn2 : Hid (decide (P < i + 1) = true) := decide_eq_true (by omega)
          rw [hdn]
          clear hLs hdn
          unfold JA at HJ
          generalize insTo fs P (k, ⟨#[]⟩, s) i = L at *
          generalize fs[i] = F at *
          obtain ⟨nm, sa, re⟩ := F
          simp only at m0 m1 m2 hle
          go_wp2_with (first
            | (go_at_call 43; refine (hle _).mono ?_; rintro e w3 ⟨rfl, hB3⟩; (have HJ3 : Hid (w3.ownsRow w2.heap.size 47 3 (.slice a3 L.length c3) L.length (fcells L) ∧ Below w2.heap.size w2 w3) := ⟨Ch.row (X := fun _ => False) (Ch.of_below hB3) HJ.out.1 (fun _ _ h => h), HJ.out.2.trans (hB3.mono HJ.out.2.size)⟩); have c0' := (HD.out.1.below HJ3.out.2).c0; have m0' := (hB3.cell (p := ⟨g, i * 3, none⟩) (World.block_lt_of_cell? _ _ m0)).trans m0; have m1' := (hB3.cell (p := ⟨g, i * 3 + 1, none⟩) (World.block_lt_of_cell? _ _ m1)).trans m1; have m2' := (hB3.cell (p := ⟨g, i * 3 + 2, none⟩) (World.block_lt_of_cell? _ _ m2)).trans m2)
            | (at_builtin; refine wpList_append_own _ rfl _ _ 35 rfl w2.heap.size 47 i0 _ 3 48 Try.underlying35 hi0 hz0 hz1 hz2 rfl (by decide) _ L.length (fcells L) rfl (HJ3.out.1.alloc _) ⟨w3.heap.size, 0, none⟩ 1 1 [.string nm, .string sa, .string re] rfl rfl (fun j u hj => by rw [Addr.add_lit]; exact three_cells (heap_alloc_new w3 _) j u hj) (by simp [Value.oneCell']) (by unfold maxLen; omega) (by omega) (by have := HJ3.out.2.size; simp; omega) ?_; intro v5 w5 ho5 hg5 _))
          go_roundw
          case rel =>
            refine ⟨i + 1, _, rfl, by rw [hdn2.out], by simp, by omega, ?_, (HJ3.out.2.alloc HJ3.out.2.size _).grown hg5 (by have := HJ3.out.2.size; simp; omega) (fun k hk => (HJ3.out.1.lt k hk).1)⟩
            rw [HS.out, HFS.out, List.length_append]
            exact ho5
          case measure => simp [intOf]; omega
        · obtain rfl : i = P := by omega
          have HS : Hid (insTo fs i (k, ⟨#[]⟩, s) (i + 1) = (insTo fs i (k, ⟨#[]⟩, s) i ++ [(k, ⟨#[]⟩, s)]) ++ [fs[i]]) := insTo_eq i _ hl
          rw [decide_eq_true (by omega : i ≤ i)] at hle
          have hdn : decide (i < i) = false := decide_eq_false (by omega)
          have hdn2 : Hid (decide (i < i + 1) = true) := decide_eq_true (by omega)
          rw [hdn]
          clear hLs hdn HLESS HPUT
          unfold JA at HJ
          generalize insTo fs i (k, ⟨#[]⟩, s) i = L at *
          go_wp2_with (first
            | (go_at_call 43; refine (hle _).mono ?_; rintro e w3 ⟨rfl, hB3⟩; (have HJ3 : Hid (w3.ownsRow w2.heap.size 47 3 (.slice a3 L.length c3) L.length (fcells L) ∧ Below w2.heap.size w2 w3) := ⟨Ch.row (X := fun _ => False) (Ch.of_below hB3) HJ.out.1 (fun _ _ h => h), HJ.out.2.trans (hB3.mono HJ.out.2.size)⟩); have c0' := (HD.out.1.below HJ3.out.2).c0; clear hle)
            | (at_builtin; refine wpList_append_own _ rfl _ _ 35 rfl w2.heap.size 47 i0 _ 3 48 Try.underlying35 hi0 hz0 hz1 hz2 rfl (by decide) _ L.length (fcells L) rfl (HJ3.out.1.alloc _) ⟨w3.heap.size, 0, none⟩ 1 1 [.string k, .string ⟨#[]⟩, .string s] rfl rfl (fun j u hj => by rw [Addr.add_lit]; exact three_cells (heap_alloc_new w3 _) j u hj) (by simp [Value.oneCell']) (by unfold maxLen; omega) (by omega) (by have := HJ3.out.2.size; simp; omega) ?_; intro v5 w5 ho5 hg5 _; (have HJ5 : Hid (w5.ownsRow w2.heap.size 47 3 v5 (L.length + 1) (fcells (L ++ [(k, ⟨#[]⟩, s)])) ∧ Below w2.heap.size w2 w5) := ⟨by rw [HFS.out]; exact ho5, (HJ3.out.2.alloc HJ3.out.2.size _).grown hg5 (by have := HJ3.out.2.size; simp; omega) (fun k hk => (HJ3.out.1.lt k hk).1)⟩); have D5 := HD.out.1.below HJ5.out.2; have c0'' := D5.c0; have m0' := row_cell D5.row (fcells_at fs i hl).1; have m1' := row_cell D5.row (fcells_at fs i hl).2.1; have m2' := row_cell D5.row (fcells_at fs i hl).2.2; clear ho5 hg5 HJ3 D5 m0 m1 m2; obtain ⟨a5, c5, rfl, -⟩ := row_slice HJ5.out.1)
            | (at_builtin; refine wpList_append_own _ rfl _ _ 35 rfl w2.heap.size 47 i0 _ 3 48 Try.underlying35 hi0 hz0 hz1 hz2 rfl (by decide) _ (L.length + 1) (fcells (L ++ [(k, ⟨#[]⟩, s)])) rfl (HJ5.out.1.alloc _) ⟨w5.heap.size, 0, none⟩ 1 1 [.string fs[i].1, .string fs[i].2.1, .string fs[i].2.2] rfl rfl (fun j u hj => by rw [Addr.add_lit]; exact three_cells (heap_alloc_new w5 _) j u hj) (by simp [Value.oneCell']) (by unfold maxLen; omega) (by omega) (by have := HJ5.out.2.size; simp; omega) ?_; intro v7 w7 ho7 hg7 _))
          go_roundw
          case rel =>
            refine ⟨i + 1, _, rfl, by rw [hdn2.out], by simp, by omega, ?_, (HJ5.out.2.alloc HJ5.out.2.size _).grown hg7 (by have := HJ5.out.2.size; simp; omega) (fun k hk => (HJ5.out.1.lt k hk).1)⟩
            rw [HS.out, HFS.out, List.length_append, List.length_append]
            exact ho7
          case measure => simp [intOf]; omega
    · have hli : ¬ (i : Int) < (fs.length : Int) := by omega
      obtain rfl : i = fs.length := by omega
      have f0 := hD.fro 0
      have HJ : Hid (JA w2 fs P (k, ⟨#[]⟩, s) fs.length u9 wr) := hJ
      have hlen := insTo_len P (k, ⟨#[]⟩, s) hi
      obtain ⟨a8, c8, rfl, -⟩ := row_slice hJ.1
      have fin : Hid (∀ (W : World) (v : Value), W.ownsRow w2.heap.size 47 3 v (fs.take P ++ (k, ⟨#[]⟩, s) :: fs.drop P).length (fcells (fs.take P ++ (k, ⟨#[]⟩, s) :: fs.drop P)) → Below w2.heap.size w2 W → DDid w1 B db (.slice a0 fs.length c00) (W.setCell ⟨db, 0, none⟩ v) (put fs k (⟨#[]⟩, s), powOf p, false)) := by
        intro W v hrow hbw
        have hDW := HD.out.1.below hbw
        have hN := hDW.newrow hrow (Nat.le_trans hB HD.out.2.size)
        have C2' : Ch (fun x => x = db) w1 w2 := ⟨HD.out.2.os, HD.out.2.tape, HD.out.2.output, HD.out.2.size, HD.out.2.block⟩
        refine ⟨v, ?_, ((C2'.mono (fun _ _ e => .inl e)).trans (Ch.of_below hbw)).setCell ⟨db, 0, none⟩ _ (fun _ => .inl rfl), fun x hx => .inr (Nat.le_trans HD.out.2.size (row_obj hrow hx).1)⟩
        rw [HPUT.out]
        exact hN
      clear hD hJ
      by_cases hlast : P < fs.length
      · have hdn : decide (P < fs.length) = true := decide_eq_true hlast
        have HZ : Hid _ := fin.out wr (.slice a8 (insTo fs P (k, ⟨#[]⟩, s) fs.length).length c8) (by rw [← insTo_end (k, ⟨#[]⟩, s) hlast]; exact HJ.out.1) HJ.out.2
        rw [hdn]
        clear hdn fin
        go_wp2
        go_ret
        exact ⟨rfl, HZ.out⟩
      · have hdn : decide (P < fs.length) = false := decide_eq_false hlast
        have HL : Hid (insTo fs P (k, ⟨#[]⟩, s) fs.length ++ [(k, ⟨#[]⟩, s)] = fs.take P ++ (k, ⟨#[]⟩, s) :: fs.drop P) := insTo_last _ (by omega)
        have HFS : Hid (∀ (l : List Fil) (f : Fil), fcells (l ++ [f]) = fcells l ++ [.string f.1, .string f.2.1, .string f.2.2]) := fcells_snoc
        rw [hdn]
        unfold JA at HJ
        clear hdn
        generalize insTo fs P (k, ⟨#[]⟩, s) fs.length = L at *
        go_wp2_with (at_builtin; refine wpList_append_own _ rfl _ _ 35 rfl w2.heap.size 47 i0 _ 3 48 Try.underlying35 hi0 hz0 hz1 hz2 rfl (by decide) _ L.length (fcells L) rfl (HJ.out.1.alloc _) ⟨wr.heap.size, 0, none⟩ 1 1 [.string k, .string ⟨#[]⟩, .string s] rfl rfl (fun j u hj => by rw [Addr.add_lit]; exact three_cells (heap_alloc_new wr _) j u hj) (by simp [Value.oneCell']) (by unfold maxLen; omega) (by omega) (by have := HJ.out.2.size; simp; omega) ?_; intro v5 w5 ho5 hg5 _; (have HJ5 : Hid (w5.ownsRow w2.heap.size 47 3 v5 (L.length + 1) (fcells (L ++ [(k, ⟨#[]⟩, s)])) ∧ Below w2.heap.size w2 w5) := ⟨by rw [HFS.out]; exact ho5, (HJ.out.2.alloc HJ.out.2.size _).grown hg5 (by have := HJ.out.2.size; simp; omega) (fun k hk => (HJ.out.1.lt k hk).1)⟩); have c0'' := (HD.out.1.below HJ5.out.2).c0; have f0'' := (HD.out.1.below HJ5.out.2).fro 0; obtain ⟨a5, c5, rfl, -⟩ := row_slice HJ5.out.1; clear ho5 hg5)
        go_ret
        refine ⟨rfl, fin.out w5 _ ?_ HJ5.out.2⟩
        rw [← HL.out, List.length_append]
        exact HJ5.out.1
end Go.Proofs.Ytedcabnjcbdkaaa

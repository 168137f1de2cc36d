/-
  The document's answer for merge.
-/
import Derived.Test.YtlhijbgdccejbaaM3Rise
import Derived.Deep.AppendLies
namespace Go.Proofs.Ytlhijbgdccejbaa
open Go.RowKit Go.Shelf Go.Sort
open Go.Lib hiding intOf

/-- v is a slice of slices of rows -/
def Rws (w : World) (v : Value) (ls : List (List Ent)) : Prop :=
  ∃ a cap, v = .slice a ls.length cap ∧ (ls = [] ∨ ∃ b off, a = some ⟨b, off, none⟩ ∧ b < w.heap.size ∧ ∀ (j : Nat) (h : j < ls.length), ∃ u, w.cell? ⟨b, off + j, none⟩ = some u ∧ Rw w u ls[j])
/-- one behind the other are put -/
def putAll (es r : List Ent) : List Ent := r.foldl (fun es e => put es e.1 e.2) es
/-- what all come to: the first one that has a key counts -/
def merged (ls : List (List Ent)) : List Ent := ls.foldr (fun l es => putAll es (risen l)) []
theorem putAll_take {es r : List Ent} {k : Nat} (h : k < r.length) : putAll es (r.take (k + 1)) = put (putAll es (r.take k)) r[k].1 r[k].2 := by
  rw [List.take_succ_eq_append_getElem h, putAll, List.foldl_append]; rfl
theorem putAll_rise {es : List Ent} (h : Rise es) (r : List Ent) : Rise (putAll es r) := by
  induction r generalizing es with
  | nil => exact h
  | cons e r ih => exact ih (put_rise h e.1 e.2)
theorem putAll_len (es r : List Ent) : (putAll es r).length ≤ es.length + r.length := by
  induction r generalizing es with
  | nil => exact Nat.le_refl _
  | cons e r ih =>
    have h1 := ih (put es e.1 e.2)
    have h2 := put_len es e.1 e.2
    have e1 : putAll es (e :: r) = putAll (put es e.1 e.2) r := rfl
    rw [e1, List.length_cons]
    split at h2 <;> omega
theorem putAll_short {es r : List Ent} (h : Short es) (hr : Short r) : Short (putAll es r) := by
  induction r generalizing es with
  | nil => exact h
  | cons e r ih => exact ih (put_short h e.1 e.2 (hr e (by simp))) (fun x hx => hr x (by simp [hx]))
theorem merged_drop {ls : List (List Ent)} {i : Nat} (h : i < ls.length) : merged (ls.drop i) = putAll (merged (ls.drop (i + 1))) (risen ls[i]) := by
  rw [List.drop_eq_getElem_cons h]; rfl
theorem risen_all (l : List Ent) : (risen l).length ≤ l.length ∧ ∀ e ∈ risen l, e ∈ l := by
  have h1 := risen_len l l.length
  have h2 := risen_sub l l.length
  rw [List.take_length] at h1 h2
  exact ⟨h1, h2⟩

set_option maxHeartbeats 4000000 in
/-- the rows of one range are put, one behind the other -/
theorem rPut_row {w : World} {rb base : Nat} {es r : List Ent} {kv vv rv : Value} {k : Nat} (h : Rf w rb base es kv vv) (hs : Rise es) (hsh : Short es) (hr : w.ownsRow base 33 2 rv r.length (flat r)) (hk : k < r.length) (hz : r[k].1.size < 4611686018427387904) (hn : (es.length + 1) * 24 ≤ 211106232528000) (hb0 : base ≤ w.heap.size) :
    Calls Try.prog 24 #[.pointer (some ⟨rb, 0, none⟩), .string r[k].1, .int .i64 r[k].2] w fun e w' => e = .returned (.tuple #[.int .i64 (val es r[k].1), .bool (has es r[k].1)]) ∧ (∃ kv' vv', Rf w' rb base (put es r[k].1 r[k].2) kv' vv') ∧ w'.ownsRow base 33 2 rv r.length (flat r) ∧ Ch (fun b => b = rb) w w' := by
  refine (rPut_any h hs hsh r[k].1 r[k].2 hz hn hb0).mono ?_
  rintro e w' ⟨rfl, kv', vv', hR, hC, -⟩
  refine ⟨rfl, ⟨kv', vv', hR⟩, hC.row hr ?_, hC⟩
  rintro g hg rfl
  obtain ⟨_, cur, hx⟩ := row_obj hr hg
  rw [h.hd] at hx; injection hx with x; injection x with _ x; cases x

/-- what stands while the document's answer is worked out -/
structure Mg (w : World) (rb : Nat) (es : List Ent) (wr : World) : Prop where
  rf : ∃ kv vv, Rf wr rb w.heap.size es kv vv
  b : Below w.heap.size w wr
  rise : Rise es
  sh : Short es
  rb : w.heap.size ≤ rb
theorem Mg.below {w wr wz : World} {rb : Nat} {es : List Ent} (h : Mg w rb es wr) (hb : Below wr.heap.size wr wz) : Mg w rb es wz := by
  obtain ⟨kv, vv, hR⟩ := h.rf
  exact ⟨⟨kv, vv, hR.below hb⟩, h.b.trans (hb.mono h.b.size), h.rise, h.sh, h.rb⟩

set_option maxHeartbeats 8000000 in
set_option maxRecDepth 100000 in
theorem rMerge_any {w : World} {v : Value} {ls : List (List Ent)} (h : Rws w v ls) (hn : ls.length ≤ 1048576) (hN : ∀ i, (merged (ls.drop i)).length ≤ 1048576) (hL : ∀ l ∈ ls, l.length ≤ 1048576 ∧ Short l) :
    Calls Try.prog 12 #[v] w fun e w' => ∃ v', e = .returned v' ∧ w'.ownsRow w.heap.size 33 2 v' (merged ls).length (flat (merged ls)) ∧ Below w.heap.size w w' := by
  obtain ⟨i0, hi0, hz0, hz1, hz2⟩ := info_parts infoRow
  have H : Hid (Rws w v ls ∧ (∀ i, (merged (ls.drop i)).length ≤ 1048576) ∧ ∀ l ∈ ls, l.length ≤ 1048576 ∧ Short l) := ⟨h, hN, hL⟩
  obtain ⟨a, cap, rfl, -⟩ := h
  clear hN hL
  have M0 : Mg w w.heap.size (merged (ls.drop ls.length)) (w.alloc (.cells #[.slice none 0 0, .slice none 0 0] 57)) := by
    rw [List.drop_length]
    exact ⟨⟨_, _, heap_alloc_new w _, rfl, World.ownsRow_nil _ _ _ _, World.ownsRow_nil _ _ _ _⟩, (Below.refl _ w).alloc (Nat.le_refl _) _, List.Pairwise.nil, fun e he => (by cases he), Nat.le_refl _⟩
  have hw0 : IntKind.i64.wrap ((ls.length : Int) - 1) = (ls.length : Int) - 1 := by rw [IntKind.wrap_i64]; omega
  go_enter Try.func12, Try.ntmps12
  go_wp2
  go_loopw [4] (fun vi wr => ∃ i : Nat, i ≤ ls.length ∧ vi = .int .i64 ((i : Int) - 1) ∧ Mg w w.heap.size (merged (ls.drop i)) wr) (fun vi _ => (intOf vi + 1).toNat)
  case atStart => exact ⟨ls.length, Nat.le_refl _, rfl, M0⟩
  case round =>
    obtain ⟨i, hi, rfl, M⟩ := hrel
    clear M0 hw0
    cases i with
    | zero =>
      have e1 : ((0 : Nat) : Int) - 1 = -1 := by omega
      rw [e1]
      have hml := H.out.2.1 0
      have hd0 : ls.drop 0 = ls := rfl
      rw [hd0] at M hml
      obtain ⟨es, hes⟩ : ∃ es, es = merged ls := ⟨_, rfl⟩
      rw [← hes] at M hml
      have HES : Hid (es = merged ls) := hes
      clear hes
      obtain ⟨kv, vv, hRf⟩ := M.rf
      obtain ⟨ka, kc, rfl, -⟩ := row_slice hRf.kv.1
      obtain ⟨va, vc, rfl, -⟩ := row_slice hRf.kv.2
      obtain ⟨wo, rfl⟩ : ∃ wo, wo = wr := ⟨_, rfl⟩
      have HM : Hid (Rf wo w.heap.size w.heap.size es (.slice ka es.length kc) (.slice va es.length vc) ∧ Below w.heap.size w wo) := ⟨hRf, M.b⟩
      clear hRf M H hd0
      go_wp2_with fail
      go_loopw [7, 8] (fun vo vi wz => ∃ i : Nat, vi = .int .i64 i ∧ i ≤ es.length ∧ wz.ownsRow wo.heap.size 33 2 vo i (flat (es.take i)) ∧ Below wo.heap.size wo wz) (fun _ vi _ => es.length - (intOf vi).toNat)
      case atStart => exact ⟨0, rfl, Nat.zero_le _, World.ownsRow_nil _ _ _ _, Below.refl _ _⟩
      case round =>
        obtain ⟨i, rfl, hi, hO, hB⟩ := hrel
        obtain ⟨ao, co, rfl, -⟩ := row_slice hO
        have hRr := HM.out.1.below hB
        have x0 := hRr.cell0
        by_cases hl : i < es.length
        · have hli : (i : Int) < (es.length : Int) := by omega
          have hi0' : (0 : Int) ≤ (i : Int) := Int.natCast_nonneg _
          have x1 := hRr.cell1
          obtain ⟨g, hg⟩ : ∃ g, ka = some ⟨g, 0, none⟩ := by
            rcases hRr.kv.1.2 with ⟨e, h0⟩ | ⟨g, cap', cur, e, -⟩
            · omega
            · cases e; exact ⟨g, rfl⟩
          obtain ⟨g', hg'⟩ : ∃ g', va = some ⟨g', 0, none⟩ := by
            rcases hRr.kv.2.2 with ⟨e, h0⟩ | ⟨g, cap', cur, e, -⟩
            · omega
            · cases e; exact ⟨g, rfl⟩
          subst hg hg'
          have x2 := row_cell hRr.kv.1 (kcells_get hl)
          have x3 := row_cell hRr.kv.2 (vcells_get hl)
          have hlr := HM.out.1.lt
          have hlg := (HM.out.1.kv.1.lt g rfl).2
          have hlg' := (HM.out.1.kv.2.lt g' rfl).2
          have hzz := hB.size
          have far : ∀ k, k < wo.heap.size → some k ≠ (Value.slice ao i co).ownBlock := fun k hk e => by have := (hO.lt k e.symm).1; omega
          have hft : flat (es.take (i + 1)) = flat (es.take i) ++ [.string es[i].1, .int .i64 es[i].2] := by rw [List.take_succ_eq_append_getElem hl, flat_append]; rfl
          have HO : Hid (wr.ownsRow wo.heap.size 33 2 (.slice ao i co) i (flat (es.take i)) ∧ Below wo.heap.size wo wr ∧ flat (es.take (i + 1)) = flat (es.take i) ++ [.string es[i].1, .int .i64 es[i].2]) := ⟨hO, hB, hft⟩
          clear hRr hO hB hft HM
          generalize es[i].1 = y at *
          generalize es[i].2 = z at *
          go_wp2_with fail
          go_region_held3 (fun w' => w'.cell? ⟨w.heap.size, 0, none⟩ = some (.slice (some ⟨g, 0, none⟩) es.length kc) ∧ w'.cell? ⟨w.heap.size, 1, none⟩ = some (.slice (some ⟨g', 0, none⟩) es.length vc) ∧ w'.cell? ⟨g, i, none⟩ = some (.string y) ∧ w'.cell? ⟨g', i, none⟩ = some (.int .i64 z))
            (first
              | go_keep
              | (go_split_ands
                 refine ⟨?_, ?_, ?_, ?_⟩
                 · (rw [hgrow.cell_far _ (by simp; omega) (far _ hlr)]; assumption)
                 · (rw [hgrow.cell_far _ (by simp; omega) (far _ hlr)]; assumption)
                 · (rw [hgrow.cell_far _ (by simp; omega) (far _ hlg)]; assumption)
                 · (rw [hgrow.cell_far _ (by simp; omega) (far _ hlg')]; assumption)))
            ((refine step_append_lies _ (by rfl) _ _ _ (by rfl) wo.heap.size 33 i0 _ 2 24 Try.underlying30 hi0 hz0 hz1 hz2 rfl (by omega) (.slice ao i co) i (flat (es.take i)) (by rfl) ((HO.out.1.alloc _).drew) ⟨wr.heap.size, 0, none⟩ 1 1 [.string y, .int .i64 z] (by rfl) (by rfl) (World.news_of_block (cs := #[.string y, .int .i64 z]) (t := 33) (fr := (0, 0)) (heap_alloc_new wr _)) (by simp [Value.oneCell']) (by omega) (by unfold maxLen; omega) (by omega) (by simp; omega) (wr.heap.size + 1) (by simp) ?_; intro gg cap w1 hown1 hgrow hat hlt))
          all_goals
            go_wp2
            refine ⟨⟨i + 1, by go_num, by omega, by rw [HO.out.2.2]; exact hown1, ((HO.out.2.1.alloc hzz _).drew).grown hgrow (by simp; omega) (fun k hk => (HO.out.1.lt k hk).1)⟩, by simp [intOf]; omega⟩
        · have hli : ¬ (i : Int) < (es.length : Int) := by omega
          obtain rfl : i = es.length := by omega
          rw [List.take_length] at hO
          have HZ : Hid (wr.ownsRow w.heap.size 33 2 (.slice ao es.length co) es.length (flat es) ∧ Below w.heap.size w wr) := ⟨row_low hO HM.out.2.size, HM.out.2.trans (hB.mono HM.out.2.size)⟩
          clear hO hB HM hRr
          go_wp2_with fail
          go_ret
          refine ⟨_, rfl, ?_, HZ.out.2⟩
          rw [← HES.out]
          exact HZ.out.1
    | succ i =>
      have hil : i < ls.length := by omega
      have e1 : ((i + 1 : Nat) : Int) - 1 = (i : Int) := by omega
      rw [e1]
      have hii : (0 : Int) ≤ (i : Int) := by omega
      have hli : (i : Int) < (ls.length : Int) := by omega
      obtain ⟨b, off, u, rfl, hlt, hcu, hu⟩ : ∃ b off u, a = some ⟨b, off, none⟩ ∧ b < w.heap.size ∧ w.cell? ⟨b, off + i, none⟩ = some u ∧ Rw w u ls[i] := by
        obtain ⟨a', cap', e, h⟩ := H.out.1
        cases e
        rcases h with h | ⟨b, off, e, hlt, hc⟩
        · rw [h] at hil; simp at hil
        · obtain ⟨u, h1, h2⟩ := hc i hil
          exact ⟨b, off, u, e, hlt, h1, h2⟩
      have m0 := (M.b.cell (p := ⟨b, off + i, none⟩) hlt).trans hcu
      obtain ⟨hl1, hl2⟩ := H.out.2.2 _ (List.getElem_mem hil)
      have hR := rising_any (hu.below M.b (Nat.le_refl _)) (by omega) hl2
      have hmd := merged_drop hil
      have hml := H.out.2.1 (i + 1)
      have hml2 := H.out.2.1 i
      obtain ⟨hr1, hr2⟩ := risen_all ls[i]
      have hrs : Short (risen ls[i]) := fun e he => hl2 e (hr2 e he)
      have HM : Hid (merged (ls.drop i) = putAll (merged (ls.drop (i + 1))) (risen ls[i])) := hmd
      have HMM : Hid _ := M
      have HRS : Hid _ := hrs
      clear hmd hcu hu H hl2 hr2 M hrs
      generalize ls[i] = li at *
      generalize risen li = r at *
      go_wp2_with fail
      refine hR.mono ?_
      rintro e w3 ⟨rv, rfl, hrow, hB3⟩
      obtain ⟨ra, rc, rfl, -⟩ := row_slice hrow
      have hM3 := HMM.out.below hB3
      have hrow' := row_low hrow HMM.out.b.size
      have HX : Hid (Mg w w.heap.size (merged (ls.drop (i + 1))) w3 ∧ w3.ownsRow w.heap.size 33 2 (.slice ra r.length rc) r.length (flat r)) := ⟨hM3, hrow'⟩
      clear hM3 hrow hrow' HMM hR hB3 m0
      generalize merged (ls.drop (i + 1)) = es at *
      go_wp2_with fail
      go_loopw [6] (fun vk wz => ∃ k : Nat, k ≤ r.length ∧ vk = .int .i64 k ∧ Mg w w.heap.size (putAll es (r.take k)) wz ∧ wz.ownsRow w.heap.size 33 2 (.slice ra r.length rc) r.length (flat r)) (fun vk _ => r.length - (intOf vk).toNat)
      case atStart => exact ⟨0, Nat.zero_le _, rfl, HX.out.1, HX.out.2⟩
      case round =>
        obtain ⟨k, hk, rfl, Mk, hrk⟩ := hrel
        by_cases hkl : k < r.length
        · have hki : (k : Int) < (r.length : Int) := by omega
          obtain ⟨g, hg⟩ : ∃ g, ra = some ⟨g, 0, none⟩ := by
            rcases hrk.2 with ⟨e, h0⟩ | ⟨g, cap', cur, e, -⟩
            · omega
            · cases e; exact ⟨g, rfl⟩
          subst hg
          have m0 := row_cell hrk (flat_key r k hkl)
          have m1 := row_cell hrk (flat_val r k hkl)
          obtain ⟨kv, vv, hRf⟩ := Mk.rf
          have hpl := putAll_len es (r.take k)
          have hpl2 : (putAll es (r.take k)).length + 1 ≤ 2097153 := by rw [List.length_take] at hpl; omega
          have hP := rPut_row (w := wr.drew) (k := k) (rv := .slice (some ⟨g, 0, none⟩) r.length rc) ⟨hRf.hd, hRf.al, hRf.kv⟩ Mk.rise Mk.sh hrk hkl (HRS.out _ (List.getElem_mem hkl)) (by omega) Mk.b.size
          have hpt := putAll_take (es := es) hkl
          rw [← hpt] at hP
          have HQ : Hid (∀ w', Ch (fun b => b = w.heap.size) wr.drew w' → (∃ kv' vv', Rf w' w.heap.size w.heap.size (putAll es (r.take (k + 1))) kv' vv') → Mg w w.heap.size (putAll es (r.take (k + 1))) w') := fun w' hC hR => ⟨hR, Mk.b.drew.trans (hC.below Mk.b.size (fun b hb e => by omega)), by rw [hpt]; exact put_rise Mk.rise _ _, by rw [hpt]; exact put_short Mk.sh _ _ (HRS.out _ (List.getElem_mem hkl)), Nat.le_refl _⟩
          clear hpt hRf Mk hrk hpl HX
          go_wp2_with fail
          go_region_held3 (fun w' => w'.cell? ⟨g, k * 2, none⟩ = some (.string r[k].1) ∧ w'.cell? ⟨g, k * 2 + 1, none⟩ = some (.int .i64 r[k].2)) (go_keep) (first
            | (go_at_call 24; refine hP.mono ?_; rintro e w7 ⟨rfl, hR7, hrow7, hC7⟩; have r0 := row_cell hrow7 (flat_key r k hkl); have r1 := row_cell hrow7 (flat_val r k hkl)))
          all_goals
            go_wp2
            go_roundw
            case rel => exact ⟨k + 1, by omega, by simp, HQ.out _ hC7 hR7, hrow7⟩
            case measure => simp [intOf]; omega
        · have hki : ¬ (k : Int) < (r.length : Int) := by omega
          have hkt : r.take k = r := List.take_of_length_le (by omega)
          rw [hkt, ← HM.out] at Mk
          have HZ : Hid _ := Mk
          clear Mk hrk HX HM
          have hw1 : IntKind.i64.wrap ((i : Int) - 1) = (i : Int) - 1 := by rw [IntKind.wrap_i64]; omega
          go_wp2_with fail
          go_roundw
          case rel => exact ⟨i, by omega, rfl, HZ.out⟩
          case measure => simp [intOf]
end Go.Proofs.Ytlhijbgdccejbaa

/-
  The document's answer for merge: what is left of a range whose keys don't rise.
-/
import Derived.Test.YtlhijbgdccejbaaRFlat
namespace Go.Proofs.Ytlhijbgdccejbaa
open Go.RowKit Go.Shelf Go.Sort
open Go.Lib hiding intOf

/-- v is a slice of these rows, two cells each -/
def Rw (w : World) (v : Value) (l : List Ent) : Prop :=
  ∃ a cap, v = .slice a l.length cap ∧ (l = [] ∨ ∃ b off, a = some ⟨b, off, none⟩ ∧ b < w.heap.size ∧ ∀ (j : Nat) (h : j < l.length), w.cell? ⟨b, off + j * 2, none⟩ = some (.string l[j].1) ∧ w.cell? ⟨b, off + j * 2 + 1, none⟩ = some (.int .i64 l[j].2))
theorem Rw.below {w w' : World} {v : Value} {l : List Ent} {B : Nat} (h : Rw w v l) (hb : Below B w w') (hB : w.heap.size ≤ B) : Rw w' v l := by
  obtain ⟨a, cap, rfl, h⟩ := h
  refine ⟨a, cap, rfl, h.imp id ?_⟩
  rintro ⟨b, off, rfl, hlt, hc⟩
  exact ⟨b, off, rfl, Nat.lt_of_lt_of_le hlt hb.size, fun j hj => ⟨(hb.cell (p := ⟨b, off + j * 2, none⟩) (Nat.lt_of_lt_of_le hlt hB)).trans (hc j hj).1, (hb.cell (p := ⟨b, off + j * 2 + 1, none⟩) (Nat.lt_of_lt_of_le hlt hB)).trans (hc j hj).2⟩⟩
/-- above each one ahead -/
def above (out : List Ent) (x : Ent) : Bool := out.all (fun e => lt e.1 x.1)
/-- those that are above each one ahead of them -/
def risen (l : List Ent) : List Ent := l.foldl (fun out x => if above out x then out ++ [x] else out) []
theorem risen_snoc (l : List Ent) (x : Ent) : risen (l ++ [x]) = if above (risen l) x then risen l ++ [x] else risen l := by rw [risen, List.foldl_append]; rfl
theorem above_snoc (out : List Ent) (e x : Ent) : above (out ++ [e]) x = (above out x && lt e.1 x.1) := by simp [above]
theorem risen_take {l : List Ent} {i : Nat} (h : i < l.length) : risen (l.take (i + 1)) = if above (risen (l.take i)) l[i] then risen (l.take i) ++ [l[i]] else risen (l.take i) := by
  rw [List.take_succ_eq_append_getElem h, risen_snoc]
theorem above_take {l : List Ent} {i : Nat} (x : Ent) (h : i < l.length) : above (l.take (i + 1)) x = (above (l.take i) x && lt l[i].1 x.1) := by
  rw [List.take_succ_eq_append_getElem h, above_snoc]
theorem risen_len (l : List Ent) : ∀ i, (risen (l.take i)).length ≤ i
  | 0 => by simp [risen]
  | i + 1 => by
    by_cases h : i < l.length
    · rw [risen_take h]
      have := risen_len l i
      split <;> simp <;> omega
    · have := risen_len l i
      rw [List.take_of_length_le (by omega)] at this ⊢
      omega
theorem risen_sub (l : List Ent) : ∀ i, ∀ e ∈ risen (l.take i), e ∈ l
  | 0 => by simp [risen]
  | i + 1 => by
    by_cases h : i < l.length
    · rw [risen_take h]
      intro e he
      split at he
      · rcases List.mem_append.1 he with h1 | h1
        · exact risen_sub l i e h1
        · simp at h1; rw [h1]; exact List.getElem_mem h
      · exact risen_sub l i e he
    · have := risen_sub l i
      rw [List.take_of_length_le (by omega)] at this ⊢
      exact this

theorem infoRow : (Try.prog.info? 33).map (fun i => (i.zero, i.size, i.bytes)) = some (some (.agg #[.string ⟨#[]⟩, .int .i64 0]), 2, 24) := by kernel_rfl

set_option maxHeartbeats 4000000 in
set_option maxRecDepth 100000 in
theorem rising_any {w : World} {v : Value} {l : List Ent} (h : Rw w v l) (hn : l.length * 24 ≤ 140737488355328) (hs : Short l) :
    Calls Try.prog 23 #[v] w fun e w' => ∃ v', e = .returned v' ∧ w'.ownsRow w.heap.size 33 2 v' (risen l).length (flat (risen l)) ∧ Below w.heap.size w w' := by
  obtain ⟨i0, hi0, hz0, hz1, hz2⟩ := info_parts infoRow
  have H : Hid (Rw w v l ∧ Short l) := ⟨h, hs⟩
  obtain ⟨a, cap, rfl, -⟩ := h
  clear hs
  go_enter Try.func23, Try.ntmps23
  go_wp2
  go_loopw [3, 4] (fun vo vi wr => ∃ i : Nat, vi = .int .i64 i ∧ i ≤ l.length ∧ wr.ownsRow w.heap.size 33 2 vo (risen (l.take i)).length (flat (risen (l.take i))) ∧ Below w.heap.size w wr) (fun _ vi _ => l.length - (intOf vi).toNat)
  case atStart => exact ⟨0, rfl, Nat.zero_le _, World.ownsRow_nil _ _ _ _, Below.refl _ _⟩
  case round =>
    obtain ⟨i, rfl, hi, hO, hB⟩ := hrel
    obtain ⟨ao, co, rfl, -⟩ := row_slice hO
    by_cases hl : i < l.length
    · have hli : (i : Int) < (l.length : Int) := by omega
      have hlen := risen_len l i
      have hsub := risen_sub l i
      have hrt := risen_take hl
      have HR : Hid ((risen (l.take (i + 1)) = if above (risen (l.take i)) l[i] then risen (l.take i) ++ [l[i]] else risen (l.take i)) ∧ ∀ e ∈ risen (l.take i), e ∈ l) := ⟨hrt, hsub⟩
      clear hrt hsub
      generalize risen (l.take i) = out at *
      obtain ⟨b, off, rfl, hlt, hc⟩ : ∃ b off, a = some ⟨b, off, none⟩ ∧ b < w.heap.size ∧ ∀ (j : Nat) (h : j < l.length), w.cell? ⟨b, off + j * 2, none⟩ = some (.string l[j].1) ∧ w.cell? ⟨b, off + j * 2 + 1, none⟩ = some (.int .i64 l[j].2) := by
        obtain ⟨a', cap', e, h⟩ := H.out.1
        cases e
        rcases h with h | h
        · rw [h] at hl; simp at hl
        · exact h
      have C : Hid (∀ W, Below w.heap.size w W → W.cell? ⟨b, off + i * 2, none⟩ = some (.string l[i].1) ∧ W.cell? ⟨b, off + i * 2 + 1, none⟩ = some (.int .i64 l[i].2)) := fun W hW => ⟨(hW.cell (p := ⟨b, off + i * 2, none⟩) hlt).trans (hc i hl).1, (hW.cell (p := ⟨b, off + i * 2 + 1, none⟩) hlt).trans (hc i hl).2⟩
      have hsz := H.out.2 _ (List.getElem_mem hl)
      have HSH : Hid (∀ e ∈ out, e.1.size < 4611686018427387904) := fun e he => H.out.2 e (HR.out.2 e he)
      clear hc
      generalize l[i] = x at *
      obtain ⟨y, z⟩ := x
      dsimp only at hsz
      have HO : Hid (wr.ownsRow w.heap.size 33 2 (.slice ao out.length co) out.length (flat out) ∧ Below w.heap.size w wr) := ⟨hO, hB⟩
      clear hO hB H
      obtain ⟨wo, rfl⟩ : ∃ wo, wo = wr := ⟨_, rfl⟩
      go_wp2_with fail
      go_loopw [5, 6] (fun vo vk wz => ∃ k : Nat, vk = .int .i64 k ∧ k ≤ out.length ∧ vo = .bool (above (out.take k) (y, z)) ∧ Below wo.heap.size wo wz) (fun _ vk _ => out.length - (intOf vk).toNat)
      case atStart => exact ⟨0, rfl, Nat.zero_le _, rfl, Below.refl _ _⟩
      case round =>
        obtain ⟨k, rfl, hk, rfl, hBz⟩ := hrel
        by_cases hkl : k < out.length
        · have hki : (k : Int) < (out.length : Int) := by omega
          obtain ⟨g, hg⟩ : ∃ g, ao = some ⟨g, 0, none⟩ := by
            rcases HO.out.1.2 with ⟨e, h0⟩ | ⟨g, cap', cur, e, -⟩
            · omega
            · cases e; exact ⟨g, rfl⟩
          subst hg
          have hgl := (HO.out.1.lt g rfl).2
          have m0 := (hBz.cell (p := ⟨g, k * 2, none⟩) hgl).trans (row_cell HO.out.1 (flat_key out k hkl))
          have hBw : Below w.heap.size w wo := HO.out.2
          have m1 := (C.out _ (hBw.trans (hBz.mono hBw.size))).1
          have hL := Less_any out[k].1 y (HSH.out _ (List.getElem_mem hkl)) hsz
          have HAT : Hid (above (out.take (k + 1)) (y, z) = (above (out.take k) (y, z) && lt out[k].1 y)) := above_take (y, z) hkl
          have HBZ : Hid (Below wo.heap.size wo wr) := hBz
          clear hBz hBw
          generalize out[k].1 = yk at *
          cases hab : above (out.take k) (y, z) with
          | true =>
            go_wp2_with fail
            go_region_held3 (fun w' => w'.cell? ⟨g, k * 2, none⟩ = some (.string yk) ∧ w'.cell? ⟨b, off + i * 2, none⟩ = some (.string y)) (go_keep) (first
              | (go_at_call 18; refine (hL _).mono ?_; rintro e w7 ⟨rfl, B7⟩; have r0 := (B7.cell (p := ⟨g, k * 2, none⟩) (World.block_lt_of_cell? _ _ m0)).trans m0; have r1 := (B7.cell (p := ⟨b, off + i * 2, none⟩) (World.block_lt_of_cell? _ _ m1)).trans m1))
            all_goals
              go_wp2
              go_roundw
              case rel => exact ⟨k + 1, by simp, by omega, by rw [HAT.out, hab]; simp, HBZ.out.drew.trans (B7.mono HBZ.out.size)⟩
              case measure => simp [intOf]; omega
          | false =>
            go_wp2_with fail
            go_region_held3 (fun w' => w'.cell? ⟨g, k * 2, none⟩ = some (.string yk) ∧ w'.cell? ⟨b, off + i * 2, none⟩ = some (.string y)) (go_keep) (first
              | (go_at_call 18; refine (hL _).mono ?_; rintro e w7 ⟨rfl, B7⟩; have r0 := (B7.cell (p := ⟨g, k * 2, none⟩) (World.block_lt_of_cell? _ _ m0)).trans m0; have r1 := (B7.cell (p := ⟨b, off + i * 2, none⟩) (World.block_lt_of_cell? _ _ m1)).trans m1))
            all_goals
              go_wp2
              go_roundw
              case rel => exact ⟨k + 1, by simp, by omega, by rw [HAT.out, hab]; simp, HBZ.out.drew.trans (B7.mono HBZ.out.size)⟩
              case measure => simp [intOf]; omega
        · have hki : ¬ (k : Int) < (out.length : Int) := by omega
          have hke : out.take k = out := List.take_of_length_le (by omega)
          rw [hke]
          have hBw : Below w.heap.size w wr := HO.out.2.trans (hBz.mono HO.out.2.size)
          have hOz : wr.ownsRow w.heap.size 33 2 (.slice ao out.length co) out.length (flat out) := (show Ch (fun _ => False) wo wr from Ch.of_below hBz).row HO.out.1 (fun _ _ => id)
          obtain ⟨m0, m1⟩ := C.out _ hBw
          have HZ : Hid (wr.ownsRow w.heap.size 33 2 (.slice ao out.length co) out.length (flat out) ∧ Below w.heap.size w wr) := ⟨hOz, hBw⟩
          clear hOz hBw hke hBz HO
          cases hab : above out (y, z) with
          | true =>
            go_wp2_with (at_builtin; refine wpList_append_own _ rfl _ _ 30 rfl w.heap.size 33 i0 _ 2 24 Try.underlying30 hi0 hz0 hz1 hz2 rfl (by decide) _ out.length (flat out) rfl (HZ.out.1.alloc _) ⟨wr.heap.size, 0, none⟩ 1 1 [.string y, .int .i64 z] rfl rfl (fun j u hj => by rw [Addr.add_lit]; exact two_cells (heap_alloc_new wr _) j u hj) (by simp [Value.oneCell']) (by unfold maxLen; omega) (by omega) (by have := HZ.out.2.size; simp; omega) ?_; intro v5 w5 ho5 hg5 _)
            go_roundw
            case rel =>
              refine ⟨i + 1, by simp, by omega, ?_, (HZ.out.2.alloc HZ.out.2.size _).grown hg5 (by have := HZ.out.2.size; simp; omega) (fun k hk => (HZ.out.1.lt k hk).1)⟩
              rw [HR.out.1, hab, if_pos rfl]
              have e1 : flat (out ++ [(y, z)]) = flat out ++ [.string y, .int .i64 z] := by rw [flat_append]; rfl
              rw [e1, List.length_append]
              exact ho5
            case measure => simp [intOf]; omega
          | false =>
            go_wp2_with fail
            go_roundw
            case rel =>
              refine ⟨i + 1, by simp, by omega, ?_, HZ.out.2⟩
              rw [HR.out.1, hab]
              simpa using HZ.out.1
            case measure => simp [intOf]; omega
    · have hli : ¬ (i : Int) < (l.length : Int) := by omega
      have hle : l.take i = l := List.take_of_length_le (by omega)
      rw [hle] at hO ⊢
      have HZ : Hid (wr.ownsRow w.heap.size 33 2 (.slice ao (risen l).length co) (risen l).length (flat (risen l)) ∧ Below w.heap.size w wr) := ⟨hO, hB⟩
      clear hO hB H hle
      go_wp2_with fail
      go_ret
      exact ⟨_, rfl, HZ.out.1, HZ.out.2⟩
end Go.Proofs.Ytlhijbgdccejbaa

/-
  What a range over a log tells, segment by segment; leaving with the marks of several ranges; a log without its disk, kept.
-/
import Derived.Test.YteifkkceldlfnaaGreatDoorG6From
import Derived.Test.YteifkkceldlfnaaGreatDoorYSeq
namespace Go.Proofs.YteifkkceldlfnaaGreatDoor
open Go.RowKit Go.Shelf Go.Sort
open Go.Lib hiding intOf
variable {w w' : World} {B lb d : Nat} {lg : Lg} {vs : List Sv} {sl : Value}

theorem Lq.kq {X : Nat → Prop} (h : Lq w B lb d lg vs sl) (hk : Kq X w w') (hX : ∀ x, lfoot lb sl vs x → X x) : Lq w' B lb d lg vs sl :=
  ⟨⟨hk.2 _ _ (hX _ (.inl rfl)) h.lw.hd rfl, kq_row hk h.lw.row (fun k e => hX k (.inr (.inl e))), fun v hv => (h.lw.sw v hv).kq hk (fun x hx => hX x (.inr (.inr ⟨v, hv, hx⟩))), h.lw.apart, h.lw.segs, h.lw.low⟩, h.ok⟩
/-- leaving with marks of ranges -/
theorem marks_leave {fn : Func} {tmps : Array Value} {R : Ending → World → Prop} {n B : Nat} (G : World → Prop) (hput : ∀ W D, G W → W.heap[D]? = some (.deferred (some [])) → B ≤ D → G (W.putObj D (.deferred none)))
    (hfin : ∀ W, G W → LeavesIn Fence.wide n Tryz.prog fn tmps R [] .returning W) : ∀ (ds : List Nat) (W : World), ds.Nodup → (∀ D ∈ ds, B ≤ D ∧ W.heap[D]? = some (.deferred (some []))) → G W →
    LeavesInM Fence.wide n Tryz.prog fn tmps R (ds.map fun D => { target := .collected D, args := #[] }) .returning W
  | [], W, _, _, h => hfin W h
  | D :: ds, W, hn, hm, h => by
    obtain ⟨h1, h2⟩ := hm D (List.mem_cons_self ..)
    refine ⟨by simp, .inl ⟨D, _, rfl, takes h2, ?_⟩⟩
    refine marks_leave G hput hfin ds _ (List.nodup_cons.1 hn).2 (fun D' hD' => ?_) (hput W D h h2 h1)
    obtain ⟨h3, h4⟩ := hm D' (List.mem_cons_of_mem _ hD')
    exact ⟨h3, (World.putObj_heap_other (fun e => (List.nodup_cons.1 hn).1 (by first | (rw [e]; exact hD') | (rw [← e]; exact hD')))).trans h4⟩
/-- the blocks of a range over a log -/
def Xf (b2 b3 lb : Nat) (sl : Value) (vs : List Sv) (k : Nat) : Prop := k = b2 ∨ k = b3 ∨ lfoot lb sl vs k
theorem segE_low {s : Sg} {pos : Nat} (h : pos ≤ s.first) : segE s pos = ent s.first s.recs := by
  unfold segE
  rw [show max pos s.first = s.first by omega, show pos - s.first = 0 by omega, List.drop_zero]
theorem Cn.told : ∀ {segs : List Sg} {n pos : Nat}, Cn segs n → (∀ s r, segs = s :: r → pos ≤ s.first) → (segs.map fun s => segE s pos).flatten = match segs with | [] => [] | s :: _ => ent s.first (recsOf segs)
  | [], _, _, _, _ => rfl
  | [s], _, pos, _, hp => by
    simp only [List.map_cons, List.map_nil, List.flatten_cons, List.flatten_nil, List.append_nil, segE_low (hp s [] rfl), recsOf, List.flatMap_cons, List.flatMap_nil]
  | s :: t :: r, n, pos, h, hp => by
    have h1 := hp s _ rfl
    have h2 := h.1
    have h3 : pos ≤ t.first := by unfold Sg.next at h2; omega
    have h4 := Cn.told (pos := pos) h.2.2 (fun x q e => by cases e; exact h3)
    rw [List.map_cons, List.flatten_cons, h4, segE_low h1]
    simp only [recsOf, List.flatMap_cons (x := s)]
    rw [ent_append]
    unfold Sg.next at h2
    rw [h2]
theorem Cn.from : ∀ {segs : List Sg} {n pos : Nat}, Cn segs n → ((segs.drop (idx segs pos)).map fun s => segE s pos).flatten = match segs with | [] => [] | s :: _ => ent (max pos s.first) ((recsOf segs).drop (pos - s.first))
  | [], _, _, _ => rfl
  | s :: r, n, pos, h => by
    by_cases h1 : s.next ≤ pos
    · have e1 : idx (s :: r) pos = idx r pos + 1 := by
        unfold idx
        rw [List.countP_cons_of_pos (by simpa using h1)]
      have ih := Cn.from (pos := pos) h.tail
      rw [e1, List.drop_succ_cons, ih]
      unfold Sg.next at h1
      cases r with
      | nil =>
        simp only [recsOf, List.flatMap_cons, List.flatMap_nil, List.append_nil]
        rw [List.drop_of_length_le (by omega)]
        rfl
      | cons t r =>
        have h2 := h.1
        unfold Sg.next at h2
        simp only [recsOf, List.flatMap_cons (x := s)]
        rw [List.drop_append, List.drop_of_length_le (l := s.recs) (by omega), List.nil_append, show pos - s.first - s.recs.length = pos - t.first by omega, show max pos s.first = max pos t.first by omega]
    · have e1 : idx (s :: r) pos = 0 := idx_zero (fun y hy => by have := (h.first_le s r rfl y hy).2; omega)
      rw [e1, List.drop_zero, List.map_cons, List.flatten_cons]
      unfold Sg.next at h1
      have h3 : (r.map fun s => segE s pos).flatten = ent (s.first + s.recs.length) (recsOf r) := by
        cases r with
        | nil => rfl
        | cons t r =>
          have h2 := h.1
          unfold Sg.next at h2
          rw [Cn.told h.2.2 (fun x q e => by cases e; omega), h2]
      rw [h3]
      simp only [recsOf, List.flatMap_cons (x := s)]
      rw [List.drop_append, show pos - s.first - s.recs.length = 0 by omega, List.drop_zero, ent_append]
      unfold segE
      congr 2
      simp
      omega
theorem gFrom_segs {lg : Lg} (h : Ok lg) (pos : Nat) : gFrom lg pos = ((lg.segs.drop (idx lg.segs pos)).map fun s => segE s pos).flatten := by
  rw [Cn.from h.cn]
  unfold gFrom gFirst
  cases lg.segs with
  | nil => simp [recsOf, ent]
  | cons s r => rfl
theorem segE_lt {s : Sg} {pos : Nat} {x : Nat × List UInt8} (h : x ∈ segE s pos) : x.1 < s.next := by
  obtain ⟨k, hk, rfl⟩ := List.getElem_of_mem h
  rw [segE_get hk]
  have := segE_length s pos
  unfold Sg.next
  simp only
  omega
end Go.Proofs.YteifkkceldlfnaaGreatDoor

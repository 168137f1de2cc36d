/-
  Records that are folded one by one: what a loop over them has in memory.
-/
import Derived.Test.YtgklemopmiabcaaGreatF13Grw
import Derived.Test.YtgklemopmiabcaaGreatGShn
namespace Go.Proofs.YtgklemopmiabcaaGreat.f13
open Go.RowKit Go.Shelf Go.Sort
open Go.Lib hiding intOf

def fl (a : St) (off : Nat) (l : List Rc) : Nat → St
  | 0 => a
  | i + 1 => match l[i]? with
    | some r => apl (fl a off l i) (i + off) r
    | none => fl a off l i
theorem fl_step {a : St} {off : Nat} {l : List Rc} {i : Nat} (hi : i < l.length) : fl a off l (i + 1) = apl (fl a off l i) (i + off) l[i] := by
  conv => lhs; unfold fl
  rw [List.getElem?_eq_getElem hi]
theorem fl_sn {a : St} {off : Nat} {l : List Rc} (h : Sn l.length a) (hv : ∀ x ∈ l, x.v.length * 48 ≤ 211106232528000) : ∀ i, i ≤ l.length → Sn (l.length - i) (fl a off l i)
  | 0, _ => h
  | i + 1, hi => by
    rw [fl_step (by omega)]
    have := fl_sn (off := off) h hv i (by omega)
    rw [show l.length - i = l.length - (i + 1) + 1 by omega] at this
    exact this.apl (hv _ (List.getElem_mem _))
theorem fl_kr {a : St} {off : Nat} {l : List Rc} (h : Kr a) (ho : ∀ x ∈ l, x.ok) : ∀ i, i ≤ l.length → Kr (fl a off l i)
  | 0, _ => h
  | i + 1, hi => by
    rw [fl_step (by omega)]
    exact (fl_kr (off := off) h ho i (by omega)).apl (ho _ (List.getElem_mem _))
theorem kr_s0 : Kr s0 := by refine ⟨?_, ?_, ?_, ?_⟩ <;> intro x hx <;> exact absurd hx List.not_mem_nil
theorem sn_s0 {n : Nat} (h : n * 144 ≤ 140737488351232) : Sn n s0 := by
  refine ⟨?_, ?_, ?_, ?_, ?_, ?_, ?_, ?_, ?_, ?_, ?_, ?_, ?_⟩
  all_goals first | (intro x hx; exact absurd hx List.not_mem_nil) | (simp only [s0, List.length_nil]; omega)
def Bc (w : World) (sb : Nat) (t : St) : Prop := w.heap[sb]? = some (.cells t.c.toArray 33 (0, 0))
theorem Bc.cells {w : World} {sb : Nat} {t : St} (h : Bc w sb t) : (∀ (j : Nat) (u : Value), t.c[j]? = some u → w.cell? ⟨sb, j, none⟩ = some u) ∧ ∀ j : Nat, w.frozen? ⟨sb, j, none⟩ = false := by
  unfold Bc at h
  exact ⟨fun j u hj => by simp [World.cell?, h, hj], fun j => by simp [World.frozen?, h]⟩
theorem Bc.lt {w : World} {sb : Nat} {t : St} (h : Bc w sb t) : sb < w.heap.size := (Array.getElem?_eq_some_iff.1 h).1
theorem Bc.up {w w' : World} {sb : Nat} {t : St} (h : Bc w sb t) (hb : Below w.heap.size w w') : Bc w' sb t := (hb.block _ h.lt).trans h
theorem Bc.lay {w w2 : World} {sb : Nat} {t t2 : St} (h : Bc w sb t) (ho : Own w.heap.size w2 t2.rows) (hb : Below w.heap.size w w2) : Bc (set12 w2 sb (.int .u64 (t2.pos : Int)) (.int .u64 (t2.done : Int)) (.int .u64 (t2.made : Int)) t2.vDe t2.vIn t2.vTk t2.vJb t2.vTm t2.vSb t2.vKp t2.vLs t2.vMs) sb t2 ∧ Sv (set12 w2 sb (.int .u64 (t2.pos : Int)) (.int .u64 (t2.done : Int)) (.int .u64 (t2.made : Int)) t2.vDe t2.vIn t2.vTk t2.vJb t2.vTm t2.vSb t2.vKp t2.vLs t2.vMs) t2 ∧ Ch (fun g => g = sb) w (set12 w2 sb (.int .u64 (t2.pos : Int)) (.int .u64 (t2.done : Int)) (.int .u64 (t2.made : Int)) t2.vDe t2.vIn t2.vTk t2.vJb t2.vTm t2.vSb t2.vKp t2.vLs t2.vMs) := by
  have h2 := h.up hb
  refine ⟨?_, Own.sv (Own.of12 ho h.lt), (Ch.of_below hb).trans (set12_ch w2 sb _ _ _ _ _ _ _ _ _ _ _ _)⟩
  unfold Bc at h2 ⊢
  exact set12_obj _ _ _ _ _ _ _ _ _ _ _ _ h2
theorem St.cut {w : World} {s : St} (h : Sv w s) : (∃ a n c, s.vDe = .slice a n c) ∧ (∃ a n c, s.vIn = .slice a n c) ∧ (∃ a n c, s.vTk = .slice a n c) ∧ (∃ a n c, s.vJb = .slice a n c) ∧ (∃ a n c, s.vTm = .slice a n c) ∧ (∃ a n c, s.vSb = .slice a n c) ∧ (∃ a n c, s.vKp = .slice a n c) ∧ (∃ a n c, s.vLs = .slice a n c) ∧ (∃ a n c, s.vMs = .slice a n c) := by
  refine ⟨?_, ?_, ?_, ?_, ?_, ?_, ?_, ?_, ?_⟩
  · obtain ⟨a, c, e, -⟩ := h.rDe; exact ⟨a, _, c, e⟩
  · obtain ⟨a, c, e, -⟩ := h.rIn; exact ⟨a, _, c, e⟩
  · obtain ⟨a, c, e, -⟩ := h.rTk; exact ⟨a, _, c, e⟩
  · obtain ⟨a, c, e, -⟩ := h.rJb; exact ⟨a, _, c, e⟩
  · obtain ⟨a, c, e, -⟩ := h.rTm; exact ⟨a, _, c, e⟩
  · obtain ⟨a, c, e, -⟩ := h.rSb; exact ⟨a, _, c, e⟩
  · obtain ⟨a, c, e, -⟩ := h.rKp; exact ⟨a, _, c, e⟩
  · obtain ⟨a, c, e, -⟩ := h.rLs; exact ⟨a, _, c, e⟩
  · obtain ⟨a, c, e, -⟩ := h.rMs; exact ⟨a, _, c, e⟩

structure Lp (w W1 : World) (sb : Nat) (v : Value) (l : List Rc) (a : St) (off i : Nat) (wr : World) (t : St) : Prop where
  box : Bc wr sb t
  sv : Sv wr t
  is : t.e = fl a off l i
  ch : Ch (fun g => g = sb) W1 wr
  bel : Below w.heap.size w wr
theorem Lp.call {w W1 wr : World} {sb off i : Nat} {v : Value} {l : List Rc} {a t : St} (h : Lp w W1 sb v l a off i wr t) (hi : i < l.length) (hn : Sn l.length a) (hk : Kr a) (hr : ∀ x ∈ l, Rr 4 Vr.c w x.vv x.v ∧ x.ok) (hv : ∀ x ∈ l, x.v.length * 48 ≤ 211106232528000) (W : World) (hW : Below wr.heap.size wr W) : Calls Tryz.prog 11 #[.agg t.c.toArray, .int .u64 ((i + off : Nat) : Int), .agg l[i].cs.toArray] W (Apd W (fl a off l (i + 1))) := by
  have h1 := fl_sn (off := off) hn hv i (by omega)
  rw [show l.length - i = l.length - (i + 1) + 1 by omega] at h1
  have h2 := fl_kr (off := off) hk (fun x hx => (hr x hx).2) i (by omega)
  rw [← h.is] at h1 h2
  have hm := List.getElem_mem hi
  have := Apply_any (ps := i + off) (r := l[i]) (h.sv.up hW) h1.sy.of_e h2.of_e (((hr _ hm).1.up h.bel).up (bel_of (Below.refl _ _) hW (Nat.le_refl _))) (hv _ hm) (hr _ hm).2
  rw [h.is, ← fl_step hi] at this
  exact this
theorem Lp.next {w W1 wr w2 : World} {sb off i : Nat} {v : Value} {l : List Rc} {a t t2 : St} (h : Lp w W1 sb v l a off i wr t) (hsb : w.heap.size ≤ sb) (ho : Own wr.heap.size w2 t2.rows) (he : t2.e = fl a off l (i + 1)) (hb : Below wr.heap.size wr w2) : Lp w W1 sb v l a off (i + 1) (set12 w2 sb (.int .u64 (t2.pos : Int)) (.int .u64 (t2.done : Int)) (.int .u64 (t2.made : Int)) t2.vDe t2.vIn t2.vTk t2.vJb t2.vTm t2.vSb t2.vKp t2.vLs t2.vMs) t2 := by
  obtain ⟨h1, h2, h3⟩ := h.box.lay ho hb
  exact ⟨h1, h2, he, h.ch.trans h3, h.bel.trans (h3.below h.bel.size (fun g hg e => by omega))⟩
theorem rc_cells {w : World} {v : Value} {l : List Rc} (h : Rr 13 Rc.cs w v l) {i : Nat} (hi : i < l.length) : ∃ b off cap, v = .slice (some ⟨b, off, none⟩) l.length cap ∧ b < w.heap.size ∧ ∀ W, Below w.heap.size w W → W.cell? ⟨b, off + i * 13 + 0, none⟩ = some (.int .i64 l[i].cl) ∧ W.cell? ⟨b, off + i * 13 + 1, none⟩ = some (.int .i64 l[i].kd) ∧ W.cell? ⟨b, off + i * 13 + 2, none⟩ = some (.int .u64 (l[i].fr : Int)) ∧ W.cell? ⟨b, off + i * 13 + 3, none⟩ = some (.int .i64 l[i].tm) ∧ W.cell? ⟨b, off + i * 13 + 4, none⟩ = some (.int .u64 (l[i].k1 : Int)) ∧ W.cell? ⟨b, off + i * 13 + 5, none⟩ = some (.int .u64 (l[i].k2 : Int)) ∧ W.cell? ⟨b, off + i * 13 + 6, none⟩ = some (.int .u64 (l[i].k3 : Int)) ∧ W.cell? ⟨b, off + i * 13 + 7, none⟩ = some (.int .i64 l[i].n) ∧ W.cell? ⟨b, off + i * 13 + 8, none⟩ = some (.int .i64 l[i].m) ∧ W.cell? ⟨b, off + i * 13 + 9, none⟩ = some (.string (S l[i].a)) ∧ W.cell? ⟨b, off + i * 13 + 10, none⟩ = some (.string (S l[i].b)) ∧ W.cell? ⟨b, off + i * 13 + 11, none⟩ = some (.string (S l[i].c)) ∧ W.cell? ⟨b, off + i * 13 + 12, none⟩ = some (l[i].vv) := by
  obtain ⟨b, off, cap, hv, -, hb, hc⟩ := h.at hi
  exact ⟨b, off, cap, hv, hb, fun W hW => ⟨hc W hW i hi 0 _ rfl, hc W hW i hi 1 _ rfl, hc W hW i hi 2 _ rfl, hc W hW i hi 3 _ rfl, hc W hW i hi 4 _ rfl, hc W hW i hi 5 _ rfl, hc W hW i hi 6 _ rfl, hc W hW i hi 7 _ rfl, hc W hW i hi 8 _ rfl, hc W hW i hi 9 _ rfl, hc W hW i hi 10 _ rfl, hc W hW i hi 11 _ rfl, hc W hW i hi 12 _ rfl⟩⟩
end Go.Proofs.YtgklemopmiabcaaGreat.f13

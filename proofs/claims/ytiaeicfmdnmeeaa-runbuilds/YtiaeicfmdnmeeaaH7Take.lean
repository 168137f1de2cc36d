/-
  Package run: a row that is read (takeCell), and a block's rows (takeCells).
-/
import Derived.Test.YtiaeicfmdnmeeaaH7Chk
import Derived.Test.YtiaeicfmdnmeeaaRefMore
import Derived.Deep.AppendLies
namespace Go.Proofs.Ytiaeicfmdnmeeaa
open Go.RowKit Go.Shelf Go.Sort
open Go.Lib hiding intOf

/-- a row, as a value -/
def chv (x : R7) : Value := .agg #[.string (S x.1), .string (S x.2.1), .bool x.2.2]
/-- rows in memory -/
def hcs (l : List R7) : List Value := l.flatMap (fun x => [.string (S x.1), .string (S x.2.1), .bool x.2.2])
theorem hcs_length (l : List R7) : (hcs l).length = l.length * 3 := by
  induction l with
  | nil => rfl
  | cons x t ih => simp only [hcs, List.flatMap_cons, List.length_append, List.length_cons] at ih ⊢; rw [ih]; simp; omega
theorem hcs_snoc (l : List R7) (x : R7) : hcs (l ++ [x]) = hcs l ++ [.string (S x.1), .string (S x.2.1), .bool x.2.2] := by simp [hcs]
theorem hcs_append (l m : List R7) : hcs (l ++ m) = hcs l ++ hcs m := by simp [hcs]
theorem hcs_get : ∀ {l : List R7} {k : Nat} (h : k < l.length), (hcs l)[k * 3]? = some (.string (S l[k].1)) ∧ (hcs l)[k * 3 + 1]? = some (.string (S l[k].2.1)) ∧ (hcs l)[k * 3 + 2]? = some (.bool l[k].2.2)
  | x :: t, 0, _ => by simp [hcs]
  | x :: t, k + 1, h => by
    have := @hcs_get t k (by simpa using h)
    have e : hcs (x :: t) = .string (S x.1) :: .string (S x.2.1) :: .bool x.2.2 :: hcs t := by simp [hcs]
    rw [e, show (k + 1) * 3 = k * 3 + 3 by omega]
    simpa using this
theorem hcs_one (l : List R7) : ∀ v ∈ hcs l, v.oneCell' = true := by
  intro v hv
  obtain ⟨x, _, hx⟩ := List.mem_flatMap.1 hv
  simp at hx
  rcases hx with rfl | rfl | rfl <;> rfl
theorem infoChange : (Try.prog.info? 76).map (fun i => (i.zero, i.size, i.bytes)) = some (some (.agg #[.string ⟨#[]⟩, .string ⟨#[]⟩, .bool false]), 3, 40) := by kernel_rfl
/-- what the reader's three calls come to -/
theorem row1_rd {l l1 l2 l3 k s : List UInt8} {m e1 e2 e3 : Nat} (h1 : rdT 64 l 0 = (k, l1, e1)) (h2 : rdB l1 e1 = (m, l2, e2)) (h3 : rdT 16384 l2 e2 = (s, l3, e3)) : row1 l = if e3 = 0 ∧ m ≤ 1 then some ((k, s, m == 1), l3) else none := by
  unfold row1
  obtain ⟨a1, a2, a3, ha⟩ : ∃ a1 a2 a3, tex 64 l = (a1, a2, a3) := ⟨_, _, _, rfl⟩
  unfold rdT at h1
  rw [ha] at h1 ⊢
  rw [if_pos rfl] at h1
  by_cases q1 : a3 = 0
  · subst q1
    rw [if_pos rfl] at h1
    simp only [Prod.mk.injEq] at h1
    obtain ⟨rfl, rfl, rfl⟩ := h1
    simp only
    unfold rdB at h2
    rw [if_pos rfl] at h2
    cases a2 with
    | nil =>
      simp only [Prod.mk.injEq] at h2
      obtain ⟨rfl, rfl, rfl⟩ := h2
      unfold rdT at h3
      rw [if_neg (by decide)] at h3
      simp only [Prod.mk.injEq] at h3
      obtain ⟨rfl, rfl, rfl⟩ := h3
      simp
    | cons c t =>
      simp only [Prod.mk.injEq] at h2
      obtain ⟨rfl, rfl, rfl⟩ := h2
      unfold rdT at h3
      rw [if_pos rfl] at h3
      obtain ⟨b1, b2, b3, hb⟩ : ∃ b1 b2 b3, tex 16384 t = (b1, b2, b3) := ⟨_, _, _, rfl⟩
      rw [hb] at h3
      simp only
      rw [hb]
      by_cases q2 : b3 = 0
      · subst q2
        rw [if_pos rfl] at h3
        simp only [Prod.mk.injEq] at h3
        obtain ⟨rfl, rfl, rfl⟩ := h3
        simp only
        by_cases q3 : 1 < c.toNat
        · rw [if_pos q3, if_neg (by omega)]
        · rw [if_neg q3, if_pos ⟨trivial, by omega⟩]
          have : (c == 1) = (c.toNat == 1) := by
            rw [Bool.eq_iff_iff, beq_iff_eq, beq_iff_eq, ← UInt8.toNat_inj]; rfl
          rw [this]
      · rw [if_neg q2] at h3
        simp only [Prod.mk.injEq] at h3
        obtain ⟨rfl, rfl, rfl⟩ := h3
        rw [if_neg (by omega)]
        split
        · rename_i h; simp only [Prod.mk.injEq] at h; omega
        · rfl
  · rw [if_neg q1] at h1
    simp only [Prod.mk.injEq] at h1
    obtain ⟨rfl, rfl, rfl⟩ := h1
    unfold rdB at h2
    rw [if_neg q1] at h2
    simp only [Prod.mk.injEq] at h2
    obtain ⟨rfl, rfl, rfl⟩ := h2
    unfold rdT at h3
    rw [if_neg q1] at h3
    simp only [Prod.mk.injEq] at h3
    obtain ⟨rfl, rfl, rfl⟩ := h3
    rw [if_neg (by omega)]
    split
    · rename_i h; simp only [Prod.mk.injEq] at h; omega
    · rfl
theorem rdT_le {most : Int} {l s l2 : List UInt8} {e e2 : Nat} (h : rdT most l e = (s, l2, e2)) : l2.length ≤ l.length := by
  have := tex_le most l
  unfold rdT at h
  split at h
  · split at h <;> (simp only [Prod.mk.injEq] at h; obtain ⟨_, rfl, _⟩ := h; omega)
  · simp only [Prod.mk.injEq] at h; obtain ⟨_, rfl, _⟩ := h; omega
theorem rdB_le {l l2 : List UInt8} {e e2 v : Nat} (h : rdB l e = (v, l2, e2)) : l2.length ≤ l.length := by
  unfold rdB at h
  split at h
  · split at h <;> (simp only [Prod.mk.injEq] at h; obtain ⟨_, rfl, _⟩ := h; simp)
  · simp only [Prod.mk.injEq] at h; obtain ⟨_, rfl, _⟩ := h; omega

theorem But.setNew {b : Nat} {u w : World} (h : But b u w) {g : Nat} (hg : u.heap.size ≤ g) (o : Nat) (v : Value) : But b u (w.setCell ⟨g, o, none⟩ v) :=
  ⟨h.os, h.tape, h.output, by simpa using h.size, fun k hk hb => (Below.heap_setCell _ _ _ _ (by simp only; omega)).trans (h.block k hk hb)⟩
theorem Rd.setNew {b e : Nat} {l : List UInt8} {w : World} (h : Rd w b l e) {g : Nat} (hg : b ≠ g) (o : Nat) (v : Value) : Rd (w.setCell ⟨g, o, none⟩ v) b l e :=
  h.of_block (Below.heap_setCell _ _ _ _ (by simp only; omega)) (by simp)

set_option maxHeartbeats 2000000 in
set_option maxRecDepth 100000 in
theorem takeCell_any {b : Nat} {l : List UInt8} {w : World} (h : Rd w b l 0) (hl : l.length ≤ 100000) :
    Calls Try.prog 58 #[.pointer (some ⟨b, 0, none⟩)] w fun e w' => But b w w' ∧ match row1 l with
      | some (x, r) => e = .returned (.tuple #[chv x, .bool true]) ∧ Rd w' b r 0
      | none => e = .returned (.tuple #[.agg #[.string ⟨#[]⟩, .string ⟨#[]⟩, .bool false], .bool false]) := by
  obtain ⟨k, l1, e1, h1⟩ : ∃ k l1 e1, rdT 64 l 0 = (k, l1, e1) := ⟨_, _, _, rfl⟩
  obtain ⟨m, l2, e2, h2⟩ : ∃ m l2 e2, rdB l1 e1 = (m, l2, e2) := ⟨_, _, _, rfl⟩
  obtain ⟨s, l3, e3, h3⟩ : ∃ s l3 e3, rdT 16384 l2 e2 = (s, l3, e3) := ⟨_, _, _, rfl⟩
  rw [row1_rd h1 h2 h3]
  have q1 := rdT_le h1
  have q2 := rdB_le h2
  have H1 : Hid (rdT 64 l 0 = (k, l1, e1)) := h1
  have H2 : Hid (rdB l1 e1 = (m, l2, e2)) := h2
  have H3 : Hid (rdT 16384 l2 e2 = (s, l3, e3)) := h3
  clear h1 h2 h3
  obtain ⟨W, hW⟩ : ∃ W, W = w.alloc (.cells #[.string ⟨#[]⟩, .string ⟨#[]⟩, .bool false] 76) := ⟨_, rfl⟩
  have hb := h.lt
  have hR : Rd W b l 0 := by rw [hW]; exact h.alloc _
  have hBt : But b w W := by rw [hW]; exact (But.refl _ _).alloc _
  have hx : W.heap[w.heap.size]? = some (.cells #[.string ⟨#[]⟩, .string ⟨#[]⟩, .bool false] 76) := by rw [hW]; exact heap_alloc_new w _
  have fin : Hid (∀ w1 w2 w3, But b W w1 → But b w1 w2 → But b w2 w3 → But b w w3 ∧ w3.heap[w.heap.size]? = some (.cells #[.string ⟨#[]⟩, .string ⟨#[]⟩, .bool false] 76)) := fun w1 w2 w3 b1 b2 b3 => by
    have hbt := (b1.trans b2).trans b3
    exact ⟨hBt.trans hbt, (hbt.block w.heap.size (Array.getElem?_eq_some_iff.1 hx).1 (by omega)).trans hx⟩
  have l1 := q1
  by_cases he : e3 = 0
  · subst he
    by_cases hm : m ≤ 1
    · rw [if_pos ⟨rfl, hm⟩]
      simp only
      have hm' : ¬ (1 : Int) < (m : Int) := by omega
      have hmm : ((m : Int) == 1) = (m == 1) := by rw [Bool.eq_iff_iff]; simp; omega
      go_enter Try.func58, Try.ntmps58
      go_wp2_with (first
        | (go_at_call_of 67 (Value.int .i64 64); rw [← hW]; refine (Text_all hR (by omega) (by omega) H1).mono ?_; rintro e w1 ⟨rfl, r1, b1⟩; clear hW)
        | (go_at_call 66; refine (Byte_all r1 H2).mono ?_; rintro e w2 ⟨rfl, r2, b2⟩)
        | (go_at_call 67; refine (Text_all r2 (by omega) (by omega) H3).mono ?_; rintro e w3 ⟨rfl, r3, b3⟩; obtain ⟨hbt, hx3⟩ := fin.out w1 w2 w3 b1 b2 b3; (have y0 : w3.cell? ⟨w.heap.size, 0, none⟩ = some (.string ⟨#[]⟩) := (by simp [World.cell?, hx3])); (have y1 : w3.cell? ⟨w.heap.size, 1, none⟩ = some (.string ⟨#[]⟩) := (by simp [World.cell?, hx3])); (have y2 : w3.cell? ⟨w.heap.size, 2, none⟩ = some (.bool false) := (by simp [World.cell?, hx3])); (have y3 : ∀ j, w3.frozen? ⟨w.heap.size, j, none⟩ = false := (fun j => by simp [World.frozen?, hx3])); have HBT : Hid (But b w w3) := hbt; have HR3 : Hid (Rd w3 b l3 0) := r3; clear hbt b1 b2 b3 r2 hx3)
        | (go_at_call 68; refine (Err_any r3).mono ?_; rintro e w4 ⟨rfl, rfl⟩))
      exact bodyPost_ret (v := .tuple #[chv (k, s, m == 1), .bool true]) (by simp [results, Try.results58, go_sem, y0, y1, y2, chv]) rfl ⟨((HBT.out.setNew (Nat.le_refl _) _ _).setNew (Nat.le_refl _) _ _).setNew (Nat.le_refl _) _ _, rfl, ((HR3.out.setNew (by omega) _ _).setNew (by omega) _ _).setNew (by omega) _ _⟩
    · rw [if_neg (by omega)]
      simp only
      have hm' : (1 : Int) < (m : Int) := by omega
      go_enter Try.func58, Try.ntmps58
      go_wp2_with (first
        | (go_at_call_of 67 (Value.int .i64 64); rw [← hW]; refine (Text_all hR (by omega) (by omega) H1).mono ?_; rintro e w1 ⟨rfl, r1, b1⟩; clear hW)
        | (go_at_call 66; refine (Byte_all r1 H2).mono ?_; rintro e w2 ⟨rfl, r2, b2⟩)
        | (go_at_call 67; refine (Text_all r2 (by omega) (by omega) H3).mono ?_; rintro e w3 ⟨rfl, r3, b3⟩; obtain ⟨hbt, hx3⟩ := fin.out w1 w2 w3 b1 b2 b3; (have y0 : w3.cell? ⟨w.heap.size, 0, none⟩ = some (.string ⟨#[]⟩) := (by simp [World.cell?, hx3])); (have y1 : w3.cell? ⟨w.heap.size, 1, none⟩ = some (.string ⟨#[]⟩) := (by simp [World.cell?, hx3])); (have y2 : w3.cell? ⟨w.heap.size, 2, none⟩ = some (.bool false) := (by simp [World.cell?, hx3])); (have y3 : ∀ j, w3.frozen? ⟨w.heap.size, j, none⟩ = false := (fun j => by simp [World.frozen?, hx3])); have HBT : Hid (But b w w3) := hbt; have HR3 : Hid (Rd w3 b l3 0) := r3; clear hbt b1 b2 b3 r2 hx3)
        | (go_at_call 68; refine (Err_any r3).mono ?_; rintro e w4 ⟨rfl, rfl⟩))
      exact bodyPost_ret (v := .tuple #[.agg #[.string ⟨#[]⟩, .string ⟨#[]⟩, .bool false], .bool false]) (by simp [results, Try.results58, go_sem, y0, y1, y2]) rfl ⟨((HBT.out.setNew (Nat.le_refl _) _ _).setNew (Nat.le_refl _) _ _).setNew (Nat.le_refl _) _ _, rfl⟩
  · have hne : ((e3 : Int) != 0) = true := by rw [bne_iff_ne]; omega
    rw [if_neg (by omega)]
    simp only
    clear he
    go_enter Try.func58, Try.ntmps58
    go_wp2_with (first
      | (go_at_call_of 67 (Value.int .i64 64); rw [← hW]; refine (Text_all hR (by omega) (by omega) H1).mono ?_; rintro e w1 ⟨rfl, r1, b1⟩; clear hW)
      | (go_at_call 66; refine (Byte_all r1 H2).mono ?_; rintro e w2 ⟨rfl, r2, b2⟩)
      | (go_at_call 67; refine (Text_all r2 (by omega) (by omega) H3).mono ?_; rintro e w3 ⟨rfl, r3, b3⟩; obtain ⟨hbt, hx3⟩ := fin.out w1 w2 w3 b1 b2 b3; (have y0 : w3.cell? ⟨w.heap.size, 0, none⟩ = some (.string ⟨#[]⟩) := (by simp [World.cell?, hx3])); (have y1 : w3.cell? ⟨w.heap.size, 1, none⟩ = some (.string ⟨#[]⟩) := (by simp [World.cell?, hx3])); (have y2 : w3.cell? ⟨w.heap.size, 2, none⟩ = some (.bool false) := (by simp [World.cell?, hx3])); (have y3 : ∀ j, w3.frozen? ⟨w.heap.size, j, none⟩ = false := (fun j => by simp [World.frozen?, hx3])); have HBT : Hid (But b w w3) := hbt; have HR3 : Hid (Rd w3 b l3 e3) := r3; clear hbt b1 b2 b3 r2 hx3)
      | (go_at_call 68; refine (Err_any r3).mono ?_; rintro e w4 ⟨rfl, rfl⟩))
    exact bodyPost_ret (v := .tuple #[.agg #[.string ⟨#[]⟩, .string ⟨#[]⟩, .bool false], .bool false]) (by simp [results, Try.results58, go_sem, y0, y1, y2]) rfl ⟨((HBT.out.setNew (Nat.le_refl _) _ _).setNew (Nat.le_refl _) _ _).setNew (Nat.le_refl _) _ _, rfl⟩

end Go.Proofs.Ytiaeicfmdnmeeaa

/-
  Package seglog's takeBatch: what a frame tells of a batch.
-/
import Derived.Test.YteifkkceldlfnaaGreatDoorGLog
import Derived.Test.YteifkkceldlfnaaGreatDoorG6Col
import Derived.Test.YteifkkceldlfnaaGreatDoorRdL
namespace Go.Proofs.YteifkkceldlfnaaGreatDoor
open Go.RowKit Go.Shelf Go.Sort
open Go.Lib hiding intOf

/-- the batch that a frame of a kind and a load is -/
def tkB (kd : UInt8) (l : List UInt8) : Option (Nat × List (List UInt8)) :=
  let u := rdU l 0
  let r := rdL 256 4096 u.2.1 u.2.2
  if kd = 1 ∧ endOf r.2.1 r.2.2 = 0 ∧ isB r.1 = true then some (u.1, r.1) else none
/-- what takeBatch comes to -/
def TkR (w : World) (o : Option (Nat × List (List UInt8))) (e : Ending) (w' : World) : Prop := match o with
  | some (n, rs) => ∃ v, e = .returned (.tuple #[.int .u64 (n : Int), v, .bool true]) ∧ w'.ownsRow w.heap.size 9 1 v rs.length (strCs rs)
  | none => e = .returned (.tuple #[.int .u64 0, .slice none 0 0, .bool false])
theorem below_new {w w1 w2 : World} (h : Below w.heap.size w w1) (hb : But w.heap.size w1 w2) : Below w.heap.size w w2 := by
  have ca : Ch (fun k => k = w.heap.size) w1 w2 := ⟨hb.os, hb.tape, hb.output, hb.size, fun k hk hn => hb.block k hk hn⟩
  exact h.trans (ca.below h.size (fun k hk e => by omega))

set_option maxHeartbeats 2000000 in
set_option maxRecDepth 100000 in
theorem takeBatch_any (kd : UInt8) (l : List UInt8) (hl : l.length ≤ 1048576) (w : World) :
    Calls Tryz.prog 102 #[.int .u8 (kd.toNat : Int), .string (S l)] w fun e w' => Below w.heap.size w w' ∧ TkR w (tkB kd l) e w' := by
  obtain ⟨n, l1, e1, h1⟩ : ∃ n l1 e1, rdU l 0 = (n, l1, e1) := ⟨_, _, _, rfl⟩
  obtain ⟨rs, l2, e2, h2⟩ : ∃ rs l2 e2, rdL 256 4096 l1 e1 = (rs, l2, e2) := ⟨_, _, _, rfl⟩
  have H1 : Hid (rdU l 0 = (n, l1, e1)) := h1
  have H2 : Hid (rdL 256 4096 l1 e1 = (rs, l2, e2)) := h2
  have q1 := rdU_le H1
  have HT : Hid (tkB kd l = if kd = 1 ∧ endOf l2 e2 = 0 ∧ isB rs = true then some (n, rs) else none) := by
    show _ = _
    unfold tkB
    simp only [h1, h2]
  have hR := wRead_any l w
  have hrl : rs.length ≤ 9223372036854775807 := by
    have := rdL_cnt H2
    omega
  clear h1 h2
  by_cases hk : kd = 1
  · subst hk
    have hk1 : (((1 : UInt8).toNat : Nat) : Int) = 1 := rfl
    rw [hk1]
    obtain ⟨en, hen⟩ : ∃ en, endOf l2 e2 = en := ⟨_, rfl⟩
    by_cases h0 : en = 0
    · subst h0
      obtain ⟨ib, hib⟩ : ∃ ib, isB rs = ib := ⟨_, rfl⟩
      have HX : Hid (∀ (w1 w2 w3 : World) (v : Value), Below w.heap.size w w1 → w1.heap.size = w.heap.size + 1 → But w.heap.size w1 w2 → w3.ownsRow w2.heap.size 9 1 v rs.length (strCs rs) → But w.heap.size w2 w3 → (Calls Tryz.prog 58 #[v] w3 fun e w' => e = .returned (.bool ib) ∧ ∃ q, w' = w3.drewN q) ∧ ∀ q, Below w.heap.size w (w3.drewN q) ∧ (w3.drewN q).ownsRow w.heap.size 9 1 v rs.length (strCs rs)) := fun w1 w2 w3 v b1 z1 b2 hr b3 => by
        refine ⟨by rw [← hib]; exact isBatch_any (strs_row hr) hrl, fun q => ⟨below_drewN (below_new (below_new b1 b2) b3) q, ?_⟩⟩
        exact row_low (base := w2.heap.size) hr (by have := b1.size; have := b2.size; omega)
      rw [hen] at HT
      have hcase : (ib = true ∧ tkB 1 l = some (n, rs)) ∨ (ib = false ∧ tkB 1 l = none) := by
        cases ib with
        | true => exact .inl ⟨rfl, by rw [HT.out, if_pos ⟨rfl, rfl, hib⟩]⟩
        | false => exact .inr ⟨rfl, by rw [HT.out, if_neg (fun h => by rw [hib] at h; cases h.2.2)]⟩
      have hEn : ∀ {W : World}, Rd W w.heap.size l2 e2 → Calls Tryz.prog 131 #[.pointer (some ⟨w.heap.size, 0, none⟩)] W fun r w' => r = .returned (.int .i64 0) ∧ w' = W := fun h => by
        have := End_any h
        rw [hen] at this
        exact this
      clear HT hen hib
      rcases hcase with ⟨rfl, hcs⟩ | ⟨rfl, hcs⟩
      · have HN : Hid (tkB 1 l = some (n, rs)) := hcs
        clear hcs
        go_enter Tryz.func102, Tryz.ntmps102
        go_wp2_with (first
      | (go_at_call 128; refine hR.mono ?_; rintro e w1 ⟨rfl, r1, b1, z1⟩; have B1 : Hid (Below w.heap.size w w1 ∧ w1.heap.size = w.heap.size + 1) := ⟨b1, z1⟩; clear b1 z1)
      | (go_at_call 129; refine (Uint_all r1 H1).mono ?_; rintro e w2 ⟨rfl, r2, b2⟩; (have B2 : Hid (But w.heap.size w1 w2) := b2); clear b2 r1)
          | (go_at_call 130; refine (List_all r2 (by omega) (by omega) (by omega) H2).mono ?_; rintro e w3 ⟨v, rfl, hv, r3, b3⟩; obtain ⟨cI, fin⟩ := HX.out w1 w2 w3 v B1.out.1 B1.out.2 B2.out hv b3; obtain ⟨va, vc, rfl, -⟩ := row_slice hv; have FIN : Hid _ := fin; have cE := hEn r3; clear b3 r2 r3 hv fin HX)
          | (go_at_call 131; refine cE.mono ?_; rintro e w4 ⟨rfl, hw4⟩; rw [hw4]; clear hw4 cE)
          | (go_at_call 58; refine cI.mono ?_; rintro e w5 ⟨rfl, q, rfl⟩; clear cI))
        exact bodyPost_ret (v := .tuple #[.int .u64 (n : Int), .slice va rs.length vc, .bool true]) (by simp [results, Tryz.results102, go_sem]) rfl ⟨(FIN.out q).1, by rw [HN.out]; exact ⟨_, rfl, (FIN.out q).2⟩⟩
      · have HN : Hid (tkB 1 l = none) := hcs
        clear hcs
        go_enter Tryz.func102, Tryz.ntmps102
        go_wp2_with (first
      | (go_at_call 128; refine hR.mono ?_; rintro e w1 ⟨rfl, r1, b1, z1⟩; have B1 : Hid (Below w.heap.size w w1 ∧ w1.heap.size = w.heap.size + 1) := ⟨b1, z1⟩; clear b1 z1)
      | (go_at_call 129; refine (Uint_all r1 H1).mono ?_; rintro e w2 ⟨rfl, r2, b2⟩; (have B2 : Hid (But w.heap.size w1 w2) := b2); clear b2 r1)
          | (go_at_call 130; refine (List_all r2 (by omega) (by omega) (by omega) H2).mono ?_; rintro e w3 ⟨v, rfl, hv, r3, b3⟩; obtain ⟨cI, fin⟩ := HX.out w1 w2 w3 v B1.out.1 B1.out.2 B2.out hv b3; obtain ⟨va, vc, rfl, -⟩ := row_slice hv; have FIN : Hid _ := fin; have cE := hEn r3; clear b3 r2 r3 hv fin HX)
          | (go_at_call 131; refine cE.mono ?_; rintro e w4 ⟨rfl, hw4⟩; rw [hw4]; clear hw4 cE)
          | (go_at_call 58; refine cI.mono ?_; rintro e w5 ⟨rfl, q, rfl⟩; clear cI))
        exact bodyPost_ret (v := .tuple #[.int .u64 0, .slice none 0 0, .bool false]) (by simp [results, Tryz.results102, go_sem]) rfl ⟨(FIN.out q).1, by rw [HN.out]; exact rfl⟩
    · have HN : Hid (tkB 1 l = none) := by show _ = _; rw [HT.out, if_neg (fun h => h0 (by rw [← hen]; exact h.2.1))]
      have hne : ((en : Int) != 0) = true := by rw [bne_iff_ne]; omega
      have hEn : ∀ {W : World}, Rd W w.heap.size l2 e2 → Calls Tryz.prog 131 #[.pointer (some ⟨w.heap.size, 0, none⟩)] W fun r w' => r = .returned (.int .i64 (en : Int)) ∧ w' = W := fun h => by
        have := End_any h
        rw [hen] at this
        exact this
      clear HT hen h0
      go_enter Tryz.func102, Tryz.ntmps102
      go_wp2_with (first
      | (go_at_call 128; refine hR.mono ?_; rintro e w1 ⟨rfl, r1, b1, z1⟩; have B1 : Hid (Below w.heap.size w w1 ∧ w1.heap.size = w.heap.size + 1) := ⟨b1, z1⟩; clear b1 z1)
      | (go_at_call 129; refine (Uint_all r1 H1).mono ?_; rintro e w2 ⟨rfl, r2, b2⟩; (have B2 : Hid (But w.heap.size w1 w2) := b2); clear b2 r1)
        | (go_at_call 130; refine (List_all r2 (by omega) (by omega) (by omega) H2).mono ?_; rintro e w3 ⟨v, rfl, hv, r3, b3⟩; obtain ⟨va, vc, rfl, -⟩ := row_slice hv; (have B3 : Hid (Below w.heap.size w w3) := below_new (below_new B1.out.1 B2.out) b3); have cE := hEn r3; clear b3 r2 r3 hv)
        | (go_at_call 131; refine cE.mono ?_; rintro e w4 ⟨rfl, hw4⟩; rw [hw4]; clear hw4 cE))
      exact bodyPost_ret (v := .tuple #[.int .u64 0, .slice none 0 0, .bool false]) (by simp [results, Tryz.results102, go_sem]) rfl ⟨B3.out, by rw [HN.out]; exact rfl⟩
  · have hne : ((kd.toNat : Int) != 1) = true := by
      rw [bne_iff_ne]
      intro e
      exact hk (UInt8.toNat_inj.1 (show kd.toNat = 1 by omega))
    have HN : Hid (tkB kd l = none) := by show _ = _; rw [HT.out, if_neg (fun h => hk h.1)]
    generalize kd.toNat = kn at hne ⊢
    clear HT
    go_enter Tryz.func102, Tryz.ntmps102
    go_wp2_with (first
      | (go_at_call 128; refine hR.mono ?_; rintro e w1 ⟨rfl, r1, b1, z1⟩; have B1 : Hid (Below w.heap.size w w1) := b1; clear b1)
      | (go_at_call 129; refine (Uint_all r1 H1).mono ?_; rintro e w2 ⟨rfl, r2, b2⟩; (have B2 : Hid (Below w.heap.size w w2) := below_new B1.out b2); clear b2 r1)
      | (go_at_call 130; refine (List_all r2 (by omega) (by omega) (by omega) H2).mono ?_; rintro e w3 ⟨v, rfl, hv, r3, b3⟩; obtain ⟨va, vc, rfl, -⟩ := row_slice hv; (have B3 : Hid (Below w.heap.size w w3) := below_new B2.out b3); clear b3 r2 r3 hv))
    exact bodyPost_ret (v := .tuple #[.int .u64 0, .slice none 0 0, .bool false]) (by simp [results, Tryz.results102, go_sem]) rfl ⟨B3.out, by rw [HN.out]; exact rfl⟩
end Go.Proofs.YteifkkceldlfnaaGreatDoor

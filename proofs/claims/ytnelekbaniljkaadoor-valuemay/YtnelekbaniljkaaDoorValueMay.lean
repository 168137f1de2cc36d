/-
  Proved: for every two values, text and slice of variables ValueMay answers true, and changes nothing that was there before the call: what may be, what is a name, what is right, and their bytes and texts, are as the document says. The program's own tables are as its text lays them (the card's tie).
-/
import Derived.Test.YtnelekbaniljkaaDoorV9Vars
import Derived.Test.YtnelekbaniljkaaDoorV9Dsh
import Derived.Test.YtnelekbaniljkaaDoorV9Dvb
import Derived.Test.YtnelekbaniljkaaDoorV9Vb
import Derived.Deep.RegionHeld3
namespace Go.Proofs.YtnelekbaniljkaaDoor.valueMay
open Go.RowKit Go.Shelf Go.Sort
open Go.Lib hiding intOf

def arg (a b : V9) (s : ByteArray) (v : Value) : Value := .agg #[.int .i64 a.1, .int .i64 a.2.1, .string (S a.2.2), .int .i64 b.1, .int .i64 b.2.1, .string (S b.2.2), .string s, v]

set_option maxHeartbeats 16000000 in
set_option maxRecDepth 100000 in
theorem walk (a b : V9) (s : ByteArray) {w : World} {v : Value} {l : List Vr} (hv : Vs w v l) (hn : l.length * 48 ≤ 140737488355328) (hs : Sm9 l) (hk : s.size ≤ 140737488355328) (ha : Vk a) (hb : Vk b) (hg : Gv w.heap.size w) :
    Calls Tryd.prog 3 #[arg a b s v] w fun e w' => e = .returned (.bool true) ∧ Below w.heap.size w w' := by
  obtain ⟨x1, hx1⟩ : ∃ x, mayV a = x := ⟨_, rfl⟩
  obtain ⟨x2, hx2⟩ : ∃ x, namV s.data.toList = x := ⟨_, rfl⟩
  obtain ⟨x3, hx3⟩ : ∃ x, rgt l = x := ⟨_, rfl⟩
  obtain ⟨x4, hx4⟩ : ∃ x, S (bytV a) = x := ⟨_, rfl⟩
  obtain ⟨x5, hx5⟩ : ∃ x, S (shw a) = x := ⟨_, rfl⟩
  obtain ⟨x6, hx6⟩ : ∃ x, S (vbs l) = x := ⟨_, rfl⟩
  obtain ⟨x7, hx7⟩ : ∃ x, lesV a b = x := ⟨_, rfl⟩
  have H1 : Hid (∀ W, Below w.heap.size w W → Calls Tryd.prog 6 #[vA a] W fun e w' => e = .returned (.bool x1) ∧ Below W.heap.size W w') := fun W hW => hx1 ▸ May_any a W
  have H2 : Hid (∀ W, Below w.heap.size w W → Calls Tryd.prog 7 #[vA a] W fun e w' => e = .returned (.bool x1) ∧ Below W.heap.size W w') := fun W hW => hx1 ▸ dMay_any a W
  have H3 : Hid (∀ W, Below w.heap.size w W → Calls Tryd.prog 8 #[.string s] W fun e w' => e = .returned (.bool x2) ∧ Below W.heap.size W w') := fun W hW => (Named_any s (by omega) W).mono fun e w' h => ⟨hx2 ▸ h.1, by rw [h.2]; exact Below.refl _ _⟩
  have H4 : Hid (∀ W, Below w.heap.size w W → Calls Tryd.prog 9 #[.string s] W fun e w' => e = .returned (.bool x2) ∧ Below W.heap.size W w') := fun W hW => (dNam_any s (by omega) W).mono fun e w' h => ⟨hx2 ▸ h.1, by rw [h.2]; exact Below.refl _ _⟩
  have H5 : Hid (∀ W, Below w.heap.size w W → Calls Tryd.prog 10 #[v] W fun e w' => e = .returned (.bool x3) ∧ Below W.heap.size W w') := fun W hW => hx3 ▸ Right_any (hv.up hW) (by omega) hs
  have H6 : Hid (∀ W, Below w.heap.size w W → Calls Tryd.prog 11 #[v] W fun e w' => e = .returned (.bool x3) ∧ Below W.heap.size W w') := fun W hW => hx3 ▸ dRgt_any (hv.up hW) (by omega) hs
  have H7 : Hid (∀ W, Below w.heap.size w W → Calls Tryd.prog 12 #[vA a] W fun e w' => e = .returned (.string x4) ∧ Below W.heap.size W w') := fun W hW => hx4 ▸ Bytes_any a ha W
  have H8 : Hid (∀ W, Below w.heap.size w W → Calls Tryd.prog 13 #[vA a] W fun e w' => e = .returned (.string x4) ∧ Below W.heap.size W w') := fun W hW => hx4 ▸ dByt_any a ha W
  have H9 : Hid (∀ W, Below w.heap.size w W → Calls Tryd.prog 14 #[vA a] W fun e w' => e = .returned (.string x5) ∧ Below W.heap.size W w') := fun W hW => hx5 ▸ Show_any a ha (hg.below hW) hW.size
  have H10 : Hid (∀ W, Below w.heap.size w W → Calls Tryd.prog 15 #[vA a] W fun e w' => e = .returned (.string x5) ∧ Below W.heap.size W w') := fun W hW => hx5 ▸ dShow_any a ha W
  have H11 : Hid (∀ W, Below w.heap.size w W → Calls Tryd.prog 16 #[v] W fun e w' => e = .returned (.string x6) ∧ Below W.heap.size W w') := fun W hW => hx6 ▸ Vb_any (hv.up hW) (by omega) hs
  have H12 : Hid (∀ W, Below w.heap.size w W → Calls Tryd.prog 17 #[v] W fun e w' => e = .returned (.string x6) ∧ Below W.heap.size W w') := fun W hW => hx6 ▸ dVb_any (hv.up hW) (by omega) hs
  have H13 : Hid (∀ W, Below w.heap.size w W → Calls Tryd.prog 18 #[vA a, vA b] W fun e w' => e = .returned (.bool x7) ∧ Below W.heap.size W w') := fun W hW => hx7 ▸ lesV_any a b W
  have H14 : Hid (∀ W, Below w.heap.size w W → Calls Tryd.prog 19 #[vA a, vA b] W fun e w' => e = .returned (.bool x7) ∧ Below W.heap.size W w') := fun W hW => hx7 ▸ dLes_any a b (by have := ha.2.2; omega) (by have := hb.2.2; omega) W
  clear hx1 hx2 hx3 hx4 hx5 hx6 hx7
  obtain ⟨a1, a2, a3⟩ := a
  obtain ⟨b1, b2, b3⟩ := b
  obtain ⟨W1, hW1⟩ : ∃ W1, ((w.alloc (.cells #[.int .i64 a1, .int .i64 a2, .string (S a3), .int .i64 b1, .int .i64 b2, .string (S b3), .string s, v] 26)).alloc (.cells #[.int .i64 a1, .int .i64 a2, .string (S a3)] 23)).alloc (.cells #[.int .i64 b1, .int .i64 b2, .string (S b3)] 23) = W1 := ⟨_, rfl⟩
  have B0 : Hid (Below w.heap.size w W1) := by rw [← hW1]; exact (((Below.refl _ w).alloc (Nat.le_refl _) _).alloc (by simp) _).alloc (by simp; omega) _
  have CS := shown9_any (hg.below B0.out) B0.out.size
  have hzz : w.heap.size + 2 < W1.heap.size := by rw [← hW1]; simp
  have hca : ∀ i, W1.cell? ⟨w.heap.size + 1, i, none⟩ = (#[.int .i64 a1, .int .i64 a2, .string (S a3)] : Array Value)[i]? := fun i => by
    rw [← hW1]
    have h1 := World.cell?_alloc_new (w.alloc (.cells #[.int .i64 a1, .int .i64 a2, .string (S a3), .int .i64 b1, .int .i64 b2, .string (S b3), .string s, v] 26)) #[.int .i64 a1, .int .i64 a2, .string (S a3)] 23 i
    rw [World.size_alloc] at h1
    refine (Below.cell ((Below.refl _ _).alloc (Nat.le_refl _) (.cells #[.int .i64 b1, .int .i64 b2, .string (S b3)] 23)) (p := ⟨w.heap.size + 1, i, none⟩) (by simp)).trans h1
  have hcb : ∀ i, W1.cell? ⟨w.heap.size + 2, i, none⟩ = (#[.int .i64 b1, .int .i64 b2, .string (S b3)] : Array Value)[i]? := fun i => by
    rw [← hW1]
    have h1 := World.cell?_alloc_new ((w.alloc (.cells #[.int .i64 a1, .int .i64 a2, .string (S a3), .int .i64 b1, .int .i64 b2, .string (S b3), .string s, v] 26)).alloc (.cells #[.int .i64 a1, .int .i64 a2, .string (S a3)] 23)) #[.int .i64 b1, .int .i64 b2, .string (S b3)] 23 i
    rwa [World.size_alloc, World.size_alloc] at h1
  have HCX : Hid (∀ w', Below W1.heap.size W1 w' → w'.cell? ⟨w.heap.size + 1, 0, none⟩ = some (.int .i64 a1) ∧ w'.cell? ⟨w.heap.size + 1, 1, none⟩ = some (.int .i64 a2) ∧ w'.cell? ⟨w.heap.size + 1, 2, none⟩ = some (.string (S a3)) ∧ w'.cell? ⟨w.heap.size + 2, 0, none⟩ = some (.int .i64 b1) ∧ w'.cell? ⟨w.heap.size + 2, 1, none⟩ = some (.int .i64 b2) ∧ w'.cell? ⟨w.heap.size + 2, 2, none⟩ = some (.string (S b3))) := fun W hW => ⟨(hW.cell (p := ⟨w.heap.size + 1, 0, none⟩) (Nat.lt_of_succ_lt hzz)).trans (hca 0), (hW.cell (p := ⟨w.heap.size + 1, 1, none⟩) (Nat.lt_of_succ_lt hzz)).trans (hca 1), (hW.cell (p := ⟨w.heap.size + 1, 2, none⟩) (Nat.lt_of_succ_lt hzz)).trans (hca 2), (hW.cell (p := ⟨w.heap.size + 2, 0, none⟩) hzz).trans (hcb 0), (hW.cell (p := ⟨w.heap.size + 2, 1, none⟩) hzz).trans (hcb 1), (hW.cell (p := ⟨w.heap.size + 2, 2, none⟩) hzz).trans (hcb 2)⟩
  have HW : Hid (∀ W, Below W1.heap.size W1 W → Below w.heap.size w W) := fun W hW => bel_of B0.out hW (Nat.le_refl _)
  have HWE : Hid (_ = W1) := hW1
  clear hW1
  unfold arg
  unfold vA at H1 H2 H7 H8 H9 H10 H13 H14
  simp only at H1 H2 H7 H8 H9 H10 H13 H14
  obtain ⟨va, vcap, rfl, -⟩ := hv
  clear hca hcb hg ha hb hs hn hk
  go_enter Tryd.func3, Tryd.ntmps3
  go_wp2_with (go_at_call 5; (try rw [HWE.out]); refine CS.mono ?_; rintro e w1 ⟨rfl, b1'⟩; (have HB : Hid (Below W1.heap.size W1 w1) := b1'); obtain ⟨s0, s1, s2, t0, t1, t2⟩ := HCX.out w1 HB.out; clear b1' CS)
  clear HWE
  go_region_held3 (fun w' => w'.cell? ⟨w.heap.size + 1, 0, none⟩ = some (.int .i64 a1) ∧ w'.cell? ⟨w.heap.size + 1, 1, none⟩ = some (.int .i64 a2) ∧ w'.cell? ⟨w.heap.size + 1, 2, none⟩ = some (.string (S a3)) ∧ w'.cell? ⟨w.heap.size + 2, 0, none⟩ = some (.int .i64 b1) ∧ w'.cell? ⟨w.heap.size + 2, 1, none⟩ = some (.int .i64 b2) ∧ w'.cell? ⟨w.heap.size + 2, 2, none⟩ = some (.string (S b3)))
    (first
      | go_keep
      | exact ⟨s0, s1, s2, t0, t1, t2⟩)
    (first
      | (go_at_call 6; refine (H1.out _ (HW.out _ (by first | exact HB.out.drew | exact HB.out))).mono ?_; rintro e u1 ⟨rfl, bu⟩; (replace HB : Hid (Below W1.heap.size W1 u1) := by first | exact bel_of HB.out.drew bu (Nat.le_refl _) | exact bel_of HB.out bu (Nat.le_refl _)); clear s0 s1 s2 t0 t1 t2; obtain ⟨s0, s1, s2, t0, t1, t2⟩ := HCX.out _ HB.out; clear bu H1)
      | (go_at_call 7; refine (H2.out _ (HW.out _ (by first | exact HB.out.drew | exact HB.out))).mono ?_; rintro e u2 ⟨rfl, bu⟩; (replace HB : Hid (Below W1.heap.size W1 u2) := by first | exact bel_of HB.out.drew bu (Nat.le_refl _) | exact bel_of HB.out bu (Nat.le_refl _)); clear s0 s1 s2 t0 t1 t2; obtain ⟨s0, s1, s2, t0, t1, t2⟩ := HCX.out _ HB.out; clear bu H2)
      | (go_at_call 8; refine (H3.out _ (HW.out _ (by first | exact HB.out.drew | exact HB.out))).mono ?_; rintro e u3 ⟨rfl, bu⟩; (replace HB : Hid (Below W1.heap.size W1 u3) := by first | exact bel_of HB.out.drew bu (Nat.le_refl _) | exact bel_of HB.out bu (Nat.le_refl _)); clear s0 s1 s2 t0 t1 t2; obtain ⟨s0, s1, s2, t0, t1, t2⟩ := HCX.out _ HB.out; clear bu H3)
      | (go_at_call 9; refine (H4.out _ (HW.out _ (by first | exact HB.out.drew | exact HB.out))).mono ?_; rintro e u4 ⟨rfl, bu⟩; (replace HB : Hid (Below W1.heap.size W1 u4) := by first | exact bel_of HB.out.drew bu (Nat.le_refl _) | exact bel_of HB.out bu (Nat.le_refl _)); clear s0 s1 s2 t0 t1 t2; obtain ⟨s0, s1, s2, t0, t1, t2⟩ := HCX.out _ HB.out; clear bu H4)
      | (go_at_call 10; refine (H5.out _ (HW.out _ (by first | exact HB.out.drew | exact HB.out))).mono ?_; rintro e u5 ⟨rfl, bu⟩; (replace HB : Hid (Below W1.heap.size W1 u5) := by first | exact bel_of HB.out.drew bu (Nat.le_refl _) | exact bel_of HB.out bu (Nat.le_refl _)); clear s0 s1 s2 t0 t1 t2; obtain ⟨s0, s1, s2, t0, t1, t2⟩ := HCX.out _ HB.out; clear bu H5)
      | (go_at_call 11; refine (H6.out _ (HW.out _ (by first | exact HB.out.drew | exact HB.out))).mono ?_; rintro e u6 ⟨rfl, bu⟩; (replace HB : Hid (Below W1.heap.size W1 u6) := by first | exact bel_of HB.out.drew bu (Nat.le_refl _) | exact bel_of HB.out bu (Nat.le_refl _)); clear s0 s1 s2 t0 t1 t2; obtain ⟨s0, s1, s2, t0, t1, t2⟩ := HCX.out _ HB.out; clear bu H6))
  go_wp2
  go_region_held3 (fun w' => w'.cell? ⟨w.heap.size + 1, 0, none⟩ = some (.int .i64 a1) ∧ w'.cell? ⟨w.heap.size + 1, 1, none⟩ = some (.int .i64 a2) ∧ w'.cell? ⟨w.heap.size + 1, 2, none⟩ = some (.string (S a3)) ∧ w'.cell? ⟨w.heap.size + 2, 0, none⟩ = some (.int .i64 b1) ∧ w'.cell? ⟨w.heap.size + 2, 1, none⟩ = some (.int .i64 b2) ∧ w'.cell? ⟨w.heap.size + 2, 2, none⟩ = some (.string (S b3)))
    (first
      | go_keep
      | exact ⟨s0, s1, s2, t0, t1, t2⟩)
    (first
      | (go_at_call 12; refine (H7.out _ (HW.out _ (by first | exact HB.out.drew | exact HB.out))).mono ?_; rintro e u7 ⟨rfl, bu⟩; (replace HB : Hid (Below W1.heap.size W1 u7) := by first | exact bel_of HB.out.drew bu (Nat.le_refl _) | exact bel_of HB.out bu (Nat.le_refl _)); clear s0 s1 s2 t0 t1 t2; obtain ⟨s0, s1, s2, t0, t1, t2⟩ := HCX.out _ HB.out; clear bu H7)
      | (go_at_call 13; refine (H8.out _ (HW.out _ (by first | exact HB.out.drew | exact HB.out))).mono ?_; rintro e u8 ⟨rfl, bu⟩; (replace HB : Hid (Below W1.heap.size W1 u8) := by first | exact bel_of HB.out.drew bu (Nat.le_refl _) | exact bel_of HB.out bu (Nat.le_refl _)); clear s0 s1 s2 t0 t1 t2; obtain ⟨s0, s1, s2, t0, t1, t2⟩ := HCX.out _ HB.out; clear bu H8)
      | (go_at_call 14; refine (H9.out _ (HW.out _ (by first | exact HB.out.drew | exact HB.out))).mono ?_; rintro e u9 ⟨rfl, bu⟩; (replace HB : Hid (Below W1.heap.size W1 u9) := by first | exact bel_of HB.out.drew bu (Nat.le_refl _) | exact bel_of HB.out bu (Nat.le_refl _)); clear s0 s1 s2 t0 t1 t2; obtain ⟨s0, s1, s2, t0, t1, t2⟩ := HCX.out _ HB.out; clear bu H9)
      | (go_at_call 15; refine (H10.out _ (HW.out _ (by first | exact HB.out.drew | exact HB.out))).mono ?_; rintro e u10 ⟨rfl, bu⟩; (replace HB : Hid (Below W1.heap.size W1 u10) := by first | exact bel_of HB.out.drew bu (Nat.le_refl _) | exact bel_of HB.out bu (Nat.le_refl _)); clear s0 s1 s2 t0 t1 t2; obtain ⟨s0, s1, s2, t0, t1, t2⟩ := HCX.out _ HB.out; clear bu H10)
      | (go_at_call 16; refine (H11.out _ (HW.out _ (by first | exact HB.out.drew | exact HB.out))).mono ?_; rintro e u11 ⟨rfl, bu⟩; (replace HB : Hid (Below W1.heap.size W1 u11) := by first | exact bel_of HB.out.drew bu (Nat.le_refl _) | exact bel_of HB.out bu (Nat.le_refl _)); clear s0 s1 s2 t0 t1 t2; obtain ⟨s0, s1, s2, t0, t1, t2⟩ := HCX.out _ HB.out; clear bu H11)
      | (go_at_call 17; refine (H12.out _ (HW.out _ (by first | exact HB.out.drew | exact HB.out))).mono ?_; rintro e u12 ⟨rfl, bu⟩; (replace HB : Hid (Below W1.heap.size W1 u12) := by first | exact bel_of HB.out.drew bu (Nat.le_refl _) | exact bel_of HB.out bu (Nat.le_refl _)); clear s0 s1 s2 t0 t1 t2; obtain ⟨s0, s1, s2, t0, t1, t2⟩ := HCX.out _ HB.out; clear bu H12)
      | (go_at_call 18; refine (H13.out _ (HW.out _ (by first | exact HB.out.drew | exact HB.out))).mono ?_; rintro e u13 ⟨rfl, bu⟩; (replace HB : Hid (Below W1.heap.size W1 u13) := by first | exact bel_of HB.out.drew bu (Nat.le_refl _) | exact bel_of HB.out bu (Nat.le_refl _)); clear s0 s1 s2 t0 t1 t2; obtain ⟨s0, s1, s2, t0, t1, t2⟩ := HCX.out _ HB.out; clear bu H13)
      | (go_at_call 19; refine (H14.out _ (HW.out _ (by first | exact HB.out.drew | exact HB.out))).mono ?_; rintro e u14 ⟨rfl, bu⟩; (replace HB : Hid (Below W1.heap.size W1 u14) := by first | exact bel_of HB.out.drew bu (Nat.le_refl _) | exact bel_of HB.out bu (Nat.le_refl _)); clear s0 s1 s2 t0 t1 t2; obtain ⟨s0, s1, s2, t0, t1, t2⟩ := HCX.out _ HB.out; clear bu H14))
  go_wp2
  go_ret
  exact ⟨rfl, HW.out _ HB.out⟩

theorem array8 {α : Type} {cs : Array α} (h : cs.size = 8) : ∃ c0 c1 c2 c3 c4 c5 c6 c7, cs = #[c0, c1, c2, c3, c4, c5, c6, c7] := by
  obtain ⟨l⟩ := cs
  match l, h with
  | [c0, c1, c2, c3, c4, c5, c6, c7], _ => exact ⟨c0, c1, c2, c3, c4, c5, c6, c7, rfl⟩

open Go.ChangeShapes Go.WideShapes Go.ChangeAt Go.WideMaps Go.WideElems in
set_option maxRecDepth 100000 in
theorem open_in {H : Type} {enc : TypeId × Value → H} {W : World} {v : Value} {d : DataW H} {p : List MemPlace} {base : Nat} (hok : Value.okWide Tryd.prog W .any base 26 v)
    (h : DataW.Trod enc Tryd.prog W 0 (fun _ => true) true 26 v d p) : ∃ (a b : V9) (s : ByteArray) (vl : Value) (y0 y1 y2 y3 : DataW H × List MemPlace), v = arg a b s vl ∧ d = .agg [y0.1, y1.1, y2.1, y3.1] ∧
      (∃ l : List Vr, Vs W vl l ∧ ((y3.1.weights Tryd.prog 24).all (· ≤ reachBytes) = true → l.length * 48 ≤ 140737488355328 ∧ Sm9 l)) ∧ ((y0.1.weights Tryd.prog 23).all (· ≤ reachBytes) = true → Vk a) ∧ ((y1.1.weights Tryd.prog 23).all (· ≤ reachBytes) = true → Vk b) ∧ ((y2.1.weights Tryd.prog 9).all (· ≤ reachBytes) = true → s.size ≤ 140737488355328) := by
  have hc1 : Tryd.prog.cellsOf 24 = 1 := by kernel_rfl
  have hc2 : Tryd.prog.cellsOf 9 = 1 := by kernel_rfl
  have hc3 : Tryd.prog.cellsOf 23 = 3 := by kernel_rfl
  have hC : Tryd.prog.cellsOf 26 = 8 := by kernel_rfl
  obtain ⟨cs, rfl, hsz⟩ := okWide_struct Tryd.underlying26 hok
  obtain ⟨fuel, hf⟩ := h
  obtain ⟨z0, z1, z2, z3, z4, z5, z6, z7, rfl⟩ := array8 (hsz.trans hC)
  obtain ⟨y0, y1, y2, y3, n, hD, _, t0, t1, t2, t3⟩ := Go.Joins.trod_struct4 Tryd.underlying26 hf
  simp only [hc1, hc2, hc3, Value.cells, List.drop_zero, List.drop_succ_cons, List.take_succ_cons, List.take_zero] at t0 t1 t2 t3
  simp only [Prod.mk.injEq] at hD
  obtain ⟨a, len, cap, hs0⟩ := Go.Joins.slice_form Tryd.underlying24 t3
  simp only [List.cons.injEq, and_true] at hs0
  subst hs0
  obtain ⟨l, hl, hl2⟩ := openVarsF (x := y3) t3
  obtain ⟨x, hx, hy, hb, hw⟩ := openValF (by rfl) t0
  obtain ⟨x', hx', hy', hb', hw'⟩ := openValF (by rfl) t1
  obtain ⟨s1, e1, g1, w1⟩ := DataW.trod_string Tryd.underlying9 t2
  simp only [List.cons.injEq, and_true] at e1 hx hx'
  obtain ⟨hx1, hx2, hx3⟩ := hx
  obtain ⟨hx4, hx5, hx6⟩ := hx'
  subst e1 hx1 hx2 hx3 hx4 hx5 hx6
  refine ⟨x, x', s1, _, y0, y1, y2, y3, ?_, hD.1, ⟨l, hl, hl2⟩, fun hs => ⟨hb.1, hb.2, ?_⟩, fun hs => ⟨hb'.1, hb'.2, ?_⟩, fun hs => ?_⟩
  · unfold arg
    rfl
  · have h2 := of_decide_eq_true (List.all_eq_true.1 hs _ hw)
    simp only [reachBytes] at h2
    omega
  · have h2 := of_decide_eq_true (List.all_eq_true.1 hs _ hw')
    simp only [reachBytes] at h2
    omega
  · rw [g1] at hs
    have := str_size hs
    have hh : s1.data.toList.length = s1.size := by simp
    omega

open Go.ChangeShapes Go.WideShapes Go.ChangeAt Go.WideMaps Go.WideElems in
set_option maxRecDepth 100000 in
theorem lifted (os : Os) (started : os.Started) (H : Type) (enc : TypeId × Value → H) :
    ReturnsInHanded {} Tryd.checked os 3 .any (fun w args => (Rows.valueMaySpec.pre enc Tryd.prog Tryd.f3 [] false w args ∧ laidMetH Tryd.prog laid9 w) ∧ sizedMet enc Tryd.prog Tryd.f3 (OpenSpec.ofChange Rows.valueMaySpec) false w args)
      (Rows.valueMaySpec.post enc Tryd.prog Tryd.f3 false true false false) := by
  refine returnsInHanded_of_change_and (C := Tryd.checked) (X := fun w _ => laidMetH Tryd.prog laid9 w) (fun _ _ _ hh h => h.of_heap hh) own9 started (by kernel_rfl) Tryd.func3
    (ChangeSpec.witness_shaped (enc := enc) (C := Tryd.checked) (os := os) (X := fun w _ => laidMetH Tryd.prog laid9 w) false (World.doorLaid Tryd.prog 400 os) #[.agg #[.int .i64 0, .int .i64 0, .string .empty, .int .i64 0, .int .i64 0, .string .empty, .string .empty, .slice none 0 0]] 8 rfl (World.shaped_of_RefB (by kernel_rfl) (by kernel_rfl)) (by kernel_rfl) (by kernel_rfl) (by kernel_rfl) (door_met os _)) ?_
  intro W base args ds gs before hval0 hW hcnd hsz0 hL _
  have hval : ∀ (j : Nat) t v, Tryd.f3.params[j]? = some t → args[j]? = some v → Value.okWide Tryd.prog W .any base t v := hval0
  have hW' := hW
  obtain ⟨p, q, hA0, hV, rfl, hfz, hnd⟩ := hW
  have hA : DataW.TrodAll enc Tryd.prog W 0 (fun _ => true) true Tryd.f3.params.toList args.toList ds p := hA0
  have hsz : (DataW.weightsEach Tryd.prog (Tryd.f3.params.toList ++ Rows.valueMaySpec.plain.varTypes Tryd.prog) (ds ++ gs)).all (· ≤ reachBytes) = true := hsz0
  rw [Tryd.params3] at hA hval hsz
  obtain ⟨v0, vs0, d0, ds0, p0, q0, hargs, rfl, rfl, h0, r0⟩ := trodAll_cons hA
  obtain ⟨rfl, rfl, rfl⟩ := trodAll_nil r0
  obtain rfl : args = #[v0] := by cases args; simp_all
  obtain ⟨rfl, rfl⟩ := trodVars_none hV
  have k0 := h0
  have lt0 : ∀ x ∈ p0, x.block < W.heap.size := by obtain ⟨m, hm⟩ := k0; exact DataW.trod_lt m _ _ _ hm
  obtain ⟨a, b, s, vl, y0, y1, y2, y3, rfl, hd, ⟨l, hl, hl2⟩, hx, hx', hk⟩ := open_in (hval 0 26 v0 rfl rfl) h0
  subst hd
  obtain ⟨hn, hs⟩ := hl2 (sized_part hsz (i := 0) (j := 3) rfl rfl Tryd.underlying26 rfl rfl)
  have z0 := hx (sized_part hsz (i := 0) (j := 0) rfl rfl Tryd.underlying26 rfl rfl)
  have z1 := hx' (sized_part hsz (i := 0) (j := 1) rfl rfl Tryd.underlying26 rfl rfl)
  have z2 := hk (sized_part hsz (i := 0) (j := 2) rfl rfl Tryd.underlying26 rfl rfl)
  clear hA0 hval0
  refine (walk a b s hl hn hs z2 z0 z1 (gv_of hL)).mono fun e W' ⟨he, bel⟩ => ?_
  subst he
  exact ⟨_, rfl, _, _, _, [], _, [], hW', trodAll_mk1 (shut_bool Tryd.underlying4 _), (trodAll_cons_mk (Below.trod laidOut9 (by kernel_rfl) (of_decide_eq_true (by kernel_rfl)) k0 bel lt0) trodAll_mk0), rfl, bel.frame _, fun h => by cases h⟩
theorem said : Rows.ValueMaySaid :=
  OpenClaim.holds_of_wide 3 Tryd.f3 rfl rfl rfl rfl rfl rfl rfl ⟨rfl, rfl, rfl, rfl, rfl⟩ rfl rfl rfl rfl rfl (by kernel_rfl) Tryd.func3 (by kernel_rfl)
    (of_decide_eq_true (by kernel_rfl)) (by unfold Func.isWrapper; first | (rw [if_pos (by decide +kernel)]; kernel_rfl) | (rw [if_neg (by decide +kernel)]; exact ⟨rfl, rfl⟩))
    (fun os started H enc _ => lifted os started H enc)
theorem proved : Rows.ValueMayCardSaid :=
  Claim7.holds_tied_plain_at .later [] [.data, .data, .data] true (true, "44a316f20724bb01886095ba2639b6857a8b0e32f9893041823de5ab44af4145") false
    said (fun _ h => by cases h) (by kernel_rfl) (fun _ h => by cases h) valueMay_row_tie rfl ⟨rfl, rfl⟩ (by kernel_rfl) rfl
    (fun f fn hf hfn => by
      obtain rfl : f = 3 := Option.some.inj ((show Tryd.prog.funcNamed "wherry/wherrylaw09.ValueMay" = some 3 by kernel_rfl).symm.trans hf) |>.symm
      obtain rfl : fn = Tryd.f3 := (Option.some.inj (Tryd.func3.symm.trans hfn)).symm
      exact ⟨by kernel_rfl, fun j t ht => by
        rw [Tryd.params3] at ht
        have hm : t ∈ [26] := by simpa using Array.mem_of_getElem? ht
        have hall : ([26].all fun u => !Tryd.prog.wantsStandIn u) = true := by kernel_rfl
        exact (show Tryd.prog.wantsStandIn t = false by simpa using List.all_eq_true.1 hall t hm)⟩)
    (by kernel_rfl)
end Go.Proofs.YtnelekbaniljkaaDoor.valueMay

/-
  A value's bytes: package value's Bytes and the document's.
-/
import Derived.Test.YtippnkendoghpaaV9Rgt2
import Derived.Test.YtippnkendoghpaaRefs
import Derived.Deep.RegionWith
namespace Go.Proofs.Ytippnkendoghpaa
open Go.RowKit Go.Shelf Go.Sort
open Go.Lib hiding intOf

theorem may_kind {v : V9} (h : mayV v = true) : v.1 = 1 ∨ v.1 = 2 ∨ v.1 = 3 := by
  unfold mayV at h
  split at h
  · exact .inr (.inr (by assumption))
  · rcases (of_decide_eq_true h).2 with h | h
    · exact .inl h
    · exact .inr (.inl h.1)
theorem cat_byte (c : UInt8) (l : List UInt8) : S [c] ++ S l = S (c :: l) := S_append [c] l
theorem conv1 (W : World) (v : Int) (c : UInt8) (hv : (c.toNat : Int) = v) : (convert 71 9 (.slice (some ⟨W.heap.size, 0, none⟩) 1 1)).run Try.prog (W.alloc (.cells #[.int .u8 v] 5)) = .ok (.string (S [c])) (W.alloc (.cells #[.int .u8 v] 5)) := conv_one W v c hv

set_option maxHeartbeats 2000000 in
set_option maxRecDepth 100000 in
theorem Bytes_any (v : V9) (hv : Vk v) (w : World) : Calls Try.prog 91 #[vA v] w fun e w' => e = .returned (.string (S (bytV v))) ∧ Below w.heap.size w w' := by
  have CM := May_any v
  obtain ⟨k, n, s⟩ := v
  obtain ⟨-, ⟨n1, n2⟩, hs⟩ := hv
  simp only at n1 n2 hs
  have hk := may_kind (v := (k, n, s))
  have hml := may_len (v := (k, n, s))
  have HBY : Hid (bytV (k, n, s) = if mayV (k, n, s) then k.toNat.toUInt8 :: (if k = 3 then txt s else Lib.uvarint (Lib.zigzag n)) else []) := by show _ = _; rfl
  have B1 : Hid (Below w.heap.size w (w.alloc (.cells #[.int .i64 k, .int .i64 n, .string (S s)] 52))) := (Below.refl _ w).alloc (Nat.le_refl _) _
  unfold vA at CM ⊢
  cases hm : mayV (k, n, s) with
  | false =>
    rw [hm] at CM HBY
    clear hk hml hm
    go_enter Try.func91, Try.ntmps91
    go_wp2_with (go_at_call 54; refine (CM _).mono ?_; rintro e w1 ⟨rfl, b1⟩; have B2 : Hid (Below w.heap.size w w1) := bel_of B1.out b1 (Nat.le_refl _); clear b1)
    go_ret
    rw [HBY.out]
    exact ⟨rfl, B2.out⟩
  | true =>
    rw [hm] at CM HBY
    have hk := hk hm
    have hml : s.length ≤ 1024 := hml hm
    clear hm
    have CT := Text_any s (by omega)
    have CI := Int_any n n1 n2
    rcases hk with rfl | rfl | rfl
    · have a1 := cat_byte 1 (Lib.uvarint (Lib.zigzag n))
      have z1 : (S [1]).size = 1 := S_size _
      have z2 := S_size (Lib.uvarint (Lib.zigzag n))
      have z3 := Lib.uvarint_length64 (Lib.zigzag_lt n1 n2)
      go_enter Try.func91, Try.ntmps91
      go_wp2_with (first
        | (go_at_call 54; refine (CM _).mono ?_; rintro e w1 ⟨rfl, b1⟩; (have B2 : Hid (Below w.heap.size w w1) := bel_of B1.out b1 (Nat.le_refl _)); (have c0 := (b1.cell (p := ⟨w.heap.size, 0, none⟩) (by simp)).trans (World.cell?_alloc_new _ _ _ _)); (have c1 := (b1.cell (p := ⟨w.heap.size, 1, none⟩) (by simp)).trans (World.cell?_alloc_new _ _ _ _)); (have hlw : w.heap.size < w1.heap.size := by have := b1.size; rw [World.size_alloc] at this; omega); have cv := conv1 w1 1 1 rfl; clear b1)
        | (go_at_call 64; refine (CI _).mono ?_; rintro e w2 ⟨rfl, b2⟩; (have B3 : Hid (Below w.heap.size w w2) := bel_of (B2.out.alloc B2.out.size _) b2 (Nat.le_refl _)); clear b2))
      go_ret
      rw [HBY.out]
      exact ⟨rfl, B3.out⟩
    · have a1 := cat_byte 2 (Lib.uvarint (Lib.zigzag n))
      have z1 : (S [2]).size = 1 := S_size _
      have z2 := S_size (Lib.uvarint (Lib.zigzag n))
      have z3 := Lib.uvarint_length64 (Lib.zigzag_lt n1 n2)
      go_enter Try.func91, Try.ntmps91
      go_wp2_with (first
        | (go_at_call 54; refine (CM _).mono ?_; rintro e w1 ⟨rfl, b1⟩; (have B2 : Hid (Below w.heap.size w w1) := bel_of B1.out b1 (Nat.le_refl _)); (have c0 := (b1.cell (p := ⟨w.heap.size, 0, none⟩) (by simp)).trans (World.cell?_alloc_new _ _ _ _)); (have c1 := (b1.cell (p := ⟨w.heap.size, 1, none⟩) (by simp)).trans (World.cell?_alloc_new _ _ _ _)); (have hlw : w.heap.size < w1.heap.size := by have := b1.size; rw [World.size_alloc] at this; omega); have cv := conv1 w1 2 2 rfl; clear b1)
        | (go_at_call 64; refine (CI _).mono ?_; rintro e w2 ⟨rfl, b2⟩; (have B3 : Hid (Below w.heap.size w w2) := bel_of (B2.out.alloc B2.out.size _) b2 (Nat.le_refl _)); clear b2))
      go_ret
      rw [HBY.out]
      exact ⟨rfl, B3.out⟩
    · have a1 := cat_byte 3 (txt s)
      have z1 : (S [3]).size = 1 := S_size _
      have z2 := S_size (txt s)
      have z3 : (txt s).length ≤ 1034 := by have := Lib.uvarint_length64 (show s.length < 18446744073709551616 by omega); rw [txt_length]; omega
      go_enter Try.func91, Try.ntmps91
      go_wp2_with (first
        | (go_at_call 54; refine (CM _).mono ?_; rintro e w1 ⟨rfl, b1⟩; (have B2 : Hid (Below w.heap.size w w1) := bel_of B1.out b1 (Nat.le_refl _)); (have c0 := (b1.cell (p := ⟨w.heap.size, 0, none⟩) (by simp)).trans (World.cell?_alloc_new _ _ _ _)); (have c2 := (b1.cell (p := ⟨w.heap.size, 2, none⟩) (by simp)).trans (World.cell?_alloc_new _ _ _ _)); (have hlw : w.heap.size < w1.heap.size := by have := b1.size; rw [World.size_alloc] at this; omega); have cv := conv1 w1 3 3 rfl; clear b1)
        | (go_at_call 68; refine (CT _).mono ?_; rintro e w2 ⟨rfl, b2⟩; (have B3 : Hid (Below w.heap.size w w2) := bel_of (B2.out.alloc B2.out.size _) b2 (Nat.le_refl _)); clear b2))
      go_ret
      rw [HBY.out]
      exact ⟨rfl, B3.out⟩

theorem conv_num (v : Int) (c : UInt8) (hv : (c.toNat : Int) = v) (W : World) (b : Nat) (h : W.cell? ⟨b, 0, none⟩ = some (.int .u8 v)) :
    (convert 71 9 (.slice (some ⟨b, 0, none⟩) 1 1)).run Try.prog W = .ok (.string (S [c])) W := by
  refine run_convert_bytes_back W 71 9 5 ⟨b, 0, none⟩ 1 [c] Try.underlying71 Try.underlying5 Try.underlying9 (fun j hj => ?_)
  have hj0 : j = 0 := by simpa using hj
  subst hj0
  rw [Addr.add_lit]
  simpa [hv] using h
theorem conv1d (W : World) (v : Int) (c : UInt8) (hv : (c.toNat : Int) = v) : (convert 71 9 (.slice (some ⟨W.heap.size, 0, none⟩) 1 1)).run Try.prog ((W.alloc (.cells #[.int .u8 v] 5)).drew) = .ok (.string (S [c])) ((W.alloc (.cells #[.int .u8 v] 5)).drew) :=
  conv_num v c hv _ _ (World.cell?_alloc_new W _ _ _)
theorem bcell9 {W w1 : World} (hb : Below W.heap.size W w1) : (∀ b o, b < W.heap.size → w1.cell? ⟨b, o, none⟩ = W.cell? ⟨b, o, none⟩) ∧ (∀ b o, b < W.heap.size → w1.frozen? ⟨b, o, none⟩ = W.frozen? ⟨b, o, none⟩) :=
  ⟨fun b o h => hb.cell (p := ⟨b, o, none⟩) h, fun b o h => hb.frozen (p := ⟨b, o, none⟩) h⟩

set_option maxHeartbeats 4000000 in
set_option maxRecDepth 100000 in
theorem dByt_any (v : V9) (hv : Vk v) (w : World) : Calls Try.prog 75 #[vA v] w fun e w' => e = .returned (.string (S (bytV v))) ∧ Below w.heap.size w w' := by
  have CM := dMay_any v
  obtain ⟨k, n, s⟩ := v
  obtain ⟨-, ⟨n1, n2⟩, hs⟩ := hv
  simp only at n1 n2 hs
  have hk := may_kind (v := (k, n, s))
  have hml := may_len (v := (k, n, s))
  have HBY : Hid (bytV (k, n, s) = if mayV (k, n, s) then k.toNat.toUInt8 :: (if k = 3 then txt s else Lib.uvarint (Lib.zigzag n)) else []) := by show _ = _; rfl
  have B1 : Hid (Below w.heap.size w (w.alloc (.cells #[.int .i64 k, .int .i64 n, .string (S s)] 52))) := (Below.refl _ w).alloc (Nat.le_refl _) _
  unfold vA at CM ⊢
  cases hm : mayV (k, n, s) with
  | false =>
    rw [hm] at CM HBY
    clear hk hml hm
    go_enter Try.func75, Try.ntmps75
    go_wp2_with (go_at_call 49; refine (CM _).mono ?_; rintro e w1 ⟨rfl, b1⟩; have B2 : Hid (Below w.heap.size w w1) := bel_of B1.out b1 (Nat.le_refl _); clear b1)
    go_ret
    rw [HBY.out]
    exact ⟨rfl, B2.out⟩
  | true =>
    rw [hm] at CM HBY
    have hk := hk hm
    have hml : s.length ≤ 1024 := hml hm
    clear hm
    have CT := refText_any s (by omega)
    have CI := refInt_any n n1 n2
    rcases hk with rfl | rfl | rfl
    · have a1 := cat_byte 1 (Lib.uvarint (Lib.zigzag n))
      have z1 : (S [1]).size = 1 := S_size _
      have z2 := S_size (Lib.uvarint (Lib.zigzag n))
      have z3 := Lib.uvarint_length64 (Lib.zigzag_lt n1 n2)
      go_enter Try.func75, Try.ntmps75
      go_wp2_with (go_at_call 49; refine (CM _).mono ?_; rintro e w1 ⟨rfl, b1⟩; (have B2 : Hid (Below w.heap.size w w1) := bel_of B1.out b1 (Nat.le_refl _)); (have c0 : w1.cell? ⟨w.heap.size, 0, none⟩ = some (.int .i64 1) := (b1.cell (p := ⟨w.heap.size, 0, none⟩) (by simp)).trans (World.cell?_alloc_new _ _ _ _)); (have c1 : w1.cell? ⟨w.heap.size, 1, none⟩ = some (.int .i64 n) := (b1.cell (p := ⟨w.heap.size, 1, none⟩) (by simp)).trans (World.cell?_alloc_new _ _ _ _)); (have hlw : w.heap.size < w1.heap.size := by have := b1.size; rw [World.size_alloc] at this; omega); (have hcv := conv_num (IntKind.u8.wrap 1) 1 (by decide)); clear b1)
      go_region_with (first | (go_at_call 45
                               refine (CI _).mono ?_
                               rintro e w2 ⟨rfl, hb⟩
                               have kk : ∀ i, w2.cell? ⟨w.heap.size, i, none⟩ = w1.cell? ⟨w.heap.size, i, none⟩ := fun i => by
                                 first
                                   | exact (hb.cell (p := ⟨w.heap.size, i, none⟩) (by simp; omega)).trans (((Below.refl w1.heap.size w1).drew).cell (p := ⟨w.heap.size, i, none⟩) hlw)
                                   | exact (hb.cell (p := ⟨w.heap.size, i, none⟩) (by simp; omega)).trans ((((Below.refl w1.heap.size w1).alloc (Nat.le_refl _) (.cells #[.int .u8 (IntKind.u8.wrap 1)] 5)).drew).cell (p := ⟨w.heap.size, i, none⟩) hlw)
                               have k0 := (kk 0).trans c0
                               have k1 := (kk 1).trans c1
                               try have k2 : w2.cell? ⟨w1.heap.size, 0, none⟩ = some (.int .u8 (IntKind.u8.wrap 1)) := (hb.cell (p := ⟨w1.heap.size, 0, none⟩) (by simp)).trans (World.cell?_alloc_new w1 _ _ _)
                               have HB : Hid (Below w.heap.size w w2) := by
                                 first
                                   | exact bel_of B2.out.drew hb (Nat.le_refl _)
                                   | exact bel_of (B2.out.alloc B2.out.size _).drew hb (Nat.le_refl _)
                               clear hb kk))
      all_goals
        go_wp2
        go_ret
        rw [HBY.out]
        first
          | exact ⟨rfl, HB.out⟩
          | exact ⟨rfl, HB.out.alloc HB.out.size _⟩
    · have a1 := cat_byte 2 (Lib.uvarint (Lib.zigzag n))
      have z1 : (S [2]).size = 1 := S_size _
      have z2 := S_size (Lib.uvarint (Lib.zigzag n))
      have z3 := Lib.uvarint_length64 (Lib.zigzag_lt n1 n2)
      go_enter Try.func75, Try.ntmps75
      go_wp2_with (go_at_call 49; refine (CM _).mono ?_; rintro e w1 ⟨rfl, b1⟩; (have B2 : Hid (Below w.heap.size w w1) := bel_of B1.out b1 (Nat.le_refl _)); (have c0 : w1.cell? ⟨w.heap.size, 0, none⟩ = some (.int .i64 2) := (b1.cell (p := ⟨w.heap.size, 0, none⟩) (by simp)).trans (World.cell?_alloc_new _ _ _ _)); (have c1 : w1.cell? ⟨w.heap.size, 1, none⟩ = some (.int .i64 n) := (b1.cell (p := ⟨w.heap.size, 1, none⟩) (by simp)).trans (World.cell?_alloc_new _ _ _ _)); (have hlw : w.heap.size < w1.heap.size := by have := b1.size; rw [World.size_alloc] at this; omega); (have hcv := conv_num (IntKind.u8.wrap 2) 2 (by decide)); clear b1)
      go_region_with (first | (go_at_call 45
                               refine (CI _).mono ?_
                               rintro e w2 ⟨rfl, hb⟩
                               have kk : ∀ i, w2.cell? ⟨w.heap.size, i, none⟩ = w1.cell? ⟨w.heap.size, i, none⟩ := fun i => by
                                 first
                                   | exact (hb.cell (p := ⟨w.heap.size, i, none⟩) (by simp; omega)).trans (((Below.refl w1.heap.size w1).drew).cell (p := ⟨w.heap.size, i, none⟩) hlw)
                                   | exact (hb.cell (p := ⟨w.heap.size, i, none⟩) (by simp; omega)).trans ((((Below.refl w1.heap.size w1).alloc (Nat.le_refl _) (.cells #[.int .u8 (IntKind.u8.wrap 2)] 5)).drew).cell (p := ⟨w.heap.size, i, none⟩) hlw)
                               have k0 := (kk 0).trans c0
                               have k1 := (kk 1).trans c1
                               try have k2 : w2.cell? ⟨w1.heap.size, 0, none⟩ = some (.int .u8 (IntKind.u8.wrap 2)) := (hb.cell (p := ⟨w1.heap.size, 0, none⟩) (by simp)).trans (World.cell?_alloc_new w1 _ _ _)
                               have HB : Hid (Below w.heap.size w w2) := by
                                 first
                                   | exact bel_of B2.out.drew hb (Nat.le_refl _)
                                   | exact bel_of (B2.out.alloc B2.out.size _).drew hb (Nat.le_refl _)
                               clear hb kk))
      all_goals
        go_wp2
        go_ret
        rw [HBY.out]
        first
          | exact ⟨rfl, HB.out⟩
          | exact ⟨rfl, HB.out.alloc HB.out.size _⟩
    · have a1 : (⟨#[3]⟩ : ByteArray) ++ S (txt s) = S (3 :: txt s) := cat_byte 3 (txt s)
      have z2 := S_size (txt s)
      have z3 : (txt s).length ≤ 1034 := by have := Lib.uvarint_length64 (show s.length < 18446744073709551616 by omega); rw [txt_length]; omega
      go_enter Try.func75, Try.ntmps75
      go_wp2_with (first
        | (go_at_call 49; refine (CM _).mono ?_; rintro e w1 ⟨rfl, b1⟩; (have B2 : Hid (Below w.heap.size w w1) := bel_of B1.out b1 (Nat.le_refl _)); (have c0 := (b1.cell (p := ⟨w.heap.size, 0, none⟩) (by simp)).trans (World.cell?_alloc_new _ _ _ _)); (have c2 := (b1.cell (p := ⟨w.heap.size, 2, none⟩) (by simp)).trans (World.cell?_alloc_new _ _ _ _)); clear b1)
        | (go_at_call 46; refine (CT _).mono ?_; rintro e w2 ⟨rfl, b2⟩; (have B3 : Hid (Below w.heap.size w w2) := bel_of B2.out b2 (Nat.le_refl _)); clear b2))
      go_ret
      rw [HBY.out]
      exact ⟨rfl, B3.out⟩
end Go.Proofs.Ytippnkendoghpaa

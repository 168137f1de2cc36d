/-
  Package fold's put: an element takes the place of the one of its key, or stands where the keys rise.
-/
import Derived.Test.YthmfcloecmnfnaaGreatF13Put
import Derived.Test.YthmfcloecmnfnaaGreatF13In2
namespace Go.Proofs.YthmfcloecmnfnaaGreat.f13
open Go.RowKit Go.Shelf Go.Sort
open Go.Lib hiding intOf

set_option maxHeartbeats 2000000 in
set_option maxRecDepth 100000 in
theorem putTk1_any (x : Tk) (m : Nat) {w : World} {lb mb kb : Nat} (hl : w.cell? ⟨lb, 0, none⟩ = some (.func (.func 86) #[] #[])) (hm : w.cell? ⟨mb, 0, none⟩ = some (kU m)) (hk : w.cell? ⟨kb, 0, none⟩ = some (.func (.func 88) #[] #[])) :
    Calls Tryz.prog 144 #[.agg (Tk.c x).toArray, .pointer (some ⟨lb, 0, none⟩), .pointer (some ⟨mb, 0, none⟩), .pointer (some ⟨kb, 0, none⟩)] w fun e w' => e = .returned (.bool (ltU m x.kk)) ∧ Below w.heap.size w w' := by
  have CK := fun W => keyTk_any x W
  have CL := fun W => lessU_any m x.kk W
  have hll := World.block_lt_of_cell? w _ hl
  have hml := World.block_lt_of_cell? w _ hm
  have hkl := World.block_lt_of_cell? w _ hk
  obtain ⟨x0, x1, x2, x3, x4, x5⟩ := x
  simp only [Tk.c, Tk.kk, kU] at CK CL hm ⊢
  have hb0 : Below w.heap.size w (w.alloc (.cells #[.int .u64 (x0 : Int), .int .u64 (x1 : Int), .int .u64 (x2 : Int), .int .i64 x3, .int .i64 x4, .string (S x5)] 66)) := (Below.refl _ w).alloc (Nat.le_refl _) _
  have HS : Hid (∀ W, Below (w.alloc (.cells #[.int .u64 (x0 : Int), .int .u64 (x1 : Int), .int .u64 (x2 : Int), .int .i64 x3, .int .i64 x4, .string (S x5)] 66)).heap.size (w.alloc (.cells #[.int .u64 (x0 : Int), .int .u64 (x1 : Int), .int .u64 (x2 : Int), .int .i64 x3, .int .i64 x4, .string (S x5)] 66)) W → W.cell? ⟨lb, 0, none⟩ = some (.func (.func 86) #[] #[]) ∧ W.cell? ⟨mb, 0, none⟩ = some (.int .u64 (m : Int)) ∧ W.cell? ⟨kb, 0, none⟩ = some (.func (.func 88) #[] #[]) ∧ W.cell? ⟨w.heap.size, 0, none⟩ = some (.int .u64 (x0 : Int)) ∧ W.cell? ⟨w.heap.size, 1, none⟩ = some (.int .u64 (x1 : Int)) ∧ W.cell? ⟨w.heap.size, 2, none⟩ = some (.int .u64 (x2 : Int)) ∧ W.cell? ⟨w.heap.size, 3, none⟩ = some (.int .i64 x3) ∧ W.cell? ⟨w.heap.size, 4, none⟩ = some (.int .i64 x4) ∧ W.cell? ⟨w.heap.size, 5, none⟩ = some (.string (S x5))) := by
    intro W hW
    have hsz : w.heap.size < (w.alloc (.cells #[.int .u64 (x0 : Int), .int .u64 (x1 : Int), .int .u64 (x2 : Int), .int .i64 x3, .int .i64 x4, .string (S x5)] 66)).heap.size := by simp
    exact ⟨(hW.cell (p := ⟨lb, 0, none⟩) (by simp at hll ⊢; omega)).trans ((hb0.cell (p := ⟨lb, 0, none⟩) hll).trans hl), (hW.cell (p := ⟨mb, 0, none⟩) (by simp at hml ⊢; omega)).trans ((hb0.cell (p := ⟨mb, 0, none⟩) hml).trans hm), (hW.cell (p := ⟨kb, 0, none⟩) (by simp at hkl ⊢; omega)).trans ((hb0.cell (p := ⟨kb, 0, none⟩) hkl).trans hk), (hW.cell (p := ⟨w.heap.size, 0, none⟩) hsz).trans (World.cell?_alloc_new _ _ _ _), (hW.cell (p := ⟨w.heap.size, 1, none⟩) hsz).trans (World.cell?_alloc_new _ _ _ _), (hW.cell (p := ⟨w.heap.size, 2, none⟩) hsz).trans (World.cell?_alloc_new _ _ _ _), (hW.cell (p := ⟨w.heap.size, 3, none⟩) hsz).trans (World.cell?_alloc_new _ _ _ _), (hW.cell (p := ⟨w.heap.size, 4, none⟩) hsz).trans (World.cell?_alloc_new _ _ _ _), (hW.cell (p := ⟨w.heap.size, 5, none⟩) hsz).trans (World.cell?_alloc_new _ _ _ _)⟩
  have B1 : Hid (Below w.heap.size w (w.alloc (.cells #[.int .u64 (x0 : Int), .int .u64 (x1 : Int), .int .u64 (x2 : Int), .int .i64 x3, .int .i64 x4, .string (S x5)] 66))) := hb0
  clear hb0 hk hm hl hkl hml hll
  go_enter Tryz.func144, Tryz.ntmps144
  go_wp2
  generalize (w.alloc (.cells #[.int .u64 (x0 : Int), .int .u64 (x1 : Int), .int .u64 (x2 : Int), .int .i64 x3, .int .i64 x4, .string (S x5)] 66)) = W1 at *
  obtain ⟨c0, c1, c2, c3, c4, c5, c6, c7, c8⟩ := HS.out _ (Below.refl _ _)
  go_region_held3 (fun W => W.cell? ⟨lb, 0, none⟩ = some (.func (.func 86) #[] #[]) ∧ W.cell? ⟨mb, 0, none⟩ = some (.int .u64 (m : Int)) ∧ W.cell? ⟨kb, 0, none⟩ = some (.func (.func 88) #[] #[]) ∧ W.cell? ⟨w.heap.size, 0, none⟩ = some (.int .u64 (x0 : Int)) ∧ W.cell? ⟨w.heap.size, 1, none⟩ = some (.int .u64 (x1 : Int)) ∧ W.cell? ⟨w.heap.size, 2, none⟩ = some (.int .u64 (x2 : Int)) ∧ W.cell? ⟨w.heap.size, 3, none⟩ = some (.int .i64 x3) ∧ W.cell? ⟨w.heap.size, 4, none⟩ = some (.int .i64 x4) ∧ W.cell? ⟨w.heap.size, 5, none⟩ = some (.string (S x5)))
    (first | go_keep | exact HS.out _ (Below.refl _ _) | exact HS.out _ (Below.refl _ _).drew | exact HS.out _ hX)
    (first
      | (go_at_call 88; refine (CK _).mono ?_; rintro e u1 ⟨rfl, hX0⟩; (have hX : Below W1.heap.size W1 u1 := (Below.refl _ W1).drew.trans (hX0.mono (Nat.le_refl _))); (have B2 : Hid (Below w.heap.size w u1) := bel_of B1.out hX (Nat.le_refl _)); clear hX0)
      | (go_at_call 86; refine (CL _).mono ?_; rintro e u2 ⟨rfl, hu2⟩; rw [hu2]; clear hu2))
  all_goals
    go_wp2
    go_ret
    exact ⟨by simp, B2.out⟩

/-- what put hands back -/
def PtTk (B : Nat) (w : World) (v : Value) (l : List Tk) (e : Ending) (w' : World) : Prop := ∃ v', e = .returned v' ∧ w'.ownsRow B 66 6 v' l.length (l.flatMap Tk.c) ∧ Ch (fun g => v.ownBlock = some g) w w' ∧ ∀ g, v'.ownBlock = some g → v.ownBlock = some g ∨ w.heap.size ≤ g
set_option maxHeartbeats 8000000 in
set_option maxRecDepth 100000 in
theorem putTk_any {B : Nat} {w : World} {v : Value} {l : List Tk} (x : Tk) (h : w.ownsRow B 66 6 v l.length (l.flatMap Tk.c)) (hB : B ≤ w.heap.size) (hbig : (l.length + 1) * 56 ≤ 211106232528000) :
    Calls Tryz.prog 87 #[v, .agg (Tk.c x).toArray, (.func (.func 88) #[] #[]), (.func (.func 86) #[] #[])] w (PtTk B w v (putL Tk.kk ltU l x)) := by
  have hn : l.length ≤ 4611686018427387904 := by omega
  obtain ⟨a0, c0, hs, -, hnc, hc63⟩ := row_slice h
  subst hs
  have CK := fun W => keyTk_any x W
  have CO := fun W => ofTk_any x.kk W
  have HP1 := fun (y : Tk) (W : World) (lb mb kb : Nat) (a1 : W.cell? ⟨lb, 0, none⟩ = some (.func (.func 86) #[] #[])) (a2 : W.cell? ⟨mb, 0, none⟩ = some (kU x.kk)) (a3 : W.cell? ⟨kb, 0, none⟩ = some (.func (.func 88) #[] #[])) => putTk1_any y x.kk a1 a2 a3
  have HR : Hid (w.ownsRow B 66 6 (.slice a0 l.length c0) l.length (l.flatMap Tk.c)) := h
  have HX : Hid (x = x) := rfl
  obtain ⟨x0, x1, x2, x3, x4, x5⟩ := x
  simp only [Tk.c, Tk.kk, kU] at CK CO HP1 ⊢
  have HS : Hid (∀ W, Below (((w.alloc (.cells #[.int .u64 (x0 : Int), .int .u64 (x1 : Int), .int .u64 (x2 : Int), .int .i64 x3, .int .i64 x4, .string (S x5)] 66)).alloc (.cells #[(.func (.func 88) #[] #[])] 143)).alloc (.cells #[(.func (.func 86) #[] #[])] 141)).heap.size (((w.alloc (.cells #[.int .u64 (x0 : Int), .int .u64 (x1 : Int), .int .u64 (x2 : Int), .int .i64 x3, .int .i64 x4, .string (S x5)] 66)).alloc (.cells #[(.func (.func 88) #[] #[])] 143)).alloc (.cells #[(.func (.func 86) #[] #[])] 141)) W → W.cell? ⟨w.heap.size, 0, none⟩ = some (.int .u64 (x0 : Int)) ∧ W.cell? ⟨w.heap.size, 1, none⟩ = some (.int .u64 (x1 : Int)) ∧ W.cell? ⟨w.heap.size, 2, none⟩ = some (.int .u64 (x2 : Int)) ∧ W.cell? ⟨w.heap.size, 3, none⟩ = some (.int .i64 x3) ∧ W.cell? ⟨w.heap.size, 4, none⟩ = some (.int .i64 x4) ∧ W.cell? ⟨w.heap.size, 5, none⟩ = some (.string (S x5)) ∧ W.cell? ⟨w.heap.size + 1, 0, none⟩ = some (.func (.func 88) #[] #[]) ∧ W.cell? ⟨w.heap.size + 1 + 1, 0, none⟩ = some (.func (.func 86) #[] #[])) := by
    intro W hW
    have e9 : (((w.alloc (.cells #[.int .u64 (x0 : Int), .int .u64 (x1 : Int), .int .u64 (x2 : Int), .int .i64 x3, .int .i64 x4, .string (S x5)] 66)).alloc (.cells #[(.func (.func 88) #[] #[])] 143)).alloc (.cells #[(.func (.func 86) #[] #[])] 141)).heap.size = w.heap.size + 3 := by simp
    rw [e9] at hW
    refine ⟨?_, ?_, ?_, ?_, ?_, ?_, ?_, ?_⟩
    · exact (hW.cell (p := ⟨w.heap.size, 0, none⟩) (by simp only; omega)).trans (by go_simp)
    · exact (hW.cell (p := ⟨w.heap.size, 1, none⟩) (by simp only; omega)).trans (by go_simp)
    · exact (hW.cell (p := ⟨w.heap.size, 2, none⟩) (by simp only; omega)).trans (by go_simp)
    · exact (hW.cell (p := ⟨w.heap.size, 3, none⟩) (by simp only; omega)).trans (by go_simp)
    · exact (hW.cell (p := ⟨w.heap.size, 4, none⟩) (by simp only; omega)).trans (by go_simp)
    · exact (hW.cell (p := ⟨w.heap.size, 5, none⟩) (by simp only; omega)).trans (by go_simp)
    · exact (hW.cell (p := ⟨w.heap.size + 1, 0, none⟩) (by simp only; omega)).trans (by go_simp)
    · exact (hW.cell (p := ⟨w.heap.size + 1 + 1, 0, none⟩) (by simp only; omega)).trans (by go_simp)
  have B0 : Hid (Below w.heap.size w (((w.alloc (.cells #[.int .u64 (x0 : Int), .int .u64 (x1 : Int), .int .u64 (x2 : Int), .int .i64 x3, .int .i64 x4, .string (S x5)] 66)).alloc (.cells #[(.func (.func 88) #[] #[])] 143)).alloc (.cells #[(.func (.func 86) #[] #[])] 141))) := (((Below.refl _ w).alloc (Nat.le_refl _) _).alloc (by simp) _).alloc (by simp; omega) _
  have putm : ∀ {w1 : World} (HS : ∀ W, Below (((w.alloc (.cells #[.int .u64 (x0 : Int), .int .u64 (x1 : Int), .int .u64 (x2 : Int), .int .i64 x3, .int .i64 x4, .string (S x5)] 66)).alloc (.cells #[(.func (.func 88) #[] #[])] 143)).alloc (.cells #[(.func (.func 86) #[] #[])] 141)).heap.size (((w.alloc (.cells #[.int .u64 (x0 : Int), .int .u64 (x1 : Int), .int .u64 (x2 : Int), .int .i64 x3, .int .i64 x4, .string (S x5)] 66)).alloc (.cells #[(.func (.func 88) #[] #[])] 143)).alloc (.cells #[(.func (.func 86) #[] #[])] 141)) W → W.cell? ⟨w.heap.size, 0, none⟩ = some (.int .u64 (x0 : Int)) ∧ W.cell? ⟨w.heap.size, 1, none⟩ = some (.int .u64 (x1 : Int)) ∧ W.cell? ⟨w.heap.size, 2, none⟩ = some (.int .u64 (x2 : Int)) ∧ W.cell? ⟨w.heap.size, 3, none⟩ = some (.int .i64 x3) ∧ W.cell? ⟨w.heap.size, 4, none⟩ = some (.int .i64 x4) ∧ W.cell? ⟨w.heap.size, 5, none⟩ = some (.string (S x5)) ∧ W.cell? ⟨w.heap.size + 1, 0, none⟩ = some (.func (.func 88) #[] #[]) ∧ W.cell? ⟨w.heap.size + 1 + 1, 0, none⟩ = some (.func (.func 86) #[] #[])), Below (((w.alloc (.cells #[.int .u64 (x0 : Int), .int .u64 (x1 : Int), .int .u64 (x2 : Int), .int .i64 x3, .int .i64 x4, .string (S x5)] 66)).alloc (.cells #[(.func (.func 88) #[] #[])] 143)).alloc (.cells #[(.func (.func 86) #[] #[])] 141)).heap.size (((w.alloc (.cells #[.int .u64 (x0 : Int), .int .u64 (x1 : Int), .int .u64 (x2 : Int), .int .i64 x3, .int .i64 x4, .string (S x5)] 66)).alloc (.cells #[(.func (.func 88) #[] #[])] 143)).alloc (.cells #[(.func (.func 86) #[] #[])] 141)) w1 → ∀ W, Below (w1.alloc (.cells #[.int .u64 (x0 : Int)] 22)).heap.size (w1.alloc (.cells #[.int .u64 (x0 : Int)] 22)) W → (W.cell? ⟨w.heap.size, 0, none⟩ = some (.int .u64 (x0 : Int)) ∧ W.cell? ⟨w.heap.size, 1, none⟩ = some (.int .u64 (x1 : Int)) ∧ W.cell? ⟨w.heap.size, 2, none⟩ = some (.int .u64 (x2 : Int)) ∧ W.cell? ⟨w.heap.size, 3, none⟩ = some (.int .i64 x3) ∧ W.cell? ⟨w.heap.size, 4, none⟩ = some (.int .i64 x4) ∧ W.cell? ⟨w.heap.size, 5, none⟩ = some (.string (S x5)) ∧ W.cell? ⟨w.heap.size + 1, 0, none⟩ = some (.func (.func 88) #[] #[]) ∧ W.cell? ⟨w.heap.size + 1 + 1, 0, none⟩ = some (.func (.func 86) #[] #[]) ∧ W.cell? ⟨w1.heap.size, 0, none⟩ = some (.int .u64 (x0 : Int))) ∧ Below w.heap.size w W := by
    intro w1 HS b1 W hW
    have b2 : Below w1.heap.size w1 (w1.alloc (.cells #[.int .u64 (x0 : Int)] 22)) := (Ch.below ((Ch.refl (fun b => b = w1.heap.size) w1).alloc _) (Nat.le_refl _) (fun b hb e => by omega))
    have b3 := bel_of b2 hW (Nat.le_refl _)
    have b4 := bel_of b1 b3 (Nat.le_refl _)
    have e1 : (w1.alloc (.cells #[.int .u64 (x0 : Int)] 22)).cell? ⟨w1.heap.size, 0, none⟩ = some (.int .u64 (x0 : Int)) := by go_simp
    obtain ⟨q0, q1, q2, q3, q4, q5, q6, q7⟩ := HS W b4
    exact ⟨⟨q0, q1, q2, q3, q4, q5, q6, q7, (hW.cell (p := ⟨w1.heap.size, 0, none⟩) (by simp)).trans e1⟩, bel_of B0.out b4 (Nat.le_refl _)⟩
  clear h HX
  cases hF : l.findIdx? (fun y => y.kk == x0) with
  | some i =>
    have e1 : fix (fun y => y.kk == x0) l = (i : Int) := by unfold fix; rw [hF]
    have hi := (List.findIdx?_eq_some_iff_getElem.1 hF).1
    have HE : Hid (putL Tk.kk ltU l ⟨x0, x1, x2, x3, x4, x5⟩ = l.set i ⟨x0, x1, x2, x3, x4, x5⟩) := by show _ = _; unfold putL; simp only [Tk.kk] at hF ⊢; rw [hF]
    obtain ⟨g, cap, hsl, hcap⟩ := row_any HR.out (by omega)
    obtain ⟨rfl, rfl⟩ : a0 = some ⟨g, 0, none⟩ ∧ c0 = cap := by injection hsl with e1 _ e2; exact ⟨e1, e2⟩
    have HN : Hid (∀ W, Below w.heap.size w W → PtTk B w (.slice (some ⟨g, 0, none⟩) l.length c0) (l.set i ⟨x0, x1, x2, x3, x4, x5⟩) (.returned (.slice (some ⟨g, 0, none⟩) l.length c0)) (W.setCells g (i * 6) (Tk.c ⟨x0, x1, x2, x3, x4, x5⟩)) ∧ (∃ u, W.cell? ⟨g, i * 6 + 0, none⟩ = some u) ∧ W.frozen? ⟨g, i * 6 + 0, none⟩ = false ∧ (∃ u, W.cell? ⟨g, i * 6 + 1, none⟩ = some u) ∧ W.frozen? ⟨g, i * 6 + 1, none⟩ = false ∧ (∃ u, W.cell? ⟨g, i * 6 + 2, none⟩ = some u) ∧ W.frozen? ⟨g, i * 6 + 2, none⟩ = false ∧ (∃ u, W.cell? ⟨g, i * 6 + 3, none⟩ = some u) ∧ W.frozen? ⟨g, i * 6 + 3, none⟩ = false ∧ (∃ u, W.cell? ⟨g, i * 6 + 4, none⟩ = some u) ∧ W.frozen? ⟨g, i * 6 + 4, none⟩ = false ∧ (∃ u, W.cell? ⟨g, i * 6 + 5, none⟩ = some u) ∧ W.frozen? ⟨g, i * 6 + 5, none⟩ = false) := by
      intro W hW
      have r1 := (Ch.of_below (X := fun _ => False) hW).row HR.out (fun _ _ e => e)
      have cc : ∀ n, n < 6 → ∃ u, W.cell? ⟨g, i * 6 + n, none⟩ = some u := fun n hn => by
        refine ⟨(Tk.c l[i])[n]'(by rw [Tk.k]; exact hn), row_cell r1 ?_⟩
        rw [fm_get Tk.k _ i n hn, List.getElem?_eq_getElem hi]
        exact List.getElem?_eq_getElem _
      refine ⟨⟨_, rfl, ?_, ch_setCells (Ch.of_below hW) g _ _ (fun _ => rfl), fun b hb => .inl hb⟩, cc 0 (by omega), row_fro r1 _, cc 1 (by omega), row_fro r1 _, cc 2 (by omega), row_fro r1 _, cc 3 (by omega), row_fro r1 _, cc 4 (by omega), row_fro r1 _, cc 5 (by omega), row_fro r1 _⟩
      rw [List.length_set]
      exact row_elem Tk.k r1 i hi _
    rw [HE.out]
    have hi0 : (0 : Int) ≤ (i : Int) := by omega
    have hil : (i : Int) < (l.length : Int) := by omega
    clear hF HP1
    go_enter Tryz.func87, Tryz.ntmps87
    go_wp2_with (first
      | (go_at_call 88; refine (CK _).mono ?_; rintro e w1 ⟨rfl, b1⟩; (have HM : Hid (∀ W, Below (w1.alloc (.cells #[.int .u64 (x0 : Int)] 22)).heap.size (w1.alloc (.cells #[.int .u64 (x0 : Int)] 22)) W → (W.cell? ⟨w.heap.size, 0, none⟩ = some (.int .u64 (x0 : Int)) ∧ W.cell? ⟨w.heap.size, 1, none⟩ = some (.int .u64 (x1 : Int)) ∧ W.cell? ⟨w.heap.size, 2, none⟩ = some (.int .u64 (x2 : Int)) ∧ W.cell? ⟨w.heap.size, 3, none⟩ = some (.int .i64 x3) ∧ W.cell? ⟨w.heap.size, 4, none⟩ = some (.int .i64 x4) ∧ W.cell? ⟨w.heap.size, 5, none⟩ = some (.string (S x5)) ∧ W.cell? ⟨w.heap.size + 1, 0, none⟩ = some (.func (.func 88) #[] #[]) ∧ W.cell? ⟨w.heap.size + 1 + 1, 0, none⟩ = some (.func (.func 86) #[] #[]) ∧ W.cell? ⟨w1.heap.size, 0, none⟩ = some (.int .u64 (x0 : Int))) ∧ Below w.heap.size w W) := putm (HS := HS.out) b1); obtain ⟨q0, q1, q2, q3, q4, q5, q6, q7⟩ := HS.out w1 b1; (have hz1 : w.heap.size + 3 ≤ w1.heap.size := by (have := b1.size; simp at this; omega)); (have n0 : w.heap.size < w1.heap.size := by omega); (have n1 : w.heap.size + 1 < w1.heap.size := by omega); (have n2 : w.heap.size + 1 + 1 < w1.heap.size := by omega); clear b1 CK)
      | (go_at_call 90; refine (CO _).mono ?_; rintro e w2 ⟨caps, rfl, hsay, b2⟩; obtain ⟨⟨r0, r1, r2, r3, r4, r5, r6, r7, r8⟩, hB2⟩ := HM.out w2 b2; (have CI := indexTk_any (X := fun _ => False) (fun y => y.kk == x0) ((Rr.row Tk.k HR.out).up hB2) hn (enters_of Tryz.func147 (by kernel_rfl) rfl) (fun y hy => hsay (fun _ => False) (fun _ e => e.elim) y)); (have B2 : Hid (Below w.heap.size w w2) := hB2); (have BM : Hid (Below (w1.alloc (.cells #[.int .u64 (x0 : Int)] 22)).heap.size (w1.alloc (.cells #[.int .u64 (x0 : Int)] 22)) w2) := b2); rw [e1] at CI; clear hsay b2 CO hB2 q0 q1 q2 q3 q4 q5 q6 q7)
      | (go_at_call 143; refine CI.mono ?_; rintro e w3 ⟨rfl, b3⟩; (have B3 : Hid (Below w.heap.size w w3) := bel_of B2.out b3 (Nat.le_refl _)); obtain ⟨⟨t0, t1, t2, t3, t4, t5, t6, t7, t8⟩, -⟩ := HM.out w3 (bel_of BM.out b3 (Nat.le_refl _)); obtain ⟨hpt, ⟨u0, p0⟩, f0, ⟨u1, p1⟩, f1, ⟨u2, p2⟩, f2, ⟨u3, p3⟩, f3, ⟨u4, p4⟩, f4, ⟨u5, p5⟩, f5⟩ := HN.out w3 B3.out; (have HPt : Hid _ := hpt); clear hpt HN; simp only [Nat.add_zero] at p0 f0; clear b3 CI r0 r1 r2 r3 r4 r5 r6 r7 r8))
    go_ret
    exact HPt.out
  | none =>
    have e1 : fix (fun y => y.kk == x0) l = -1 := by unfold fix; rw [hF]
    have hne : ¬ (0 : Int) ≤ -1 := by omega
    have CI2 : ∀ W, Below w.heap.size w W → ∀ lb mb kb, W.cell? ⟨lb, 0, none⟩ = some (.func (.func 86) #[] #[]) → W.cell? ⟨mb, 0, none⟩ = some (.int .u64 (x0 : Int)) → W.cell? ⟨kb, 0, none⟩ = some (.func (.func 88) #[] #[]) → Calls Tryz.prog 143 #[.slice a0 l.length c0, .func (.func 144) #[] #[.pointer (some ⟨lb, 0, none⟩), .pointer (some ⟨mb, 0, none⟩), .pointer (some ⟨kb, 0, none⟩)]] W fun e w' => e = .returned (.int .i64 (fix (fun y => ltU x0 y.kk) l)) ∧ Below W.heap.size W w' := fun W hW lb mb kb d1 d2 d3 =>
      indexTk_any (X := fun _ => False) (fun y => ltU x0 y.kk) ((Rr.row Tk.k HR.out).up hW) hn (enters_of Tryz.func144 (by kernel_rfl) rfl) (fun y hy W' hW' => HP1 y W' lb mb kb (hW'.cell d1 (fun e => e)) (hW'.cell d2 (fun e => e)) (hW'.cell d3 (fun e => e)))
    cases hG : l.findIdx? (fun y => ltU x0 y.kk) with
    | some i =>
      have e2 : fix (fun y => ltU x0 y.kk) l = (i : Int) := by unfold fix; rw [hG]
      rw [e2] at CI2
      have hi := (List.findIdx?_eq_some_iff_getElem.1 hG).1
      have HE : Hid (putL Tk.kk ltU l ⟨x0, x1, x2, x3, x4, x5⟩ = l.take i ++ ⟨x0, x1, x2, x3, x4, x5⟩ :: l.drop i) := by show _ = _; unfold putL; simp only [Tk.kk] at hF hG ⊢; rw [hF, hG]
      rw [HE.out]
      have HI : Hid (∀ W, Below w.heap.size w W → Calls Tryz.prog 145 #[.slice a0 l.length c0, .int .i64 (i : Int), .slice (some ⟨W.heap.size, 0, none⟩) 1 1] (W.alloc (.cells #[.int .u64 (x0 : Int), .int .u64 (x1 : Int), .int .u64 (x2 : Int), .int .i64 x3, .int .i64 x4, .string (S x5)] 66)) (PtTk B w (.slice a0 l.length c0) (l.take i ++ ⟨x0, x1, x2, x3, x4, x5⟩ :: l.drop i))) := by
        intro W hW
        have hW' : Below w.heap.size w (W.alloc (.cells #[.int .u64 (x0 : Int), .int .u64 (x1 : Int), .int .u64 (x2 : Int), .int .i64 x3, .int .i64 x4, .string (S x5)] 66)) := hW.trans ((Below.refl _ W).alloc hW.size _)
        have r1 := (Ch.of_below (X := fun _ => False) hW').row (row_zero HR.out) (fun _ _ e => e)
        refine (insert_anyTk (vb := W.heap.size) (i := i) r1 (heap_alloc_new W _) rfl rfl rfl rfl rfl rfl (Tk.one) (fun e => by have := (HR.out.lt _ e).2; have := hW.size; omega) (by omega) hbig).mono ?_
        rintro e w4 ⟨g, cap, rfl, r4, g4, h4⟩
        have hln : (l.take i ++ ⟨x0, x1, x2, x3, x4, x5⟩ :: l.drop i).length = l.length + 1 := by simp; omega
        have hwh : ∀ b, (some g : Option Nat) = some b → (Value.slice a0 l.length c0).ownBlock = some b ∨ w.heap.size ≤ b := fun b hb => by
          cases hb
          rcases h4 with h4 | h4
          · exact .inl h4
          · right; have := hW'.size; omega
        refine ⟨_, rfl, ?_, ?_, hwh⟩
        · rw [hln, ← fm_ins Tk.k l i ⟨x0, x1, x2, x3, x4, x5⟩]
          refine row_base r4 (fun b hb => ?_)
          rcases hwh b hb with e | e
          · exact (HR.out.lt b e).1
          · omega
        · exact (Ch.of_below hW').trans (Ch.of_grown g4 (fun b hb _ => hb))
      have hi0 : (0 : Int) ≤ (i : Int) := by omega
      clear hF hG HP1 HE
      go_enter Tryz.func87, Tryz.ntmps87
      go_wp2_with (first
        | (go_at_call 88; refine (CK _).mono ?_; rintro e w1 ⟨rfl, b1⟩; (have HM : Hid (∀ W, Below (w1.alloc (.cells #[.int .u64 (x0 : Int)] 22)).heap.size (w1.alloc (.cells #[.int .u64 (x0 : Int)] 22)) W → (W.cell? ⟨w.heap.size, 0, none⟩ = some (.int .u64 (x0 : Int)) ∧ W.cell? ⟨w.heap.size, 1, none⟩ = some (.int .u64 (x1 : Int)) ∧ W.cell? ⟨w.heap.size, 2, none⟩ = some (.int .u64 (x2 : Int)) ∧ W.cell? ⟨w.heap.size, 3, none⟩ = some (.int .i64 x3) ∧ W.cell? ⟨w.heap.size, 4, none⟩ = some (.int .i64 x4) ∧ W.cell? ⟨w.heap.size, 5, none⟩ = some (.string (S x5)) ∧ W.cell? ⟨w.heap.size + 1, 0, none⟩ = some (.func (.func 88) #[] #[]) ∧ W.cell? ⟨w.heap.size + 1 + 1, 0, none⟩ = some (.func (.func 86) #[] #[]) ∧ W.cell? ⟨w1.heap.size, 0, none⟩ = some (.int .u64 (x0 : Int))) ∧ Below w.heap.size w W) := putm (HS := HS.out) b1); obtain ⟨q0, q1, q2, q3, q4, q5, q6, q7⟩ := HS.out w1 b1; (have hz1 : w.heap.size + 3 ≤ w1.heap.size := by (have := b1.size; simp at this; omega)); (have n0 : w.heap.size < w1.heap.size := by omega); (have n1 : w.heap.size + 1 < w1.heap.size := by omega); (have n2 : w.heap.size + 1 + 1 < w1.heap.size := by omega); clear b1 CK)
        | (go_at_call 90; refine (CO _).mono ?_; rintro e w2 ⟨caps, rfl, hsay, b2⟩; obtain ⟨⟨r0, r1, r2, r3, r4, r5, r6, r7, r8⟩, hB2⟩ := HM.out w2 b2; (have CI := indexTk_any (X := fun _ => False) (fun y => y.kk == x0) ((Rr.row Tk.k HR.out).up hB2) hn (enters_of Tryz.func147 (by kernel_rfl) rfl) (fun y hy => hsay (fun _ => False) (fun _ e => e.elim) y)); (have B2 : Hid (Below w.heap.size w w2) := hB2); (have BM : Hid (Below (w1.alloc (.cells #[.int .u64 (x0 : Int)] 22)).heap.size (w1.alloc (.cells #[.int .u64 (x0 : Int)] 22)) w2) := b2); rw [e1] at CI; clear hsay b2 CO hB2 q0 q1 q2 q3 q4 q5 q6 q7)
        | (go_at_call 143; refine CI.mono ?_; rintro e w3 ⟨rfl, b3⟩; (have B3 : Hid (Below w.heap.size w w3) := bel_of B2.out b3 (Nat.le_refl _)); obtain ⟨⟨t0, t1, t2, t3, t4, t5, t6, t7, t8⟩, -⟩ := HM.out w3 (bel_of BM.out b3 (Nat.le_refl _)); (have CJ := CI2 w3 B3.out _ _ _ t7 t8 t6); clear CI2; (have BN : Hid (Below (w1.alloc (.cells #[.int .u64 (x0 : Int)] 22)).heap.size (w1.alloc (.cells #[.int .u64 (x0 : Int)] 22)) w3) := bel_of BM.out b3 (Nat.le_refl _)); clear b3 CI r0 r1 r2 r3 r4 r5 r6 r7 r8)
        | (go_at_call 143; refine CJ.mono ?_; rintro e w4 ⟨rfl, b4⟩; obtain ⟨⟨v0, v1, v2, v3, v4, v5, v6, v7, v8⟩, -⟩ := HM.out w4 (bel_of BN.out b4 (Nat.le_refl _)); (have CN := HI.out w4 (bel_of B3.out b4 (Nat.le_refl _))); clear b4 CJ HI t0 t1 t2 t3 t4 t5 t6 t7 t8)
        | (go_at_call 145; refine CN.mono ?_; rintro e w5 ⟨v5, rfl, hr5⟩; (have H5 : Hid _ := hr5); clear hr5 CN))
      go_ret
      exact ⟨_, rfl, H5.out⟩
    | none =>
      have e2 : fix (fun y => ltU x0 y.kk) l = -1 := by unfold fix; rw [hG]
      rw [e2] at CI2
      have HE : Hid (putL Tk.kk ltU l ⟨x0, x1, x2, x3, x4, x5⟩ = l ++ [⟨x0, x1, x2, x3, x4, x5⟩]) := by show _ = _; unfold putL; simp only [Tk.kk] at hF hG ⊢; rw [hF, hG]
      rw [HE.out]
      obtain ⟨i9, hi9, hz0, hz1, hz2⟩ := info_parts infoTk
      have HI : Hid (∀ W, Below w.heap.size w W → ∃ v' w', (Builtin.append_ #[25, 25] 25 #[.slice a0 l.length c0, .slice (some ⟨W.heap.size, 0, none⟩) 1 1]).run Tryz.prog (W.alloc (.cells #[.int .u64 (x0 : Int), .int .u64 (x1 : Int), .int .u64 (x2 : Int), .int .i64 x3, .int .i64 x4, .string (S x5)] 66)) = .ok v' w' ∧ PtTk B w (.slice a0 l.length c0) (l ++ [⟨x0, x1, x2, x3, x4, x5⟩]) (.returned v') w') := by
        intro W hW
        have hW' : Below w.heap.size w (W.alloc (.cells #[.int .u64 (x0 : Int), .int .u64 (x1 : Int), .int .u64 (x2 : Int), .int .i64 x3, .int .i64 x4, .string (S x5)] 66)) := hW.trans ((Below.refl _ W).alloc hW.size _)
        have r1 := (Ch.of_below (X := fun _ => False) hW').row (row_zero HR.out) (fun _ _ e => e)
        obtain ⟨gg, cap, w', hrun, r4, g4, h4, -⟩ := run_append_where (P := Tryz.prog) (W.alloc (.cells #[.int .u64 (x0 : Int), .int .u64 (x1 : Int), .int .u64 (x2 : Int), .int .i64 x3, .int .i64 x4, .string (S x5)] 66)) 25 25 66 i9 _ 6 56 Tryz.underlying25 hi9 hz0 hz1 hz2 rfl (by decide) _ _ _ r1 ⟨W.heap.size, 0, none⟩ 1 1 [.int .u64 (x0 : Int), .int .u64 (x1 : Int), .int .u64 (x2 : Int), .int .i64 x3, .int .i64 x4, .string (S x5)] rfl
          (fun j u hj => by rw [Addr.add_lit]; exact cellsTk (heap_alloc_new W _) j u hj) (by intro u hu; simp at hu; rcases hu with rfl | rfl | rfl | rfl | rfl | rfl <;> rfl) (by decide) (by unfold maxLen; omega) (fitsTk _ hbig)
        have hwh : ∀ b, (some gg : Option Nat) = some b → (Value.slice a0 l.length c0).ownBlock = some b ∨ w.heap.size ≤ b := fun b hb => by
          cases hb
          rcases h4 with h4 | h4
          · exact .inl h4
          · right; have := hW'.size; omega
        refine ⟨_, _, hrun, _, rfl, ?_, (Ch.of_below hW').trans (Ch.of_grown g4 (fun b hb _ => hb)), hwh⟩
        rw [List.length_append, List.flatMap_append]
        refine row_base (by simpa [Tk.c] using r4) (fun b hb => ?_)
        rcases hwh b hb with e | e
        · exact (HR.out.lt b e).1
        · omega
      clear hF hG HP1 HE
      go_enter Tryz.func87, Tryz.ntmps87
      go_wp2_with (first
        | (go_at_call 88; refine (CK _).mono ?_; rintro e w1 ⟨rfl, b1⟩; (have HM : Hid (∀ W, Below (w1.alloc (.cells #[.int .u64 (x0 : Int)] 22)).heap.size (w1.alloc (.cells #[.int .u64 (x0 : Int)] 22)) W → (W.cell? ⟨w.heap.size, 0, none⟩ = some (.int .u64 (x0 : Int)) ∧ W.cell? ⟨w.heap.size, 1, none⟩ = some (.int .u64 (x1 : Int)) ∧ W.cell? ⟨w.heap.size, 2, none⟩ = some (.int .u64 (x2 : Int)) ∧ W.cell? ⟨w.heap.size, 3, none⟩ = some (.int .i64 x3) ∧ W.cell? ⟨w.heap.size, 4, none⟩ = some (.int .i64 x4) ∧ W.cell? ⟨w.heap.size, 5, none⟩ = some (.string (S x5)) ∧ W.cell? ⟨w.heap.size + 1, 0, none⟩ = some (.func (.func 88) #[] #[]) ∧ W.cell? ⟨w.heap.size + 1 + 1, 0, none⟩ = some (.func (.func 86) #[] #[]) ∧ W.cell? ⟨w1.heap.size, 0, none⟩ = some (.int .u64 (x0 : Int))) ∧ Below w.heap.size w W) := putm (HS := HS.out) b1); obtain ⟨q0, q1, q2, q3, q4, q5, q6, q7⟩ := HS.out w1 b1; (have hz1 : w.heap.size + 3 ≤ w1.heap.size := by (have := b1.size; simp at this; omega)); (have n0 : w.heap.size < w1.heap.size := by omega); (have n1 : w.heap.size + 1 < w1.heap.size := by omega); (have n2 : w.heap.size + 1 + 1 < w1.heap.size := by omega); clear b1 CK)
        | (go_at_call 90; refine (CO _).mono ?_; rintro e w2 ⟨caps, rfl, hsay, b2⟩; obtain ⟨⟨r0, r1, r2, r3, r4, r5, r6, r7, r8⟩, hB2⟩ := HM.out w2 b2; (have CI := indexTk_any (X := fun _ => False) (fun y => y.kk == x0) ((Rr.row Tk.k HR.out).up hB2) hn (enters_of Tryz.func147 (by kernel_rfl) rfl) (fun y hy => hsay (fun _ => False) (fun _ e => e.elim) y)); (have B2 : Hid (Below w.heap.size w w2) := hB2); (have BM : Hid (Below (w1.alloc (.cells #[.int .u64 (x0 : Int)] 22)).heap.size (w1.alloc (.cells #[.int .u64 (x0 : Int)] 22)) w2) := b2); rw [e1] at CI; clear hsay b2 CO hB2 q0 q1 q2 q3 q4 q5 q6 q7)
        | (go_at_call 143; refine CI.mono ?_; rintro e w3 ⟨rfl, b3⟩; (have B3 : Hid (Below w.heap.size w w3) := bel_of B2.out b3 (Nat.le_refl _)); obtain ⟨⟨t0, t1, t2, t3, t4, t5, t6, t7, t8⟩, -⟩ := HM.out w3 (bel_of BM.out b3 (Nat.le_refl _)); (have CJ := CI2 w3 B3.out _ _ _ t7 t8 t6); clear CI2; (have BN : Hid (Below (w1.alloc (.cells #[.int .u64 (x0 : Int)] 22)).heap.size (w1.alloc (.cells #[.int .u64 (x0 : Int)] 22)) w3) := bel_of BM.out b3 (Nat.le_refl _)); clear b3 CI r0 r1 r2 r3 r4 r5 r6 r7 r8)
        | (go_at_call 143; refine CJ.mono ?_; rintro e w4 ⟨rfl, b4⟩; obtain ⟨⟨v0, v1, v2, v3, v4, v5, v6, v7, v8⟩, -⟩ := HM.out w4 (bel_of BN.out b4 (Nat.le_refl _)); obtain ⟨v5, w5, hrun, hpt⟩ := HI.out w4 (bel_of B3.out b4 (Nat.le_refl _)); (have H5 : Hid _ := hpt); clear b4 CJ HI hpt t0 t1 t2 t3 t4 t5 t6 t7 t8)
        | (at_builtin; refine Lib.wpList_append_run _ rfl _ _ _ _ rfl _ _ rfl rfl _ _ hrun ?_))
      go_ret
      exact H5.out
end Go.Proofs.YthmfcloecmnfnaaGreat.f13
